/-
  WHAT IS ESCAPED COMES BACK, as a text and as a value, over plain lists.
-/
import Derived.Test.YtlpjealcmnnbnaaDoorTokP
namespace Go.Proofs.YtlpjealcmnnbnaaDoor.Tk
open Go.Lib Tx

def gaps : List (List UInt8) := [[32], [9, 10], [32, 32], [13, 32]]
theorem gap_facts {g : List UInt8} (h : g ∈ gaps) : g ≠ [] ∧ (∀ x ∈ g, bl x = true) ∧ valid g = true ∧ g.length ≤ 2 := by
  unfold gaps at h
  simp only [List.mem_cons, List.not_mem_nil, or_false] at h
  rcases h with rfl | rfl | rfl | rfl <;> exact ⟨by simp, by decide, by decide +kernel, by decide⟩
theorem esc_okb {l : List UInt8} (h : valid l = true) : 39 ∉ esc l ∧ 60 ∉ esc l ∧ backO (esc l) = some l := by
  obtain ⟨h1, h2, h3⟩ := esc_text h
  refine ⟨fun hm => ?_, fun hm => ?_, ?_⟩
  · have := h2 _ hm
    exact absurd this (by decide)
  · have := h2 _ hm
    exact absurd this (by decide)
  · unfold backO
    rw [if_pos h1, h3]
def textsL (g v : List UInt8) : List UInt8 := [60, 97] ++ g ++ [98] ++ g ++ [61] ++ g ++ [39] ++ v ++ [39] ++ g ++ [62] ++ v ++ [60, 47, 97] ++ g ++ [62]
theorem texts_cat (g v : List UInt8) : textsL g v = 60 :: ([97] ++ (g ++ ([98] ++ (g ++ 61 :: (g ++ 39 :: (v ++ 39 :: (g ++ 62 :: (v ++ 60 :: 47 :: ([97] ++ (g ++ 62 :: []))))))))))  := by
  unfold textsL
  simp
theorem texts_valid {g v : List UInt8} (hg : valid g = true) (hv : valid v = true) : valid (textsL g v) = true := by
  unfold textsL
  have d1 : valid [60, 97] = true := by decide +kernel
  have d2 : valid [98] = true := by decide +kernel
  have d3 : valid [61] = true := by decide +kernel
  have d4 : valid [39] = true := by decide +kernel
  have d5 : valid [62] = true := by decide +kernel
  have d6 : valid [60, 47, 97] = true := by decide +kernel
  have ap := fun {a b : List UInt8} (x : valid a = true) (y : valid b = true) => (valid_append x y).1
  exact ap (ap (ap (ap (ap (ap (ap (ap (ap (ap (ap (ap (ap (ap d1 hg) d2) hg) d3) hg) d4) hv) d4) hg) d5) hv) d6) hg) d5
theorem texts_told {g s : List UInt8} (hg : g ∈ gaps) (hs : valid s = true) (hl : s.length ≤ 500) :
    (s = [] ∧ ∃ p : Nat, tokensL (textsL g (esc s)) = ([(0, 1, [97], [], [([98], s)], false), (p, 2, [97], [], [], false)], 0, 0)) ∨
    (s ≠ [] ∧ ∃ p q : Nat, tokensL (textsL g (esc s)) = ([(0, 1, [97], [], [([98], s)], false), (p, 3, [], s, [], false), (q, 2, [97], [], [], false)], 0, 0)) := by
  obtain ⟨g0, g1, g2, g3⟩ := gap_facts hg
  obtain ⟨e1, e2, e3⟩ := esc_okb hs
  have e4 := esc_len s
  have hn97 : ∃ c t, ([97] : List UInt8) = c :: t ∧ beg c = true := ⟨97, [], rfl, by decide⟩
  have hn98 : ∃ c t, ([98] : List UInt8) = c :: t ∧ beg c = true := ⟨98, [], rfl, by decide⟩
  have hw97 : ∀ x ∈ ([97] : List UInt8), wi x = true := by decide
  have hw98 : ∀ x ∈ ([98] : List UInt8), wi x = true := by decide
  obtain ⟨v, hv⟩ : ∃ v, esc s = v := ⟨_, rfl⟩
  rw [hv] at e1 e2 e3 e4 ⊢
  have hvv : valid v = true := by rw [← hv]; exact (esc_text hs).1
  have hC : tokL (60 :: 47 :: ([97] ++ (g ++ 62 :: []))) = some ((2, [97], [], [], false), []) := by
    rw [tok_close]
    exact close_mk [] hn97 hw97 g1
  have WC := Walks.cons hC (by decide) .nil
  have hA : ∀ R : List UInt8, attrL (g ++ ([98] ++ (g ++ 61 :: (g ++ 39 :: (v ++ 39 :: R))))) = some (([98], s), R) := fun R => attrL_mk R g0 g1 hn98 hw98 g1 g1 (.inr rfl) e1 e3
  have hO : ∀ R : List UInt8, tokL (60 :: ([97] ++ (g ++ ([98] ++ (g ++ 61 :: (g ++ 39 :: (v ++ 39 :: (g ++ 62 :: R)))))))) = some ((1, [97], [], [([98], s)], false), R) := fun R => by
    rw [tok_open (fun x e => by injection e with e _; exact absurd e (by decide))]
    unfold openL
    rw [name_mk hn97 hw97 (by
      cases g with
      | nil => exact absurd rfl g0
      | cons c g => exact .cons _ (bl_facts (g1 c (by simp))).1)]
    simp only
    rw [if_neg (by simp), many_step shrinksA (x := ([98], s)) (r := g ++ 62 :: R) (by unfold nextA; rw [hA]; rfl), many_stop (no_attr g1 (.inr rfl) R _)]
    unfold ends
    simp only
    rw [(tw_app (p := bl) (u := g) (v := 62 :: R) g1 (.cons _ (by decide))).2]
    rfl
  have hlen : (textsL g v).length ≤ 20000 := by
    unfold textsL
    simp only [List.length_append, List.length_cons, List.length_nil]
    omega
  have hover : over headL (textsL g v) = textsL g v := by
    rw [texts_cat]
    exact no_head (hO _)
  by_cases h0 : s = []
  · refine .inl ⟨h0, ?_⟩
    have hv0 : v = [] := by rw [← hv, h0]; rfl
    have W := Walks.cons (hO (v ++ 60 :: 47 :: ([97] ++ (g ++ 62 :: [])))) (by simp) (by rw [hv0, List.nil_append]; exact WC)
    have := toks_of hlen (texts_valid g2 hvv) (by rw [hover, texts_cat]; exact W)
    rw [this, texts_cat, posL_cons, posL_cons]
    exact ⟨_, by rw [Nat.sub_self]; rfl⟩
  · refine .inr ⟨h0, ?_⟩
    have hv0 : v ≠ [] := fun e => by
      rw [e] at e3
      unfold backO at e3
      rw [if_pos (valid_some ch_nil), back_nil] at e3
      exact h0 (Option.some.inj e3).symm
    have hT := text_mk (u := v) (x := s) (60 :: 47 :: ([97] ++ (g ++ 62 :: []))) hv0 e2 e3 (.inr ⟨_, rfl⟩)
    have W := Walks.cons (hO (v ++ 60 :: 47 :: ([97] ++ (g ++ 62 :: [])))) (by simp) (Walks.cons hT (by simp) WC)
    have := toks_of hlen (texts_valid g2 hvv) (by rw [hover, texts_cat]; exact W)
    rw [this, texts_cat, posL_cons, posL_cons, posL_cons]
    exact ⟨_, _, by rw [Nat.sub_self]; rfl⟩
end Go.Proofs.YtlpjealcmnnbnaaDoor.Tk
