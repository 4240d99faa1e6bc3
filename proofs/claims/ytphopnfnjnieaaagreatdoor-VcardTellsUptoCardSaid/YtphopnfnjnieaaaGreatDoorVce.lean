/- Texts laid together: VcdC VcdD -/
import Derived.Test.YtphopnfnjnieaaaGreatDoorVcd
/-
  CARDS OF PROPERTIES over plain lists of bytes, third part: what is read may be written. Nothing of any program.
-/
namespace Go.Proofs.YtphopnfnjnieaaaGreatDoor.Vc
open Go.Lib Tx

theorem head_facts {l g n r : List UInt8} (h : headL l = (g, n, r)) (hn : n ≠ []) : ∃ w, Word w ∧ n = up w ∧ l = groupT g ++ (w ++ r) ∧ (g = [] ∨ Word g) := by
  have hc := take_drop wc l
  unfold headL at h
  split at h
  · rename_i c w m e1 e2
    injection h with h1 h2
    injection h2 with h2 h3
    subst h1 h2 h3
    refine ⟨m.takeWhile wc, ⟨fun e => hn (by rw [e]; rfl), fun d hd => (while_mem d hd).1⟩, rfl, ?_, .inr ⟨by simp, fun d hd => (while_mem (l := l) d (by rw [e1]; exact hd)).1⟩⟩
    rw [take_drop wc m]
    unfold groupT
    rw [if_neg (by simp), ← hc, e1, e2]
    simp
  · injection h with h1 h2
    injection h2 with h2 h3
    subst h1 h2 h3
    refine ⟨l.takeWhile wc, ⟨fun e => hn (by rw [e]; rfl), fun d hd => (while_mem d hd).1⟩, rfl, ?_, .inl rfl⟩
    rw [hc]
    rfl
theorem wc_plain : ∀ c : UInt8, wc c = true → valid [c] = true ∧ c ≠ 10 ∧ c ≠ 13 := by
  have h : ∀ n : Nat, n < 256 → wc (UInt8.ofNat n) = true → valid [UInt8.ofNat n] = true ∧ UInt8.ofNat n ≠ 10 ∧ UInt8.ofNat n ≠ 13 := by decide +kernel
  intro c hc
  have := h c.toNat c.toNat_lt (by simpa using hc)
  simpa using this
theorem vcat {a b : List UInt8} (ha : valid a = true) (hb : valid b = true) : valid (a ++ b) = true := (valid_append ha hb).1
theorem vcons {c : UInt8} {b : List UInt8} (hc : valid [c] = true) (hb : valid b = true) : valid (c :: b) = true := vcat (a := [c]) hc hb
theorem word_valid : ∀ {w : List UInt8}, (∀ c ∈ w, wc c = true) → valid w = true
  | [], _ => by decide +kernel
  | c :: w, h => vcons (wc_plain c (h c List.mem_cons_self)).1 (word_valid fun d hd => h d (List.mem_cons_of_mem _ hd))
theorem word_clean {w : List UInt8} (h : ∀ c ∈ w, wc c = true) : clean w := fun c hc => (wc_plain c (h c hc)).2
theorem clean_cat {a b : List UInt8} (ha : clean a) (hb : clean b) : clean (a ++ b) := fun c hc => (List.mem_append.1 hc).elim (ha c) (hb c)
theorem clean_cons {a : UInt8} {b : List UInt8} (ha : a ≠ 10 ∧ a ≠ 13) (hb : clean b) : clean (a :: b) := clean_cat (a := [a]) (fun c hc => by rw [List.mem_singleton] at hc; subst hc; exact ha) hb
theorem clean_nil : clean [] := fun c hc => by cases hc
theorem pval_fine {v : List UInt8} (hv : valid v = true) (hc : clean v) : valid (pvalT v) = true ∧ clean (pvalT v) := by
  unfold pvalT
  split
  · exact ⟨vcons (by decide +kernel) (vcat hv (by decide +kernel)), clean_cons (by decide) (clean_cat hc (clean_cons (by decide) clean_nil))⟩
  · exact ⟨hv, hc⟩
theorem pars_fine : ∀ {ts : List Par}, (∀ a ∈ ts, OkP a ∧ valid a.2 = true ∧ clean a.2) → valid (ts.flatMap parT) = true ∧ clean (ts.flatMap parT)
  | [], _ => ⟨by decide +kernel, clean_nil⟩
  | a :: ts, h => by
    obtain ⟨h1, h2, h3⟩ := h a List.mem_cons_self
    obtain ⟨k1, k2⟩ := pars_fine fun b hb => h b (List.mem_cons_of_mem _ hb)
    obtain ⟨p1, p2⟩ := pval_fine h2 h3
    rw [List.flatMap_cons, show parT a = 59 :: (a.1 ++ 61 :: pvalT a.2) from rfl]
    exact ⟨vcat (vcons (by decide +kernel) (vcat (word_valid h1.1.1.2) (vcons (by decide +kernel) p1))) k1, clean_cat (clean_cons (by decide) (clean_cat (word_clean h1.1.1.2) (clean_cons (by decide) p2))) k2⟩
theorem up_append (a b : List UInt8) : up (a ++ b) = up a ++ up b := List.map_append
theorem up_cons (a : UInt8) (b : List UInt8) : up (a :: b) = upC a :: up b := rfl
theorem up_mem {c : UInt8} {l : List UInt8} (h : c ∈ l) (e : upC c = c) : c ∈ up l := List.mem_map.2 ⟨c, h, e⟩
/-- what a line tells may be written -/
theorem prop_facts {l : List UInt8} {p : Pr} (h : propL l = some p) (hv : valid l = true) (hc : clean l) : OkV p ∧ valid (lineT p) = true ∧ clean (lineT p) ∧ (up (lineT p) = endT → up l = endT) := by
  obtain ⟨⟨g, n, r⟩, hh⟩ : ∃ x, headL l = x := ⟨_, rfl⟩
  unfold propL at h
  rw [hh] at h
  simp only at h
  split at h
  · cases h
  · rename_i hn
    obtain ⟨w, hw, rfl, hl, hg⟩ := head_facts hh hn
    split at h
    · rename_i ps v e
      cases h
      obtain ⟨ts, e1, h1, h2, h3, h4⟩ := pars_facts _ _ _ _ _ e
      rw [List.nil_append] at e1
      subst e1
      have hr : valid r = true := by
        rw [hl] at hv
        have hgr : valid (w ++ r) = true := by
          unfold groupT at hv
          split at hv
          · exact hv
          · rw [List.append_assoc, List.singleton_append] at hv
            exact vtail (by decide) (vcut _ _ _ _ (Nat.le_refl _) (by decide) hv).2
        have : ∀ {w : List UInt8}, (∀ c ∈ w, wc c = true) → valid (w ++ r) = true → valid r = true := by
          intro w
          induction w with
          | nil => intro _ h; exact h
          | cons c w ih => intro hw h; exact ih (fun d hd => hw d (List.mem_cons_of_mem _ hd)) (vtail (wc_low c (hw c List.mem_cons_self)) h)
        exact this hw.2 hgr
      have hrl : ∀ c ∈ r, c ∈ l := fun c hc => by rw [hl]; exact List.mem_append_right _ (List.mem_append_right _ hc)
      have hvv : valid v = true := vtail (by decide) (h2 hr)
      have hcv : clean v := fun c hcc => hc c (hrl c (h3 c (List.mem_cons_of_mem _ hcc)))
      have hN := hw.up
      obtain ⟨p1, p2⟩ := pars_fine (ts := ps) fun a ha => ⟨(h1 a ha).1, (h1 a ha).2.1 hr, fun c hcc => hc c (hrl c ((h1 a ha).2.2 c hcc))⟩
      have hgv : valid (groupT g) = true ∧ clean (groupT g) := by
        unfold groupT
        split
        · exact ⟨by decide +kernel, clean_nil⟩
        · rename_i hg0
          have := hg.resolve_left hg0
          exact ⟨vcat (word_valid this.2) (by decide +kernel), clean_cat (word_clean this.2) (clean_cons (by decide) clean_nil)⟩
      refine ⟨⟨hg, hN, fun a ha => (h1 a ha).1⟩, ?_, ?_, fun he => ?_⟩
      · exact vcat hgv.1 (vcat (word_valid hN.1.2) (vcat p1 (vcons (by decide +kernel) hvv)))
      · exact clean_cat hgv.2 (clean_cat (word_clean hN.1.2) (clean_cat p2 (clean_cons (by decide) hcv)))
      · have hno : ∀ c : UInt8, upC c = c → c ∉ endT → c ∉ lineT (g, up w, ps, v) := fun c e hn2 hm => hn2 (by rw [← he]; exact up_mem hm e)
        have hg0 : g = [] := by
          by_cases hg0 : g = []
          · exact hg0
          · exfalso
            refine hno 46 (by decide) (by decide) ?_
            unfold lineT groupT
            simp only
            rw [if_neg hg0]
            simp
        have hp0 : ps = [] := by
          cases ps with
          | nil => rfl
          | cons a ps =>
            exfalso
            refine hno 59 (by decide) (by decide) ?_
            unfold lineT
            simp only [List.flatMap_cons]
            rw [show parT a = 59 :: (a.1 ++ 61 :: pvalT a.2) from rfl]
            simp
        subst hg0 hp0
        have hm : 58 :: v = r := h4 rfl
        rw [hl, ← hm]
        rw [← he]
        unfold lineT
        simp only [List.flatMap_nil, List.nil_append, up_append]
        rw [hN.2]
    · cases h
theorem prop_may {l : List UInt8} {p : Pr} (h : propL l = some p) (hv : valid l = true) (hc : clean l) (hb : p.2.1 ≠ beginN) (hs : p.2.1 ≠ versN) (he : up l ≠ endT) : mayB p = true := by
  obtain ⟨h1, h2, h3, h4⟩ := prop_facts h hv hc
  unfold mayB
  simp only [Bool.and_eq_true, decide_eq_true_eq, List.all_eq_true, bne_iff_ne]
  exact ⟨⟨⟨⟨⟨prop_ok h1, h2⟩, fun c hcc => h3 c hcc⟩, hb⟩, hs⟩, fun e => he (h4 e)⟩
/-! ### the lines of a text -/
def Good (l : List UInt8) : Prop := clean l ∧ valid l = true
theorem rows_of : ∀ (k : Nat) (l cur : List UInt8) (rs : List (List UInt8)), l.length ≤ k → clean cur → rowsA cur l = some rs → cur ++ l = ends rs ∧ ∀ r ∈ rs, clean r
  | _, [], cur, rs, _, _, h => by
    rw [rowsA_nil] at h
    split at h
    · rename_i hc
      cases h
      subst hc
      exact ⟨rfl, fun r hr => by cases hr⟩
    · cases h
  | 0, _ :: _, _, _, hk, _, _ => by simp at hk
  | k + 1, c :: t, cur, rs, hk, hc, h => by
    simp only [List.length_cons] at hk
    by_cases h10 : c = 10
    · subst h10
      rw [rowsA_10] at h
      cases h
    by_cases h13 : c = 13
    · subst h13
      cases t with
      | nil => rw [rowsA_13] at h; cases h
      | cons d u =>
        by_cases hd : d = 10
        · subst hd
          rw [rowsA_end] at h
          obtain ⟨rs', h1, rfl⟩ := Option.map_eq_some_iff.1 h
          simp only [List.length_cons] at hk
          obtain ⟨e, h2⟩ := rows_of k u [] rs' (by omega) clean_nil h1
          rw [List.nil_append] at e
          refine ⟨by rw [ends_cons, e], fun r hr => ?_⟩
          rcases List.mem_cons.1 hr with rfl | hr
          · exact hc
          · exact h2 r hr
        · rw [rowsA_13x cur u hd] at h
          cases h
    · rw [rowsA_on cur t h10 h13] at h
      have := rows_of k t (cur ++ [c]) rs (by omega) (clean_cat hc (clean_cons ⟨h10, h13⟩ clean_nil)) h
      rw [List.append_assoc, List.singleton_append] at this
      exact this
theorem ends_good : ∀ {rs : List (List UInt8)}, valid (ends rs) = true → (∀ r ∈ rs, clean r) → ∀ r ∈ rs, Good r
  | [], _, _, r, hr => by cases hr
  | a :: rs, hv, hc, r, hr => by
    rw [ends_cons] at hv
    obtain ⟨h1, h2⟩ := vcut _ _ _ _ (Nat.le_refl _) (by decide) hv
    have h3 := vtail (by decide) (vtail (by decide) h2)
    rcases List.mem_cons.1 hr with rfl | hr
    · exact ⟨hc _ List.mem_cons_self, h1⟩
    · exact ends_good h3 (fun x hx => hc x (List.mem_cons_of_mem _ hx)) r hr
theorem lines_good : ∀ (rs acc ls : List (List UInt8)), (∀ r ∈ rs, Good r) → (∀ r ∈ acc, Good r) → linesA acc rs = some ls → ∀ l ∈ ls, Good l
  | [], acc, ls, _, ha, h => by
    rw [linesA_nil] at h
    cases h
    exact ha
  | r :: rs, acc, ls, hr, ha, h => by
    have hr1 := hr r List.mem_cons_self
    have hr2 : ∀ x ∈ rs, Good x := fun x hx => hr x (List.mem_cons_of_mem _ hx)
    cases hcn : cont r with
    | false =>
      rw [linesA_new acc rs hcn] at h
      refine lines_good rs _ ls hr2 (fun x hx => ?_) h
      rcases List.mem_append.1 hx with hx | hx
      · exact ha x hx
      · rw [List.mem_singleton] at hx
        subst hx
        exact hr1
    | true =>
      by_cases hac : acc = []
      · subst hac
        rw [linesA_bad rs hcn] at h
        cases h
      · rw [linesA_more rs hcn hac] at h
        refine lines_good rs _ ls hr2 (fun x hx => ?_) h
        have ht : Good r.tail := by
          cases r with
          | nil => cases hcn
          | cons c t =>
            have hcl : c.toNat < 128 := by
              simp only [cont, Bool.or_eq_true, beq_iff_eq] at hcn
              rcases hcn with rfl | rfl <;> decide
            exact ⟨fun d hd => hr1.1 d (List.mem_cons_of_mem _ hd), vtail hcl hr1.2⟩
        unfold addLast at hx
        rcases List.mem_append.1 hx with hx | hx
        · exact ha x ((List.dropLast_sublist acc).mem hx)
        · rw [List.mem_singleton] at hx
          subst hx
          obtain ⟨a, y, rfl⟩ : ∃ a y, acc = a ++ [y] := ⟨acc.dropLast, acc.getLast hac, (List.dropLast_concat_getLast hac).symm⟩
          have hy := ha y (by simp)
          rw [List.getLastD_concat]
          exact ⟨clean_cat hy.1 ht.1, vcat hy.2 ht.2⟩
theorem unfold_good {s : List UInt8} {ls : List (List UInt8)} (hv : valid s = true) (h : Tx.unfold s = some ls) : ∀ l ∈ ls, Good l := by
  unfold Tx.unfold at h
  obtain ⟨rs, h1, h2⟩ := Option.bind_eq_some_iff.1 h
  obtain ⟨e, h3⟩ := rows_of s.length s [] rs (Nat.le_refl _) clean_nil h1
  rw [List.nil_append] at e
  rw [e] at hv
  exact lines_good rs [] ls (ends_good hv h3) (fun r hr => by cases hr) h2
/-! ### what is read may be written -/
def OkC (c : List Pr) : Prop := c.length ≤ 40 ∧ ∀ p ∈ c, mayB p = true
structure OkR (st : RSt) : Prop where
  cards : ∀ c ∈ st.1, OkC c
  few : st.1.length ≤ 60
  opened : ∀ b c, st.2 = some (b, c) → st.1.length < 60 ∧ OkC c
theorem step_ok {st : RSt} (h : OkR st) {l : List UInt8} (hl : Good l) (he : (stepV st l).1 = 0) : OkR (stepV st l).2 := by
  obtain ⟨a, o⟩ := st
  have hA : ∀ c ∈ a, OkC c := h.cards
  have hF : a.length ≤ 60 := h.few
  match o, h with
  | none, h =>
    simp only [stepV] at he ⊢
    split at he
    · cases he
    · rename_i h1
      rw [if_neg h1]
      split at he
      · cases he
      · rename_i h2
        rw [if_neg h2]
        exact ⟨hA, hF, fun b c e => by cases e; exact ⟨by show a.length < 60; omega, by simp, fun p hp => by cases hp⟩⟩
  | some (true, c), h =>
    have hc := h.opened true c rfl
    simp only [stepV] at he ⊢
    split at he
    · rename_i p hp
      split at he
      · rename_i h1
        rw [if_pos h1]
        exact ⟨hA, hF, fun b d e => by cases e; exact hc⟩
      · cases he
    · cases he
  | some (false, c), h =>
    have hc := h.opened false c rfl
    simp only [stepV] at he ⊢
    split at he
    · rename_i h1
      rw [if_pos h1]
      refine ⟨fun d hd => ?_, ?_, fun b d e => by cases e⟩
      · rcases List.mem_append.1 hd with hd | hd
        · exact hA d hd
        · rw [List.mem_singleton] at hd
          subst hd
          exact hc.2
      · have := hc.1
        simp only [List.length_append, List.length_cons, List.length_nil] at this ⊢
        omega
    · rename_i h1
      rw [if_neg h1]
      split at he
      · cases he
      · rename_i p hp
        split at he
        · cases he
        · rename_i h2
          rw [if_neg h2]
          split at he
          · cases he
          · rename_i h3
            rw [if_neg h3]
            refine ⟨hA, hF, fun b d e => ?_⟩
            cases e
            refine ⟨hc.1, ?_, fun q hq => ?_⟩
            · simp only [List.length_append, List.length_cons, List.length_nil]
              omega
            · rcases List.mem_append.1 hq with hq | hq
              · exact hc.2.2 q hq
              · rw [List.mem_singleton] at hq
                subst hq
                exact prop_may hp hl.2 hl.1 (fun e => h2 (.inl e)) (fun e => h2 (.inr e)) h1
theorem run_right : ∀ (ls : List (List UInt8)) (n : Nat) (st : RSt) (y : List (List Pr)) (k : Nat), OkR st → (∀ l ∈ ls, Good l) → runV n st ls = (y, k, 0) → rightV y = true
  | [], n, st, y, k, h, _, e => by
    rw [runV] at e
    split at e
    · injection e with e _
      subst e
      exact right_iff.2 ⟨h.few, fun c hc => h.cards c hc⟩
    · cases e
  | l :: ls, n, st, y, k, h, hg, e => by
    rw [runV] at e
    split at e
    · rename_i h0
      exact run_right ls _ _ y k (step_ok h (hg l List.mem_cons_self) h0) (fun x hx => hg x (List.mem_cons_of_mem _ hx)) e
    · rename_i h0
      injection e with _ e
      injection e with _ e
      exact absurd e h0
theorem read_right {s : List UInt8} {y : List (List Pr)} {k : Nat} (h : readV s = (y, k, 0)) : rightV y = true := by
  unfold readV at h
  split at h
  · cases h
  · split at h
    · cases h
    · rename_i hv
      split at h
      · cases h
      · rename_i ls hu
        exact run_right ls 0 _ y k ⟨(fun c hc => by cases hc), (by simp), (fun b c e => by cases e)⟩ (unfold_good (by simpa using hv) hu) h
/-- what is read is written, and read again as it was, unless it is too much -/
theorem read_write {s : List UInt8} {y : List (List Pr)} {k : Nat} (h : readV s = (y, k, 0)) : writeV y = ([], 4) ∨ ∃ u, writeV y = (u, 0) ∧ readV u = (y, 0, 0) := by
  have hr := read_right h
  by_cases hb : 20000 < (foldL (y.flatMap cardT)).length
  · left
    unfold writeV
    rw [if_pos hr, if_pos hb]
  · have hw : writeV y = (foldL (y.flatMap cardT), 0) := by
      unfold writeV
      rw [if_pos hr, if_neg hb]
    exact .inr ⟨_, hw, write_read hw⟩
end Go.Proofs.YtphopnfnjnieaaaGreatDoor.Vc
/-
  CARDS OF PROPERTIES over plain lists of bytes, fourth part: the lines that may not be there, and how many there may be. Nothing of any program.
-/
namespace Go.Proofs.YtphopnfnjnieaaaGreatDoor.Vc
open Go.Lib Tx

def rowL (l : List UInt8) : List UInt8 := l ++ [13, 10]
def cardL : List UInt8 := rowL beginT ++ rowL versT ++ rowL [70, 78, 58, 110] ++ rowL [120, 46, 84, 69, 76, 59, 84, 89, 80, 69, 61, 34, 97, 59, 98, 34, 58, 53] ++ rowL endT
def openL : List UInt8 := rowL beginT ++ rowL versT
def fnL : List UInt8 := rowL [70, 78, 58, 110]
def aheadL : Nat → List UInt8
  | 0 => []
  | k + 1 => aheadL k ++ cardL
def wrongL : List (List UInt8) := [fnL, rowL beginT ++ fnL, rowL beginT ++ rowL [86, 69, 82, 83, 73, 79, 78, 58, 51, 46, 48], openL ++ rowL [70, 78], openL ++ rowL beginT, openL ++ fnL ++ rowL versT, openL ++ fnL,
  openL ++ rowL [65, 59, 66, 58, 99], openL ++ rowL [58, 99], openL ++ rowL [65, 59, 66, 61, 34, 99, 58, 100], rowL [], rowL endT]
def whereL : List Nat := [1, 2, 2, 3, 3, 4, 3, 3, 3, 3, 1, 1]
def wantL : List Nat := [20, 20, 20, 17, 20, 20, 20, 17, 17, 17, 20, 20]
theorem card_read : readV cardL = ([[([], [70, 78], [], [110]), ([120], [84, 69, 76], [([84, 89, 80, 69], [97, 59, 98])], [53])]], 0, 0) := by decide +kernel
theorem wrong_read : ∀ a : Nat, a < 5 → ∀ k : Nat, k < 12 → readV (aheadL a ++ wrongL.getD k []) = ([], 5 * a + whereL.getD k 0, wantL.getD k 0) := by decide +kernel
/-! ### so many, and no more -/
def xP : Pr := ([], [88], [], [])
def propsL : Nat → List UInt8
  | 0 => openL
  | k + 1 => propsL k ++ rowL [88, 58]
def cardsL : Nat → List UInt8
  | 0 => []
  | k + 1 => cardsL k ++ (openL ++ rowL endT)
theorem props_read : ∀ i : Nat, i < 5 → readV (propsL (38 + i) ++ rowL endT) = if i ≤ 2 then ([List.replicate (38 + i) xP], 0, 0) else ([], 43, 4) := by decide +kernel
theorem cards_read : ∀ i : Nat, i < 5 → readV (cardsL (58 + i)) = if i ≤ 2 then (List.replicate (58 + i) [], 0, 0) else ([], 181, 4) := by decide +kernel
theorem props_write : ∀ i : Nat, i < 5 → (writeV [List.replicate (38 + i) xP]).2 = if i ≤ 2 then 0 else 12 := by decide +kernel
theorem cards_write : ∀ i : Nat, i < 5 → (writeV (List.replicate (58 + i) [])).2 = if i ≤ 2 then 0 else 12 := by decide +kernel
/-! ### in whatever letters -/
theorem rows_read {rs : List (List UInt8)} (h : ∀ r ∈ rs, Fine r) (hl : (ends rs).length ≤ 20000) : readV (ends rs) = runV 0 ([], none) rs := by
  have hv := ends_valid rs fun r hr => (h r hr).2.1
  have hnew : ∀ (rs acc : List (List UInt8)), (∀ r ∈ rs, cont r = false) → linesA acc rs = some (acc ++ rs) := fun rs => by
    induction rs with
    | nil => intro acc _; rw [linesA_nil, List.append_nil]
    | cons r rs ih =>
      intro acc hc
      rw [linesA_new acc rs (hc r List.mem_cons_self), ih _ fun x hx => hc x (List.mem_cons_of_mem _ hx), List.append_assoc, List.singleton_append]
  have hu : Tx.unfold (ends rs) = some rs := by
    unfold Tx.unfold
    rw [rowsA_ends rs fun r hr => (h r hr).1]
    show linesA [] rs = _
    rw [hnew rs [] fun r hr => (h r hr).2.2, List.nil_append]
  unfold readV
  rw [if_neg (by omega), hv, if_neg (by decide), hu]
/-- a property of one parameter, all of one word -/
def capT (g n v : List UInt8) : List UInt8 := groupT g ++ (n ++ (59 :: (n ++ 61 :: (n ++ 58 :: v))))
theorem cap_prop {g n v : List UInt8} (hg : g = [] ∨ Word g) (hn : Word n) : propL (capT g n v) = some (g, up n, [(up n, n)], v) := by
  have hw : ∀ {c : UInt8} (m : List UInt8), wc c = false → (n ++ c :: m).takeWhile wc = n ∧ (n ++ c :: m).dropWhile wc = c :: m := fun m hc => take_all hn.2 fun d t e => by cases e; exact hc
  have hf : (n ++ 58 :: v).takeWhile free = n ∧ (n ++ 58 :: v).dropWhile free = 58 :: v := take_all (fun c hc => by
    have h : ∀ k : Nat, k < 256 → wc (UInt8.ofNat k) = true → free (UInt8.ofNat k) = true := by decide +kernel
    have := h c.toNat c.toNat_lt (by simpa using hn.2 c hc)
    simpa using this) fun d t e => by cases e; rfl
  have hpv : pvalL (n ++ 58 :: v) = some (n, 58 :: v) := by
    cases n with
    | nil => exact absurd rfl hn.1
    | cons c t =>
      rw [List.cons_append] at hf ⊢
      unfold pvalL
      split
      · rename_i q e
        injection e with e _
        have := hn.2 c List.mem_cons_self
        subst e
        cases this
      · rw [hf.1, hf.2]
  have hpar : parL (n ++ 61 :: (n ++ 58 :: v)) = some ((up n, n), 58 :: v) := by
    unfold parL
    rw [(hw (n ++ 58 :: v) (c := 61) rfl).1, (hw (n ++ 58 :: v) (c := 61) rfl).2, if_neg hn.1]
    simp only
    rw [hpv, Option.map_some]
  obtain ⟨h1, h2⟩ := hw (n ++ 61 :: (n ++ 58 :: v)) (c := 59) rfl
  have hh : headL (capT g n v) = (g, up n, 59 :: (n ++ 61 :: (n ++ 58 :: v))) := by
    unfold capT groupT
    by_cases hg0 : g = []
    · subst hg0
      rw [if_pos rfl, List.nil_append]
      unfold headL
      rw [h1, h2]
      split
      · rename_i e2
        cases e2
      · rfl
    · have hgw : Word g := hg.resolve_left hg0
      obtain ⟨k1, k2⟩ := take_all (p := wc) (w := g) (r := 46 :: (n ++ (59 :: (n ++ 61 :: (n ++ 58 :: v))))) hgw.2 (fun c t e => by cases e; rfl)
      rw [if_neg hg0, List.append_assoc, List.singleton_append]
      unfold headL
      rw [k1, k2]
      cases g with
      | nil => exact absurd rfl hg0
      | cons c w =>
        simp only
        rw [h1, h2]
  unfold propL
  rw [hh]
  simp only
  rw [if_neg hn.up.1.1]
  have hlen : ∃ k, (capT g n v).length + 1 = k + 2 := ⟨(capT g n v).length - 1, by
    unfold capT
    simp only [List.length_append, List.length_cons]
    omega⟩
  obtain ⟨k, hk⟩ := hlen
  rw [hk]
  simp only [parsF]
  rw [hpar]
  rfl
def beginS : List UInt8 := [98, 101, 103, 105, 110, 58, 118, 67, 97, 114, 100]
def versS : List UInt8 := [118, 101, 114, 115, 105, 111, 110, 58, 52, 46, 48]
def endS : List UInt8 := [101, 110, 100, 58, 86, 67, 65, 82, 68]
theorem cap_read {g n v : List UInt8} (hg : g = [] ∨ Word g) (hn : Word n) (hb : up n ≠ beginN) (hs : up n ≠ versN) (hv : valid v = true) (hc : clean v) (hl : (ends [beginS, versS, capT g n v, endS]).length ≤ 20000) :
    readV (ends [beginS, versS, capT g n v, endS]) = ([[(g, up n, [(up n, n)], v)]], 0, 0) := by
  have hp := cap_prop (v := v) hg hn
  have hfix : Fine beginS ∧ Fine versS ∧ Fine endS := by
    refine ⟨⟨?_, by decide +kernel, rfl⟩, ⟨?_, by decide +kernel, rfl⟩, ⟨?_, by decide +kernel, rfl⟩⟩ <;>
    · unfold clean
      decide +kernel
  have hgf : valid (groupT g) = true ∧ clean (groupT g) := by
    unfold groupT
    split
    · exact ⟨by decide +kernel, clean_nil⟩
    · rename_i hg0
      have := hg.resolve_left hg0
      exact ⟨vcat (word_valid this.2) (by decide +kernel), clean_cat (word_clean this.2) (clean_cons (by decide) clean_nil)⟩
  have hwv := word_valid hn.2
  have hwc := word_clean hn.2
  have hF : Fine (capT g n v) := by
    refine ⟨?_, ?_, ?_⟩
    · exact clean_cat hgf.2 (clean_cat hwc (clean_cons (by decide) (clean_cat hwc (clean_cons (by decide) (clean_cat hwc (clean_cons (by decide) hc))))))
    · exact vcat hgf.1 (vcat hwv (vcons (by decide +kernel) (vcat hwv (vcons (by decide +kernel) (vcat hwv (vcons (by decide +kernel) hv))))))
    · cases hcn : cont (capT g n v) with
      | false => rfl
      | true => rw [word_head hcn] at hp; cases hp
  have hne : up (capT g n v) ≠ endT := fun e => by
    have : (59 : UInt8) ∈ endT := by
      rw [← e]
      refine up_mem ?_ (by decide)
      unfold capT
      simp
    exact absurd this (by decide)
  rw [rows_read (fun r hr => by
    simp only [List.mem_cons, List.not_mem_nil, or_false] at hr
    rcases hr with rfl | rfl | rfl | rfl
    · exact hfix.1
    · exact hfix.2.1
    · exact hF
    · exact hfix.2.2) hl]
  have s1 : stepV ([], none) beginS = (0, ([], some (true, []))) := by decide +kernel
  have s2 : stepV ([], some (true, [])) versS = (0, ([], some (false, []))) := by decide +kernel
  have s3 : stepV ([], some (false, [])) (capT g n v) = (0, ([], some (false, [(g, up n, [(up n, n)], v)]))) := by
    simp only [stepV]
    rw [if_neg hne, hp]
    simp only
    rw [if_neg (fun e => e.elim hb hs), if_neg (by simp)]
    rfl
  have s4 : stepV ([], some (false, [(g, up n, [(up n, n)], v)])) endS = (0, ([[(g, up n, [(up n, n)], v)]], none)) := by
    simp only [stepV]
    rw [if_pos (by decide +kernel)]
    rfl
  rw [run_ok s1, run_ok s2, run_ok s3, run_ok s4]
  rfl
end Go.Proofs.YtphopnfnjnieaaaGreatDoor.Vc
