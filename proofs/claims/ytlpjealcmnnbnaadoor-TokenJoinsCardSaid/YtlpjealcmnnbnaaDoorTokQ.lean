/-
  TWO TEXTS, one behind the other; what is escaped comes back; over plain lists.
-/
import Derived.Test.YtlpjealcmnnbnaaDoorTokP
namespace Go.Proofs.YtlpjealcmnnbnaaDoor.Tk
open Go.Lib Tx

theorem walks_det : ∀ {l : List UInt8} {a b : List (Nat × Tok)}, Walks l a → Walks l b → a = b := by
  intro l a b h
  induction h generalizing b with
  | nil =>
    intro k
    cases k with
    | nil => rfl
    | cons h1 _ _ => rw [tok_nil] at h1; cases h1
  | cons h1 h2 h3 ih =>
    intro k
    cases k with
    | nil => rw [tok_nil] at h1; cases h1
    | cons k1 k2 k3 =>
      rw [h1] at k1
      cases k1
      rw [ih k3]
/-- the tokens ahead of a "<" hang on nothing behind it -/
theorem walks_split : ∀ (k : Nat) (a c : List UInt8) (zs : List (Nat × Tok)), a.length ≤ k → Walks (a ++ 60 :: c) zs →
    ∃ ps ys : List (Nat × Tok), zs = ps.map (fun p => (p.1 + (c.length + 1), p.2)) ++ ys ∧ Walks (60 :: c) ys ∧ (∀ p ∈ ps, p.1 ≤ a.length) ∧ ∀ d ws, Walks (60 :: d) ws → Walks (a ++ 60 :: d) (ps.map (fun p => (p.1 + (d.length + 1), p.2)) ++ ws)
  | _, [], c, zs, _, h => ⟨[], zs, rfl, h, (fun p hp => by cases hp), fun d ws hw => hw⟩
  | 0, _ :: _, _, _, hk, _ => by simp at hk
  | k + 1, x :: a, c, zs, hk, h => by
    generalize hl : (x :: a) ++ 60 :: c = l at h
    cases h with
    | nil => simp at hl
    | @cons _ r t zs' h1 h2 h3 =>
      obtain ⟨c0, p, e, h60, _, h4, _, h6⟩ := tok_piece h1
      have hle : (c0 :: p).length ≤ (x :: a).length := by
        rcases Nat.lt_or_ge (x :: a).length (c0 :: p).length with hlt | hge
        · exfalso
          have e1 : l[(x :: a).length]? = some 60 := by rw [← hl]; simp
          rw [e, List.getElem?_append_left hlt] at e1
          have e2 : p[a.length]? = some 60 := by simpa using e1
          exact h60 (List.mem_of_getElem? e2)
        · exact hge
      obtain ⟨a2, ha2⟩ : ∃ a2, x :: a = c0 :: p ++ a2 := by
        refine ⟨(x :: a).drop (c0 :: p).length, ?_⟩
        have e1 := congrArg (List.take (c0 :: p).length) (hl.trans e)
        rw [List.take_append_of_le_length hle, List.take_left' rfl] at e1
        conv => lhs; rw [← List.take_append_drop (c0 :: p).length (x :: a)]
        rw [e1]
      have hr : r = a2 ++ 60 :: c := by
        have := hl.trans e
        rw [ha2, List.append_assoc] at this
        exact (List.append_cancel_left this).symm
      subst hr
      have hl2 : a2.length ≤ k := by
        have := congrArg List.length ha2
        simp at this hk
        omega
      obtain ⟨ps, ys, i1, i2, i3, i4⟩ := walks_split k a2 c zs' hl2 h3
      refine ⟨((x :: a).length, t) :: ps, ys, ?_, i2, ?_, fun d ws hw => ?_⟩
      · rw [i1, ← hl]
        simp
        omega
      · intro q hq
        rcases List.mem_cons.1 hq with rfl | hq
        · exact Nat.le_refl _
        · have := i3 q hq
          have := congrArg List.length ha2
          simp at this ⊢
          omega
      · have h7 := h6 (a2 ++ 60 :: d) (fun h3' => by
          rcases h4 h3' with e0 | ⟨y, e0⟩
          · simp at e0
          · cases a2 with
            | nil => exact .inr ⟨d, rfl⟩
            | cons z a2 => injection e0 with e0 _; exact .inr ⟨_, by rw [e0]; rfl⟩)
        rw [← List.append_assoc, ← ha2] at h7
        have h8 := Walks.cons h7 h2 (i4 d ws hw)
        have e9 : ((x :: a) ++ 60 :: d).length = (x :: a).length + (d.length + 1) := by simp; omega
        rw [e9] at h8
        exact h8
def quo : List UInt8 := [60, 113, 47, 62]
theorem walks_quo : Walks quo [(4, 1, [113], [], [], true)] := .cons (r := []) (by decide +kernel) (by decide) .nil
theorem over_head (a b c : List UInt8) : ∃ a', over headL (a ++ 60 :: 113 :: b) = a' ++ 60 :: 113 :: b ∧ over headL (a ++ 60 :: 113 :: c) = a' ++ 60 :: 113 :: c ∧ a'.length ≤ a.length := by
  rcases head_cases a with ⟨x, rfl, _⟩ | ⟨h, _⟩
  · refine ⟨x, ?_, ?_, by simp⟩
    · unfold over
      rw [List.append_assoc, if_pos (by rw [List.isPrefixOf_iff_prefix]; exact List.prefix_append _ _), List.drop_left' rfl]
    · unfold over
      rw [List.append_assoc, if_pos (by rw [List.isPrefixOf_iff_prefix]; exact List.prefix_append _ _), List.drop_left' rfl]
  · have H : ∀ d : List UInt8, over headL (a ++ 60 :: 113 :: d) = a ++ 60 :: 113 :: d := by
      intro d
      rcases head_cases (a ++ 60 :: 113 :: d) with ⟨x, hx, _⟩ | ⟨_, h2⟩
      · exfalso
        rcases Nat.lt_or_ge a.length 38 with hlt | hge
        · have e1 : (a ++ 60 :: 113 :: d)[a.length]? = some 60 := by simp
          have e2 : (a ++ 60 :: 113 :: d)[a.length + 1]? = some 113 := by simp
          rw [hx, List.getElem?_append_left (show a.length < headL.length from hlt)] at e1
          have H1 : ∀ i, i < 38 → headL[i]? = some 60 → i = 0 := by decide
          have h0 := H1 _ hlt e1
          rw [hx, h0] at e2
          exact absurd e2 (by simp [headL])
        · have e1 := congrArg (List.take 38) hx
          rw [List.take_append_of_le_length hge, List.take_left' (show headL.length = 38 from rfl)] at e1
          have : headL.isPrefixOf a = true := by
            rw [List.isPrefixOf_iff_prefix, ← e1]
            exact List.take_prefix _ _
          rw [h] at this
          cases this
      · exact h2
    exact ⟨a, H b, H c, Nat.le_refl _⟩
theorem posL_map (n d : Nat) (ps : List (Nat × Tok)) : posL n (ps.map (fun p => (p.1 + d, p.2))) = ps.map (fun p => (n - (p.1 + d), p.2)) := by
  unfold posL
  rw [List.map_map]
  rfl
theorem get_snoc {α : Type} (l : List α) (x : α) : (l ++ [x]).take ((l ++ [x]).length) = l ++ [x] := List.take_length
/-- All that is told of two texts, one behind the other. -/
theorem joins {a b : List UInt8} (h1 : (tokensL (a ++ quo)).2.2 = 0) (h2 : (tokensL (quo ++ b)).2.2 = 0) (hl : a.length + b.length ≤ 15000) :
    ∃ xs : List (Nat × Tok), ∃ t : Tok, ∃ ys : List (Nat × Tok), tokensL (a ++ quo) = (xs ++ [(a.length, t)], 0, 0) ∧ tokensL (quo ++ b) = ((0, t) :: ys, 0, 0) ∧ (∀ p ∈ ys, p.1 ≤ b.length + 4) ∧
      tokensL (a ++ quo ++ b) = (xs ++ (a.length, t) :: ys.map (fun p => (p.1 + a.length, p.2)), 0, 0) := by
  obtain ⟨l1, v1, z1, w1, e1⟩ := toks_ok h1
  obtain ⟨l2, v2, z2, w2, e2⟩ := toks_ok h2
  have hq1 : a ++ quo = a ++ 60 :: 113 :: [47, 62] := rfl
  have hq3 : a ++ quo ++ b = a ++ 60 :: 113 :: (47 :: 62 :: b) := by unfold quo; simp
  have hq2 : over headL (quo ++ b) = quo ++ b := by
    have : ∃ t r, tokL (quo ++ b) = some (t, r) := by
      cases hw : tokL (over headL (quo ++ b)) with
      | none =>
        rcases head_cases (quo ++ b) with ⟨x, hx, _⟩ | ⟨_, hx⟩
        · exfalso
          have := congrArg (fun l => l[1]?) hx
          simp [quo, headL] at this
        · rw [hx] at hw w2
          cases w2 with
          | cons h _ _ => rw [hw] at h; cases h
      | some p =>
        rcases head_cases (quo ++ b) with ⟨x, hx, _⟩ | ⟨_, hx⟩
        · exfalso
          have := congrArg (fun l => l[1]?) hx
          simp [quo, headL] at this
        · rw [hx] at hw
          exact ⟨p.1, p.2, hw⟩
    obtain ⟨t, r, h⟩ := this
    exact no_head h
  obtain ⟨a', o1, o2, o3⟩ := over_head a [47, 62] (47 :: 62 :: b)
  rw [hq1, o1] at w1
  rw [hq2] at w2
  obtain ⟨ps, ys, i1, i2, i3, i4⟩ := walks_split _ a' (113 :: [47, 62]) z1 (Nat.le_refl _) w1
  have i5 : ys = [(4, 1, [113], [], [], true)] := walks_det i2 walks_quo
  subst i5
  have w2' : Walks (60 :: (113 :: 47 :: 62 :: b)) z2 := w2
  have w3 := i4 _ _ w2'
  have v3 : valid (a ++ quo ++ b) = true := by
    have va : valid a = true := by
      have v1' : valid (a ++ 60 :: [113, 47, 62]) = true := v1
      exact (valid_cut _ a [113, 47, 62] 60 (Nat.le_refl _) (by decide) v1').1
    rw [List.append_assoc]
    exact (valid_append va v2).1
  have e3 := toks_of (l := a ++ quo ++ b) (by simp [quo]; omega) v3 (by rw [hq3, o2]; exact w3)
  have hz2 : ∃ r zs', tokL (quo ++ b) = some ((1, [113], [], [], true), r) ∧ z2 = ((quo ++ b).length, (1, [113], [], [], true)) :: zs' ∧ Walks r zs' := by
    have hq : tokL quo = some ((1, [113], [], [], true), []) := by decide +kernel
    obtain ⟨c0, p, e, _, _, _, _, h6⟩ := tok_piece hq
    have h7 := h6 b (fun h => by cases h)
    rw [show c0 :: p = quo by rw [List.append_nil] at e; exact e.symm] at h7
    generalize hg : quo ++ b = l at w2 h7
    cases w2 with
    | nil => simp [quo] at hg
    | cons k1 k2 k3 =>
      rw [h7] at k1
      cases k1
      exact ⟨_, _, h7, rfl, k3⟩
  obtain ⟨r, zs', _, hz, _⟩ := hz2
  have hbl : (quo ++ b).length = b.length + 4 := by simp [quo]
  rw [hbl] at hz e2
  have hal : (a ++ quo).length = a.length + 4 := by simp [quo]
  have hcl : (a ++ quo ++ b).length = a.length + 4 + b.length := by simp [quo]; omega
  rw [hal] at e1
  rw [hcl] at e3
  have hzl : ∀ p ∈ zs', p.1 ≤ b.length + 4 := by
    intro p hp
    obtain ⟨i, hi, rfl⟩ := List.getElem_of_mem hp
    have hzi : z2[i + 1]? = some (zs'[i].1, zs'[i].2) := by rw [hz, List.getElem?_cons_succ, List.getElem?_eq_getElem hi]
    obtain ⟨p1, q1, r1, f1, f2, _⟩ := walks_at w2 (i + 1) _ _ hzi
    have := congrArg List.length f1
    rw [hbl, List.length_append] at this
    omega
  refine ⟨ps.map (fun p => (a.length - p.1, p.2)), (1, [113], [], [], true), posL (b.length + 4) zs', ?_, ?_, ?_, ?_⟩
  · rw [e1, i1, posL_append, posL_map, posL_cons]
    congr 2
    · refine List.map_congr_left (fun p hp => ?_)
      have : a.length + 4 - (p.1 + (([113, 47, 62] : List UInt8).length + 1)) = a.length - p.1 := by simp
      rw [this]
  · rw [e2, hz, posL_cons]
    simp
  · intro p hp
    unfold posL at hp
    obtain ⟨q, hq, rfl⟩ := List.mem_map.1 hp
    simp only
    omega
  · rw [e3, hz, posL_append, posL_map, posL_cons]
    congr 2
    · refine List.map_congr_left (fun p hp => ?_)
      have : a.length + 4 + b.length - (p.1 + ((113 :: 47 :: 62 :: b).length + 1)) = a.length - p.1 := by simp; omega
      rw [this]
    · simp only
      congr 1
      · congr 1
        omega
      · unfold posL
        rw [List.map_map]
        refine List.map_congr_left (fun p hp => ?_)
        have := hzl p hp
        simp only [Function.comp]
        congr 1
        omega
end Go.Proofs.YtlpjealcmnnbnaaDoor.Tk
