/-
  WHERE TOKENS BEGIN, over plain lists; two texts, one behind the other.
-/
import Derived.Test.YtlpjealcmnnbnaaDoorTokE
namespace Go.Proofs.YtlpjealcmnnbnaaDoor.Tk
open Go.Lib Tx

/-- l is made of these tokens, each with how much of l was left where it begins. -/
inductive Walks : List UInt8 → List (Nat × Tok) → Prop
  | nil : Walks [] []
  | cons {l r : List UInt8} {t : Tok} {zs : List (Nat × Tok)} : tokL l = some (t, r) → ¬ 10 < t.2.2.2.1.length → Walks r zs → Walks l ((l.length, t) :: zs)
def posL (n : Nat) (zs : List (Nat × Tok)) : List (Nat × Tok) := zs.map fun p => (n - p.1, p.2)
theorem posL_cons (n : Nat) (p : Nat × Tok) (zs : List (Nat × Tok)) : posL n (p :: zs) = (n - p.1, p.2) :: posL n zs := rfl
theorem posL_append (n : Nat) (a b : List (Nat × Tok)) : posL n (a ++ b) = posL n a ++ posL n b := by simp [posL]
theorem posL_length (n : Nat) (a : List (Nat × Tok)) : (posL n a).length = a.length := by simp [posL]
theorem told_walks (n : Nat) : ∀ {l : List UInt8} {zs : List (Nat × Tok)}, Walks l zs → ∀ xs : List (Nat × Tok), xs.find? great = none → told n (many (nextT n) xs l) = (xs ++ posL n zs, 0, 0) := by
  intro l zs h
  induction h with
  | nil => intro xs hx; rw [told_end hx]; simp [posL]
  | cons h1 h2 h3 ih =>
    intro xs hx
    rw [told_step h1, ih _ (find_snoc hx h2), posL_cons]
    simp
theorem walks_told (n : Nat) : ∀ (k : Nat) (l : List UInt8) (xs : List (Nat × Tok)), l.length ≤ k → xs.find? great = none → (told n (many (nextT n) xs l)).2.2 = 0 → ∃ zs, Walks l zs
  | k, [], xs, _, _, _ => ⟨[], .nil⟩
  | 0, _ :: _, _, h, _, _ => by simp at h
  | k + 1, c :: l, xs, hk, hx, h => by
    cases ht : tokL (c :: l) with
    | none => rw [told_bad hx ht (by simp)] at h; cases h
    | some p =>
      obtain ⟨t, r⟩ := p
      by_cases hg : 10 < t.2.2.2.1.length
      · rw [told_big hx ht hg] at h; cases h
      · rw [told_step ht] at h
        have hl := tok_len ht
        obtain ⟨zs, hz⟩ := walks_told n k r _ (by simp at hk hl; omega) (find_snoc hx hg) h
        exact ⟨_, .cons ht hg hz⟩
theorem toks_ok {l : List UInt8} (h : (tokensL l).2.2 = 0) : l.length ≤ 20000 ∧ valid l = true ∧ ∃ zs, Walks (over headL l) zs ∧ tokensL l = (posL l.length zs, 0, 0) := by
  unfold tokensL at h ⊢
  split at h
  · cases h
  · rename_i hs
    split at h
    · rename_i hv
      rw [if_neg hs, if_pos hv]
      unfold toksL at h ⊢
      obtain ⟨zs, hz⟩ := walks_told l.length _ _ [] (Nat.le_refl _) rfl h
      exact ⟨by omega, hv, zs, hz, by rw [told_walks _ hz [] rfl]; rfl⟩
    · cases h
theorem toks_of {l : List UInt8} {zs : List (Nat × Tok)} (hl : l.length ≤ 20000) (hv : valid l = true) (h : Walks (over headL l) zs) : tokensL l = (posL l.length zs, 0, 0) := by
  unfold tokensL
  rw [if_neg (by omega), if_pos hv]
  unfold toksL
  rw [told_walks _ h [] rfl]
  rfl
theorem toks_err {l : List UInt8} (h : (tokensL l).2.2 ≠ 0) : (tokensL l).1 = [] := by
  unfold tokensL at h ⊢
  split
  · rfl
  · rename_i hs
    rw [if_neg hs] at h
    split
    · rename_i hv
      rw [if_pos hv] at h
      unfold told at h ⊢
      cases hf : (toksL l).1.find? great with
      | some t => rfl
      | none =>
        rw [hf] at h
        simp only at h ⊢
        split
        · rename_i he; rw [if_pos he] at h; exact absurd rfl h
        · rfl
    · rfl
theorem tok_valid {l r : List UInt8} {t : Tok} (h : tokL l = some (t, r)) (hv : valid l = true) : valid r = true := by
  obtain ⟨c, p, e, _, _, h3, h4, _⟩ := tok_piece h
  by_cases hk : t.1 = 3
  · rcases h3 hk with rfl | ⟨y, rfl⟩
    · exact valid_some ch_nil
    · rw [e] at hv
      exact (valid_cut _ (c :: p) y 60 (Nat.le_refl _) (by decide) hv).2
  · obtain ⟨p', rfl⟩ := h4 hk
    rw [e, show c :: (p' ++ [62]) ++ r = (c :: p') ++ 62 :: r by simp] at hv
    exact valid_tail (by decide) (valid_cut _ (c :: p') r 62 (Nat.le_refl _) (by decide) hv).2
theorem head_cases (l : List UInt8) : (∃ x, l = headL ++ x ∧ over headL l = x) ∨ (headL.isPrefixOf l = false ∧ over headL l = l) := by
  cases h : headL.isPrefixOf l with
  | true =>
    rw [List.isPrefixOf_iff_prefix] at h
    obtain ⟨x, rfl⟩ := h
    refine .inl ⟨x, rfl, ?_⟩
    unfold over
    rw [if_pos (by rw [List.isPrefixOf_iff_prefix]; exact List.prefix_append _ _), List.drop_left' rfl]
  | false => exact .inr ⟨rfl, by unfold over; rw [h]; rfl⟩
theorem head_valid {l : List UInt8} (h : valid l = true) : valid (over headL l) = true := by
  rcases head_cases l with ⟨x, rfl, e⟩ | ⟨_, e⟩
  · rw [e]
    have e2 : headL ++ x = headL.dropLast ++ 62 :: x := rfl
    rw [e2] at h
    exact valid_tail (by decide) (valid_cut _ _ x 62 (Nat.le_refl _) (by decide) h).2
  · rw [e]; exact h
theorem no_head {q r : List UInt8} {t : Tok} (h : tokL q = some (t, r)) : over headL q = q := by
  rcases head_cases q with ⟨x, rfl, e⟩ | ⟨_, e⟩
  · exfalso
    have e1 : headL ++ x = 60 :: (63 :: (headL.drop 2 ++ x)) := rfl
    rw [e1, tok_open (fun y e => by injection e with e _; exact absurd e (by decide))] at h
    unfold openL at h
    rw [if_pos (show (nameL (63 :: (headL.drop 2 ++ x))).1 = [] from rfl)] at h
    cases h
  · exact e
theorem walks_at : ∀ {l : List UInt8} {zs : List (Nat × Tok)}, Walks l zs → ∀ (i m : Nat) (t : Tok), zs[i]? = some (m, t) → ∃ p q r, l = p ++ q ∧ q.length = m ∧ tokL q = some (t, r) ∧ Walks q (zs.drop i) ∧ (valid l = true → valid q = true) ∧ ∀ (j m' : Nat) (t' : Tok), j < i → zs[j]? = some (m', t') → m < m' := by
  intro l zs h
  induction h with
  | nil => intro i m t hi; simp at hi
  | @cons l r t0 zs h1 h2 h3 ih =>
    intro i m t hi
    match i, hi with
    | 0, hi =>
      simp at hi
      obtain ⟨rfl, rfl⟩ := hi
      exact ⟨[], l, r, rfl, rfl, h1, .cons h1 h2 h3, id, fun j m' t' hj => by omega⟩
    | i + 1, hi =>
      obtain ⟨p, q, r', e1, e2, e3, e4, e5, e6⟩ := ih i m t (by simpa using hi)
      obtain ⟨c, p0, e, _⟩ := tok_piece h1
      refine ⟨c :: p0 ++ p, q, r', by rw [e, e1]; simp, e2, e3, by simpa using e4, fun hv => e5 (tok_valid h1 hv), fun j m' t' hj hjz => ?_⟩
      match j, hj, hjz with
      | 0, _, hjz =>
        simp at hjz
        have := tok_len h1
        rw [e1] at this
        simp at this
        omega
      | j + 1, hj, hjz => exact e6 j m' t' (by omega) (by simpa using hjz)
/-- all that is asked of the i-th token's place -/
theorem place_at {l : List UInt8} (h : (tokensL l).2.2 = 0) {i k : Nat} {t : Tok} (hi : (tokensL l).1[i]? = some (k, t)) :
    k < l.length ∧ (∃ xs, tokensL (l.drop k) = ((0, t) :: xs, 0, 0)) ∧ ((l.drop k).head? = some 60 ↔ t.1 ≠ 3) ∧ ∀ (j k' : Nat) (t' : Tok), j < i → (tokensL l).1[j]? = some (k', t') → k' < k := by
  obtain ⟨hl, hv, zs, hz, e⟩ := toks_ok h
  rw [e] at hi ⊢
  simp only at hi ⊢
  unfold posL at hi ⊢
  rw [List.getElem?_map] at hi
  obtain ⟨⟨m, t0⟩, hm, e0⟩ := Option.map_eq_some_iff.1 hi
  simp only [Prod.mk.injEq] at e0
  obtain ⟨rfl, rfl⟩ := e0
  obtain ⟨p, q, r, e1, e2, e3, e4, e5, e6⟩ := walks_at hz i m t0 hm
  obtain ⟨p0, hp0⟩ : ∃ p0, l = p0 ++ q := by
    rcases head_cases l with ⟨x, h1, h2⟩ | ⟨_, h2⟩
    · rw [h2] at e1
      exact ⟨headL ++ p, by rw [h1, e1]; simp⟩
    · rw [h2] at e1
      exact ⟨p, e1⟩
  have hlen : l.length = p0.length + m := by rw [hp0, List.length_append, e2]
  have hdrop : l.drop (l.length - m) = q := by
    rw [show l.length - m = p0.length by omega]
    conv => lhs; rw [hp0]
    exact List.drop_left' rfl
  have hq := tok_len e3
  have hvq : valid q = true := e5 (head_valid hv)
  have hq2 : tokensL q = (posL q.length (zs.drop i), 0, 0) := toks_of (by omega) hvq (by rw [no_head e3]; exact e4)
  obtain ⟨c, p', e7, _, e8, _⟩ := tok_piece e3
  refine ⟨by omega, ?_, ?_, fun j k' t' hj hjz => ?_⟩
  · rw [hdrop, hq2]
    obtain ⟨hi2, hi3⟩ := List.getElem?_eq_some_iff.1 hm
    rw [List.drop_eq_getElem_cons hi2, hi3, posL_cons]
    simp only
    rw [e2, Nat.sub_self]
    exact ⟨_, rfl⟩
  · rw [hdrop, e7]
    constructor
    · intro h
      have : c = 60 := by simpa using h
      exact e8.1 this
    · intro h
      rw [e8.2 h]
      rfl
  · rw [List.getElem?_map] at hjz
    obtain ⟨⟨m', t1⟩, hm', e0⟩ := Option.map_eq_some_iff.1 hjz
    simp only [Prod.mk.injEq] at e0
    obtain ⟨rfl, rfl⟩ := e0
    have h1 := e6 j m' t1 hj hm'
    obtain ⟨p1, q1, r1, f1, f2, f3, _⟩ := walks_at hz j m' t1 hm'
    have : m' ≤ l.length := by
      have h2 : (over headL l).length ≤ l.length := by
        unfold over
        split
        · rw [List.length_drop]; omega
        · exact Nat.le_refl _
      rw [f1, List.length_append] at h2
      omega
    omega
end Go.Proofs.YtlpjealcmnnbnaaDoor.Tk
