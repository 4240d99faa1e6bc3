import Derived.Test.YtpaehhlhngilcaaM12
/- what is reached of it -/
namespace Go.Proofs.Ytpaehhlhngilcaa.Sy
open Go Go.Proofs Go.Proofs.Ytpaehhlhngilcaa Go.RowKit Go.Lib Go.Sort
variable {α : Type} {lt : α → α → Bool}
theorem up_le (hW : Weak lt) {B : List α} (hB : Up lt B) {i j : Nat} (hij : i ≤ j) (hj : j < B.length) : lt (B[j]'hj) (B[i]'(by omega)) = false := by
  by_cases e : i = j
  · subst e; exact hW.irr _
  · exact List.pairwise_iff_getElem.1 hB i j (by omega) hj (by omega)
/-- one element x ahead of B: sought from m on -/
def SeaL (lt : α → α → Bool) (x : α) (B : List α) (m i j : Nat) : Prop := (∀ c ∈ B.take (i - m), lt c x = true) ∧ ∀ c ∈ (B.drop (j - m)).head?, lt c x = false
theorem SeaL.start (x : α) (B : List α) (m b : Nat) (hb : m + B.length = b) : SeaL lt x B m m b := by
  refine ⟨by simp, ?_⟩
  rw [List.drop_eq_nil_of_le (by omega)]; simp
theorem SeaL.up (hW : Weak lt) {x : α} {B : List α} {m i j h : Nat} (s : SeaL lt x B m i j) (hB : Up lt B) (hm : m ≤ h) (hl : h - m < B.length) (hx : lt (B[h - m]'hl) x = true) : SeaL lt x B m (h + 1) j := by
  refine ⟨?_, s.2⟩
  intro c hc
  obtain ⟨k, hk, rfl⟩ := List.mem_take_iff_getElem.1 hc
  exact hW.n2 hx (up_le hW hB (by omega) hl)
theorem SeaL.last {x : α} {B : List α} {m i : Nat} (s : SeaL lt x B m i i) : mergeS lt [x] B = B.take (i - m) ++ x :: B.drop (i - m) := by
  have := merge_one x (B.take (i - m)) (B.drop (i - m)) s.1 s.2
  rwa [List.take_append_drop] at this
/-- one element x behind A: sought from a on -/
def SeaR (lt : α → α → Bool) (x : α) (A : List α) (a i j : Nat) : Prop := (∀ c ∈ A.take (i - a), lt x c = false) ∧ ∀ c ∈ A.drop (j - a), lt x c = true
theorem SeaR.start (x : α) (A : List α) (a m : Nat) (hm : a + A.length = m) : SeaR lt x A a a m := by
  refine ⟨by simp, ?_⟩
  rw [List.drop_eq_nil_of_le (by omega)]; simp
theorem SeaR.up (hW : Weak lt) {x : α} {A : List α} {a i j h : Nat} (s : SeaR lt x A a i j) (hA : Up lt A) (hm : a ≤ h) (hl : h - a < A.length) (hx : lt x (A[h - a]'hl) = false) : SeaR lt x A a (h + 1) j := by
  refine ⟨?_, s.2⟩
  intro c hc
  obtain ⟨k, hk, rfl⟩ := List.mem_take_iff_getElem.1 hc
  cases e : lt x (A[k]'(by omega)) with
  | false => rfl
  | true => have := hW.n1 e (up_le hW hA (show k ≤ h - a by omega) hl); rw [hx] at this; cases this
theorem SeaR.last {x : α} {A : List α} {a i : Nat} (s : SeaR lt x A a i i) : mergeS lt A [x] = A.take (i - a) ++ x :: A.drop (i - a) := by
  have := one_merge x (A.take (i - a)) (A.drop (i - a)) s.1 s.2
  rwa [List.take_append_drop] at this
/-- x at place k of X, L, Y -/
def MovR (X : List α) (x : α) (L Y : List α) (k : Nat) (D : Array α) : Prop := D = (X ++ L.take (k - X.length) ++ x :: (L.drop (k - X.length) ++ Y)).toArray
theorem MovR.size {X : List α} {x : α} {L Y : List α} {k : Nat} {D : Array α} (h : MovR X x L Y k D) : D.size = X.length + L.length + 1 + Y.length := by
  unfold MovR at h
  rw [h]; simp; omega
theorem MovR.up [Inhabited α] {X : List α} {x : α} {L Y : List α} {k : Nat} {D : Array α} (h : MovR X x L Y k D) (hk : X.length ≤ k) (hl : k < X.length + L.length) : MovR X x L Y (k + 1) (swp D k (k + 1)) := by
  unfold MovR at h ⊢
  have e : L.drop (k - X.length) = L[k - X.length] :: L.drop (k - X.length + 1) := List.drop_eq_getElem_cons (by omega)
  have t : L.take (k - X.length + 1) = L.take (k - X.length) ++ [L[k - X.length]] := by rw [List.take_add_one, List.getElem?_eq_getElem (by omega)]; rfl
  rw [h, e, show k + 1 - X.length = k - X.length + 1 by omega, t]
  have e1 : X ++ L.take (k - X.length) ++ x :: (L[k - X.length] :: L.drop (k - X.length + 1) ++ Y) = (X ++ L.take (k - X.length)) ++ x :: ([] ++ L[k - X.length] :: (L.drop (k - X.length + 1) ++ Y)) := by simp only [List.append_assoc, List.cons_append, List.nil_append]
  rw [e1, swp_list _ _ _ _ _ _ _ (by simp; omega) (by simp; omega)]
  simp only [List.append_assoc, List.cons_append, List.nil_append]
end Go.Proofs.Ytpaehhlhngilcaa.Sy
