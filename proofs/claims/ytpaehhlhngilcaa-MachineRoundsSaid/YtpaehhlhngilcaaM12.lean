import Derived.Test.YtpaehhlhngilcaaM11
/- what is reached of it -/
namespace Go.Proofs.Ytpaehhlhngilcaa.Sy
open Go Go.Proofs Go.Proofs.Ytpaehhlhngilcaa Go.RowKit Go.Lib Go.Sort
variable {α : Type} {lt : α → α → Bool}
/-- so far turned: i behind X, j behind them: to change their places -/
def Rot (T : List α) (m i j : Nat) (D : Array α) : Prop := ∃ X U V Y : List α, D = (X ++ U ++ V ++ Y).toArray ∧ X.length + U.length = m ∧ U.length = i ∧ V.length = j ∧ X ++ V ++ U ++ Y = T
theorem Rot.size {T : List α} {m i j : Nat} {D : Array α} (h : Rot T m i j D) : D.size = T.length ∧ i ≤ m ∧ m + j ≤ D.size := by
  obtain ⟨X, U, V, Y, rfl, h1, h2, h3, rfl⟩ := h
  refine ⟨by simp; omega, by omega, by simp; omega⟩
theorem Rot.left [Inhabited α] {T : List α} {m i j : Nat} {D : Array α} (h : Rot T m i j D) (hij : j < i) : Rot T m (i - j) j (swN (m - i) m j D) := by
  obtain ⟨X, U, V, Y, rfl, h1, h2, h3, rfl⟩ := h
  have e : U = U.take j ++ U.drop j := (List.take_append_drop j U).symm
  have l1 : (U.take j).length = j := by rw [List.length_take]; omega
  have l2 : (U.drop j).length = i - j := by rw [List.length_drop]; omega
  generalize U.take j = U1 at e l1
  generalize U.drop j = U2 at e l2
  subst e
  have hx : m - i = X.length := by omega
  have hm : m = X.length + U1.length + U2.length := by simp at h1; omega
  have := swN_all X U1 U2 V Y j l1 h3
  refine ⟨X ++ V, U2, U1, Y, ?_, by simp; omega, l2, l1, by simp⟩
  rw [hx, hm, ← List.append_assoc X U1 U2, this]
theorem Rot.right [Inhabited α] {T : List α} {m i j : Nat} {D : Array α} (h : Rot T m i j D) (hij : i < j) : Rot T m i (j - i) (swN (m - i) (m + j - i) i D) := by
  obtain ⟨X, U, V, Y, rfl, h1, h2, h3, rfl⟩ := h
  have e : V = V.take (j - i) ++ V.drop (j - i) := (List.take_append_drop (j - i) V).symm
  have l1 : (V.take (j - i)).length = j - i := by rw [List.length_take]; omega
  have l2 : (V.drop (j - i)).length = i := by rw [List.length_drop]; omega
  generalize V.take (j - i) = V1 at e l1
  generalize V.drop (j - i) = V2 at e l2
  subst e
  have hx : m - i = X.length := by omega
  have hm : m + j - i = X.length + U.length + V1.length := by omega
  have := swN_all X U V1 V2 Y i h2 l2
  refine ⟨X, V2, V1, U ++ Y, ?_, by omega, l2, l1, by simp⟩
  rw [hx, hm, show X ++ U ++ (V1 ++ V2) ++ Y = X ++ U ++ V1 ++ V2 ++ Y by simp, this]
  simp
theorem Rot.last [Inhabited α] {T : List α} {m i : Nat} {D : Array α} (h : Rot T m i i D) : swN (m - i) m i D = T.toArray := by
  obtain ⟨X, U, V, Y, rfl, h1, h2, h3, rfl⟩ := h
  have := swN_all X U [] V Y i h2 h3
  have hx : m - i = X.length := by omega
  have hm : m = X.length + U.length + ([] : List α).length := by simp; omega
  rw [hx, hm, show X ++ U ++ V ++ Y = X ++ U ++ [] ++ V ++ Y by simp, this]
  simp

theorem swp_comm [Inhabited α] (d : Array α) (i j : Nat) (hi : i < d.size) (hj : j < d.size) : swp d i j = swp d j i := by
  apply Array.ext
  · simp [size_swp]
  · intro t h1 h2
    have g1 := swp_get d hi hj t
    have g2 := swp_get d hj hi t
    rw [getElem!_pos _ t h1] at g1
    rw [getElem!_pos _ t h2] at g2
    rw [g1, g2]
    by_cases a : t = j
    · by_cases b : t = i
      · subst a; subst b; rfl
      · rw [if_pos a, if_neg b, if_pos a]
    · by_cases b : t = i
      · rw [if_neg a, if_pos b, if_pos b]
      · rw [if_neg a, if_neg b, if_neg b, if_neg a]
theorem get_app [Inhabited α] (X Y : List α) (a : α) (i : Nat) (h : i = X.length) : (X ++ a :: Y).toArray[i]! = a := by
  subst h
  rw [getElem!_pos _ _ (by simp)]; simp

/-- x on its way down a sorted list, behind X -/
def InsR (lt : α → α → Bool) (X : List α) (x : α) (L Z : List α) (j : Nat) (D : Array α) : Prop := ∃ P Q : List α, D = (X ++ P ++ x :: (Q ++ Z)).toArray ∧ X.length + P.length = j ∧ P ++ Q = L ∧ ∀ q ∈ Q.head?, lt x q = true
theorem InsR.size {X : List α} {x : α} {L Z : List α} {j : Nat} {D : Array α} (h : InsR lt X x L Z j D) : D.size = X.length + L.length + 1 + Z.length ∧ X.length ≤ j ∧ j ≤ X.length + L.length := by
  obtain ⟨P, Q, rfl, h1, rfl, h2⟩ := h
  refine ⟨by simp; omega, by omega, by simp; omega⟩
theorem InsR.step [Inhabited α] {X : List α} {x : α} {L Z : List α} {j : Nat} {D : Array α} (h : InsR lt X x L Z j D) (hj : X.length < j) (hl : lt D[j]! D[j - 1]! = true) : InsR lt X x L Z (j - 1) (swp D j (j - 1)) := by
  obtain ⟨P, Q, rfl, h1, rfl, h2⟩ := h
  rcases List.eq_nil_or_concat P with rfl | ⟨P', z, rfl⟩
  · simp at h1; omega
  · rw [List.concat_eq_append] at h1 hl ⊢
    have e : X ++ (P' ++ [z]) ++ x :: (Q ++ Z) = (X ++ P') ++ z :: ([] ++ x :: (Q ++ Z)) := by simp
    have g1 : (X ++ (P' ++ [z]) ++ x :: (Q ++ Z)).toArray[j]! = x := get_app _ _ _ _ (by simp at h1 ⊢; omega)
    have g2 : (X ++ (P' ++ [z]) ++ x :: (Q ++ Z)).toArray[j - 1]! = z := by rw [e]; exact get_app _ _ _ _ (by simp at h1 ⊢; omega)
    rw [g1, g2] at hl
    refine ⟨P', z :: Q, ?_, by simp at h1 ⊢; omega, by simp, by simp; exact hl⟩
    have hs : (X ++ (P' ++ [z]) ++ x :: (Q ++ Z)).toArray.size = X.length + P'.length + 1 + 1 + Q.length + Z.length := by simp; omega
    rw [swp_comm _ _ _ (by rw [hs]; simp at h1; omega) (by rw [hs]; simp at h1; omega), e, swp_list _ _ _ _ _ _ _ (by simp at h1 ⊢; omega) (by simp at h1 ⊢; omega)]
    simp
theorem InsR.stop [Inhabited α] (hW : Weak lt) {X : List α} {x : α} {L Z : List α} {j : Nat} {D : Array α} (h : InsR lt X x L Z j D) (hL : Up lt L) (hj : j ≤ X.length ∨ lt D[j]! D[j - 1]! = false) : D = (X ++ insS lt x L ++ Z).toArray := by
  obtain ⟨P, Q, rfl, h1, rfl, h2⟩ := h
  rw [ins_at hW x P Q hL ?_ h2]
  · simp
  · intro p hp
    rcases List.eq_nil_or_concat P with rfl | ⟨P', z, rfl⟩
    · simp at hp
    · rw [List.concat_eq_append] at h1 hj hp
      have e : X ++ (P' ++ [z]) ++ x :: (Q ++ Z) = (X ++ P') ++ z :: ([] ++ x :: (Q ++ Z)) := by simp
      have g1 : (X ++ (P' ++ [z]) ++ x :: (Q ++ Z)).toArray[j]! = x := get_app _ _ _ _ (by simp at h1 ⊢; omega)
      have g2 : (X ++ (P' ++ [z]) ++ x :: (Q ++ Z)).toArray[j - 1]! = z := by rw [e]; exact get_app _ _ _ _ (by simp at h1 ⊢; omega)
      rw [g1, g2] at hj
      simp at hp
      subst hp
      rcases hj with hj | hj
      · simp at h1; omega
      · exact hj
/-- i of S are sorted, behind X -/
def OutR (lt : α → α → Bool) (X S Y : List α) (i : Nat) (D : Array α) : Prop := D = (X ++ sortS lt (S.take (i - X.length)) ++ S.drop (i - X.length) ++ Y).toArray
theorem OutR.start (X S Y : List α) : OutR lt X S Y (X.length + 1) (X ++ S ++ Y).toArray := by
  unfold OutR
  rw [show X.length + 1 - X.length = 1 by omega]
  cases S with
  | nil => simp [sortS]
  | cons s S => simp [sortS, insS]
theorem OutR.next {X S Y : List α} {i : Nat} {x : α} (hi : X.length < i) (hx : S[i - X.length]? = some x) : OutR lt X S Y (i + 1) (X ++ insS lt x (sortS lt (S.take (i - X.length))) ++ (S.drop (i - X.length + 1) ++ Y)).toArray := by
  unfold OutR
  rw [show i + 1 - X.length = i - X.length + 1 by omega, List.take_add_one, hx]
  simp only [Option.toList_some, sortS_snoc]
  simp
theorem OutR.last {X S Y : List α} {i : Nat} {D : Array α} (h : OutR lt X S Y i D) (hi : X.length + S.length ≤ i) : D = (X ++ sortS lt S ++ Y).toArray := by
  unfold OutR at h
  rw [h, List.take_of_length_le (by omega), List.drop_eq_nil_of_le (by omega)]
  simp
theorem OutR.size {X S Y : List α} {i : Nat} {D : Array α} (h : OutR lt X S Y i D) : D.size = X.length + S.length + Y.length := by
  unfold OutR at h
  rw [h]; simp [sortS_len]; omega
end Go.Proofs.Ytpaehhlhngilcaa.Sy
