import Derived.Test.YtpaehhlhngilcaaM13
/- what is reached of it -/
namespace Go.Proofs.Ytpaehhlhngilcaa.Sy
open Go Go.Proofs Go.Proofs.Ytpaehhlhngilcaa Go.RowKit Go.Lib Go.Sort
variable {α : Type} {lt : α → α → Bool}
def ch (lt : α → α → Bool) (w : Nat) : Nat → List α → List α
  | 0, L => sortS lt L
  | k + 1, L => sortS lt (L.take w) ++ ch lt w k (L.drop w)
theorem ch_len (w : Nat) : ∀ (k : Nat) (L : List α), (ch lt w k L).length = L.length
  | 0, L => sortS_len L
  | k + 1, L => by rw [ch, List.length_append, sortS_len, ch_len w k, List.length_take, List.length_drop]; omega
theorem sortS_nil : sortS lt ([] : List α) = [] := rfl
/-- some blocks are sorted, L' is not: of the first i -/
structure Ahead (lt : α → α → Bool) (w : Nat) (L X R : List α) (j : Nat) : Prop where
  len : X.length = j * w
  sum : X.length + R.length = L.length
  fin : ∀ t, X ++ ch lt w t R = ch lt w (j + t) L
theorem Ahead.start (w : Nat) (L : List α) : Ahead lt w L [] L 0 := ⟨by simp, by simp, fun t => by rw [Nat.zero_add, List.nil_append]⟩
theorem Ahead.step {w : Nat} {L X R : List α} {j : Nat} (h : Ahead lt w L X R j) (hR : w ≤ R.length) : Ahead lt w L (X ++ sortS lt (R.take w)) (R.drop w) (j + 1) :=
  ⟨by rw [List.length_append, sortS_len, List.length_take, h.len, Nat.add_mul, Nat.min_eq_left hR]; omega, by rw [List.length_append, sortS_len, List.length_take, List.length_drop]; have := h.sum; omega,
    fun t => by rw [List.append_assoc, show j + 1 + t = j + (t + 1) by omega, ← h.fin (t + 1)]; rfl⟩
/-- all of it, sorted by blocks of w -/
def Blk (lt : α → α → Bool) (w : Nat) (L : List α) (T : List α) : Prop := ∃ k, k * w ≤ L.length ∧ L.length < (k + 1) * w ∧ T = ch lt w k L
theorem Blk.last {w : Nat} {L T : List α} (h : Blk lt w L T) (hw : L.length ≤ w) : T = sortS lt L := by
  obtain ⟨k, h1, h2, rfl⟩ := h
  match k, h1, h2 with
  | 0, _, _ => rfl
  | 1, h1, _ =>
    rw [Nat.one_mul] at h1
    have e : L.length = w := by omega
    simp only [ch]
    rw [List.take_of_length_le (by omega), List.drop_eq_nil_of_le (by omega), sortS_nil, List.append_nil]
  | k + 2, h1, h2 =>
    exfalso
    have : (k + 2) * w = k * w + 2 * w := by rw [Nat.add_mul]
    have h3 : (k + 2 + 1) * w = k * w + 3 * w := by rw [Nat.add_assoc, Nat.add_mul]
    omega
/-- on the way to blocks of 2 w: so far X; behind it R, by blocks of w -/
structure Twice (lt : α → α → Bool) (w : Nat) (L X R U : List α) (j : Nat) : Prop where
  ah : Ahead lt (2 * w) L X R j
  blk : Blk lt w R U
theorem Twice.start {w : Nat} {L T : List α} (h : Blk lt w L T) : Twice lt w L [] L T 0 := ⟨Ahead.start _ _, h⟩
theorem Blk.len {w : Nat} {L T : List α} (h : Blk lt w L T) : T.length = L.length := by
  obtain ⟨k, _, _, rfl⟩ := h
  exact ch_len _ _ _
theorem Twice.step (hW : Weak lt) {w : Nat} {L X R U : List α} {j : Nat} (h : Twice lt w L X R U j) (hw : 0 < w) (hR : 2 * w ≤ R.length) :
    ∃ A C Z, U = A ++ C ++ Z ∧ A.length = w ∧ C.length = w ∧ Up lt A ∧ Up lt C ∧ Twice lt w L (X ++ mergeS lt A C) (R.drop (2 * w)) Z (j + 1) := by
  obtain ⟨k, h1, h2, rfl⟩ := h.blk
  match k, h1, h2 with
  | 0, _, h2 => exfalso; rw [Nat.zero_add, Nat.one_mul] at h2; omega
  | 1, _, h2 => exfalso; have : (1 + 1) * w = 2 * w := rfl; omega
  | k + 2, h1, h2 =>
    have e1 : (k + 2) * w = k * w + 2 * w := by rw [Nat.add_mul]
    have e2 : (k + 2 + 1) * w = (k + 1) * w + 2 * w := by rw [show k + 2 + 1 = (k + 1) + 2 by omega, Nat.add_mul]
    refine ⟨sortS lt (R.take w), sortS lt ((R.drop w).take w), ch lt w k ((R.drop w).drop w), by simp [ch], by rw [sortS_len, List.length_take]; omega, by rw [sortS_len, List.length_take, List.length_drop]; omega, sortS_up hW _, sortS_up hW _, ?_⟩
    have et : R.take w ++ (R.drop w).take w = R.take (2 * w) := by
      rw [Nat.two_mul, List.take_add]
    have ed : (R.drop w).drop w = R.drop (2 * w) := by rw [List.drop_drop, Nat.two_mul]
    rw [← sort_app hW, et, ed]
    refine ⟨h.ah.step hR, k, ?_, ?_, rfl⟩
    · rw [List.length_drop]; omega
    · rw [List.length_drop]; omega
/-- the last two, or one, or none -/
theorem Twice.two (hW : Weak lt) {w : Nat} {L X R U : List α} {j : Nat} (h : Twice lt w L X R U j) (hR : R.length < 2 * w) (hm : w < R.length) :
    ∃ A C, U = A ++ C ∧ A.length = w ∧ 0 < C.length ∧ Up lt A ∧ Up lt C ∧ Blk lt (2 * w) L (X ++ mergeS lt A C) := by
  obtain ⟨k, h1, h2, rfl⟩ := h.blk
  match k, h1, h2 with
  | 0, _, h2 => exfalso; rw [Nat.zero_add, Nat.one_mul] at h2; omega
  | 1, _, h2 =>
    refine ⟨sortS lt (R.take w), sortS lt (R.drop w), rfl, by rw [sortS_len, List.length_take]; omega, by rw [sortS_len, List.length_drop]; omega, sortS_up hW _, sortS_up hW _, ?_⟩
    rw [← sort_app hW, List.take_append_drop]
    have hl := h.ah.len
    have hs := h.ah.sum
    refine ⟨j, by omega, by rw [Nat.add_mul]; omega, ?_⟩
    have := h.ah.fin 0
    simpa [ch] using this
  | k + 2, h1, h2 =>
    exfalso
    have e1 : (k + 2) * w = k * w + 2 * w := by rw [Nat.add_mul]
    omega
theorem Twice.one {w : Nat} {L X R U : List α} {j : Nat} (h : Twice lt w L X R U j) (hw : 0 < w) (hm : R.length ≤ w) : Blk lt (2 * w) L (X ++ U) := by
  have hU : U = sortS lt R := h.blk.last hm
  rw [hU]
  have hl := h.ah.len
  have hs := h.ah.sum
  refine ⟨j, by omega, by rw [Nat.add_mul]; omega, ?_⟩
  have := h.ah.fin 0
  simpa [ch] using this
theorem Ahead.blk {w : Nat} {L X R : List α} {j : Nat} (h : Ahead lt w L X R j) (hR : R.length < w) : Blk lt w L (X ++ sortS lt R) := by
  have hl := h.len
  have hs := h.sum
  refine ⟨j, by omega, by rw [Nat.add_mul]; omega, ?_⟩
  have := h.fin 0
  simpa [ch] using this
end Go.Proofs.Ytpaehhlhngilcaa.Sy
