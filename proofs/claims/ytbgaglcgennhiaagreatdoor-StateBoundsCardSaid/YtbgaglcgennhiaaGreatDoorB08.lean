import Derived.Test.YtbgaglcgennhiaaGreatDoorB06
section
/- what is reached of it -/
namespace Go.Proofs.YtbgaglcgennhiaaGreatDoor.Sy
open Go Go.Proofs Go.Proofs.YtbgaglcgennhiaaGreatDoor Go.RowKit Go.Lib Go.Sort
variable {α : Type} {lt : α → α → Bool}
theorem up_le (hW : Weak lt) {B : List α} (hB : Up lt B) {i j : Nat} (hij : i ≤ j) (hj : j < B.length) : lt (B[j]'hj) (B[i]'(by omega)) = false := by
  by_cases e : i = j
  · subst e; exact hW.irr _
  · exact List.pairwise_iff_getElem.1 hB i j (by omega) hj (by omega)
/-- one element x ahead of B: sought from m on -/
def SeaL (lt : α → α → Bool) (x : α) (B : List α) (m i j : Nat) : Prop := (∀ c ∈ B.take (i - m), lt c x = true) ∧ ∀ c ∈ (B.drop (j - m)).head?, lt c x = false
theorem SeaL.start (x : α) (B : List α) (m b : Nat) (hb : m + B.length = b) : SeaL lt x B m m b := by
  refine ⟨by simp, ?_⟩
  rw [List.drop_eq_nil_of_le (by omega)]; simp
theorem SeaL.up (hW : Weak lt) {x : α} {B : List α} {m i j h : Nat} (s : SeaL lt x B m i j) (hB : Up lt B) (hm : m ≤ h) (hl : h - m < B.length) (hx : lt (B[h - m]'hl) x = true) : SeaL lt x B m (h + 1) j := by
  refine ⟨?_, s.2⟩
  intro c hc
  obtain ⟨k, hk, rfl⟩ := List.mem_take_iff_getElem.1 hc
  exact hW.n2 hx (up_le hW hB (by omega) hl)
theorem SeaL.down {x : α} {B : List α} {m i j h : Nat} (s : SeaL lt x B m i j) (hl : h - m < B.length) (hx : lt (B[h - m]'hl) x = false) : SeaL lt x B m i h := by
  refine ⟨s.1, ?_⟩
  rw [List.drop_eq_getElem_cons hl]
  simp only [List.head?_cons, Option.mem_def, Option.some.injEq, forall_eq']
  exact hx
theorem SeaL.last {x : α} {B : List α} {m i : Nat} (s : SeaL lt x B m i i) : mergeS lt [x] B = B.take (i - m) ++ x :: B.drop (i - m) := by
  have := merge_one x (B.take (i - m)) (B.drop (i - m)) s.1 s.2
  rwa [List.take_append_drop] at this
/-- one element x behind A: sought from a on -/
def SeaR (lt : α → α → Bool) (x : α) (A : List α) (a i j : Nat) : Prop := (∀ c ∈ A.take (i - a), lt x c = false) ∧ ∀ c ∈ A.drop (j - a), lt x c = true
theorem SeaR.start (x : α) (A : List α) (a m : Nat) (hm : a + A.length = m) : SeaR lt x A a a m := by
  refine ⟨by simp, ?_⟩
  rw [List.drop_eq_nil_of_le (by omega)]; simp
theorem SeaR.up (hW : Weak lt) {x : α} {A : List α} {a i j h : Nat} (s : SeaR lt x A a i j) (hA : Up lt A) (hm : a ≤ h) (hl : h - a < A.length) (hx : lt x (A[h - a]'hl) = false) : SeaR lt x A a (h + 1) j := by
  refine ⟨?_, s.2⟩
  intro c hc
  obtain ⟨k, hk, rfl⟩ := List.mem_take_iff_getElem.1 hc
  cases e : lt x (A[k]'(by omega)) with
  | false => rfl
  | true => have := hW.n1 e (up_le hW hA (show k ≤ h - a by omega) hl); rw [hx] at this; cases this
theorem SeaR.down (hW : Weak lt) {x : α} {A : List α} {a i j h : Nat} (s : SeaR lt x A a i j) (hA : Up lt A) (hl : h - a < A.length) (hx : lt x (A[h - a]'hl) = true) : SeaR lt x A a i h := by
  refine ⟨s.1, ?_⟩
  intro c hc
  obtain ⟨k, hk, rfl⟩ := List.mem_iff_getElem.1 hc
  rw [List.getElem_drop]
  rw [List.length_drop] at hk
  exact hW.n1 hx (up_le hW hA (by omega) (by omega))
theorem SeaR.last {x : α} {A : List α} {a i : Nat} (s : SeaR lt x A a i i) : mergeS lt A [x] = A.take (i - a) ++ x :: A.drop (i - a) := by
  have := one_merge x (A.take (i - a)) (A.drop (i - a)) s.1 s.2
  rwa [List.take_append_drop] at this
/-- x at place k of X, L, Y -/
def MovR (X : List α) (x : α) (L Y : List α) (k : Nat) (D : Array α) : Prop := D = (X ++ L.take (k - X.length) ++ x :: (L.drop (k - X.length) ++ Y)).toArray
theorem MovR.size {X : List α} {x : α} {L Y : List α} {k : Nat} {D : Array α} (h : MovR X x L Y k D) : D.size = X.length + L.length + 1 + Y.length := by
  unfold MovR at h
  rw [h]; simp; omega
theorem MovR.up [Inhabited α] {X : List α} {x : α} {L Y : List α} {k : Nat} {D : Array α} (h : MovR X x L Y k D) (hk : X.length ≤ k) (hl : k < X.length + L.length) : MovR X x L Y (k + 1) (swp D k (k + 1)) := by
  unfold MovR at h ⊢
  have e : L.drop (k - X.length) = L[k - X.length] :: L.drop (k - X.length + 1) := List.drop_eq_getElem_cons (by omega)
  have t : L.take (k - X.length + 1) = L.take (k - X.length) ++ [L[k - X.length]] := by rw [List.take_add_one, List.getElem?_eq_getElem (by omega)]; rfl
  rw [h, e, show k + 1 - X.length = k - X.length + 1 by omega, t]
  have e1 : X ++ L.take (k - X.length) ++ x :: (L[k - X.length] :: L.drop (k - X.length + 1) ++ Y) = (X ++ L.take (k - X.length)) ++ x :: ([] ++ L[k - X.length] :: (L.drop (k - X.length + 1) ++ Y)) := by simp only [List.append_assoc, List.cons_append, List.nil_append]
  rw [e1, swp_list _ _ _ _ _ _ _ (by simp; omega) (by simp; omega)]
  simp only [List.append_assoc, List.cons_append, List.nil_append]
theorem MovR.down [Inhabited α] {X : List α} {x : α} {L Y : List α} {k : Nat} {D : Array α} (h : MovR X x L Y (k + 1) D) (hk : X.length ≤ k) (hl : k < X.length + L.length) : MovR X x L Y k (swp D (k + 1) k) := by
  have hs := h.size
  unfold MovR at h ⊢
  have e : L.drop (k - X.length) = L[k - X.length] :: L.drop (k - X.length + 1) := List.drop_eq_getElem_cons (by omega)
  have t : L.take (k - X.length + 1) = L.take (k - X.length) ++ [L[k - X.length]] := by rw [List.take_add_one, List.getElem?_eq_getElem (by omega)]; rfl
  rw [swp_comm _ _ _ (by omega) (by omega), h, e, show k + 1 - X.length = k - X.length + 1 by omega, t]
  have e1 : X ++ (L.take (k - X.length) ++ [L[k - X.length]]) ++ x :: (L.drop (k - X.length + 1) ++ Y) = (X ++ L.take (k - X.length)) ++ L[k - X.length] :: ([] ++ x :: (L.drop (k - X.length + 1) ++ Y)) := by simp only [List.append_assoc, List.cons_append, List.nil_append]
  rw [e1, swp_list _ _ _ _ _ _ _ (by simp; omega) (by simp; omega)]
  simp only [List.append_assoc, List.cons_append, List.nil_append]
theorem get_mid [Inhabited α] (X L Y : List α) (i : Nat) (h : X.length ≤ i) (hl : i - X.length < L.length) : (X ++ L ++ Y).toArray[i]! = L[i - X.length] := by
  rw [getElem!_pos _ _ (by simp; omega)]
  simp only [List.getElem_toArray]
  rw [List.getElem_append_left (by simp; omega), List.getElem_append_right (by omega)]
/-- two sorted lists, cut at s and at e -/
theorem sym_cut [Inhabited α] (hW : Weak lt) (X A B Y : List α) (D : Array α) (a m b s e : Nat) (hD : (X ++ A ++ B ++ Y).toArray = D) (hX : X.length = a) (hm : a + A.length = m) (hb : m + B.length = b) (hA : Up lt A) (hB : Up lt B) (has : a ≤ s) (hsm : s ≤ m) (hme : m ≤ e) (heb : e ≤ b)
    (h1 : s = a ∨ e = b ∨ lt D[e]! D[s - 1]! = false) (h2 : s = m ∨ e = m ∨ lt D[e - 1]! D[s]! = true) :
    mergeS lt A B = mergeS lt (A.take (s - a)) (B.take (e - m)) ++ mergeS lt (A.drop (s - a)) (B.drop (e - m)) := by
  have gA : ∀ i, a ≤ i → (hi : i - a < A.length) → D[i]! = A[i - a]'hi := fun i h hi => by
    subst hX; rw [← hD, show X ++ A ++ B ++ Y = X ++ A ++ (B ++ Y) by simp]; exact get_mid X A (B ++ Y) i h hi
  have gB : ∀ i, m ≤ i → (hi : i - m < B.length) → D[i]! = B[i - m]'hi := fun i h hi => by
    have hl : (X ++ A).length = m := by simp; omega
    rw [← hD]
    have := get_mid (X ++ A) B Y i (by omega) (by omega)
    rw [this]
    simp only [hl]
  have key := up_cut hW (A.take (s - a)) (A.drop (s - a)) (B.take (e - m)) (B.drop (e - m)) (by rw [List.take_append_drop]; exact hA) (by rw [List.take_append_drop]; exact hB) ?_ ?_
  · rwa [List.take_append_drop, List.take_append_drop] at key
  · intro x hx y hy
    by_cases c1 : s = m
    · rw [List.drop_eq_nil_of_le (by omega)] at hx; simp at hx
    · by_cases c2 : e = m
      · rw [c2, Nat.sub_self, List.take_zero] at hy; simp at hy
      · have k := (h2.resolve_left c1).resolve_left c2
        rw [gA s has (by omega), gB (e - 1) (by omega) (by omega)] at k
        rw [List.drop_eq_getElem_cons (show s - a < A.length by omega)] at hx
        simp only [List.head?_cons, Option.mem_def, Option.some.injEq] at hx
        rw [List.getLast?_eq_getElem?, List.length_take, Nat.min_eq_left (by omega), List.getElem?_take, if_pos (by omega), List.getElem?_eq_getElem (show e - m - 1 < B.length by omega)] at hy
        simp only [Option.mem_def, Option.some.injEq] at hy
        rw [← hx, ← hy]
        simp only [show e - m - 1 = e - 1 - m by omega]
        exact k
  · intro x hx y hy
    by_cases c1 : s = a
    · rw [c1, Nat.sub_self, List.take_zero] at hx; simp at hx
    · by_cases c2 : e = b
      · rw [List.drop_eq_nil_of_le (by omega)] at hy; simp at hy
      · have k := (h1.resolve_left c1).resolve_left c2
        rw [gB e hme (by omega), gA (s - 1) (by omega) (by omega)] at k
        rw [List.drop_eq_getElem_cons (show e - m < B.length by omega)] at hy
        simp only [List.head?_cons, Option.mem_def, Option.some.injEq] at hy
        rw [List.getLast?_eq_getElem?, List.length_take, Nat.min_eq_left (by omega), List.getElem?_take, if_pos (by omega), List.getElem?_eq_getElem (show s - a - 1 < A.length by omega)] at hx
        simp only [Option.mem_def, Option.some.injEq] at hx
        rw [← hx, ← hy]
        simp only [show s - a - 1 = s - 1 - a by omega]
        exact k
end Go.Proofs.YtbgaglcgennhiaaGreatDoor.Sy
end
section
/- what is reached of it -/
namespace Go.Proofs.YtbgaglcgennhiaaGreatDoor.Sy
open Go Go.Proofs Go.Proofs.YtbgaglcgennhiaaGreatDoor Go.RowKit Go.Lib Go.Sort
variable {α : Type} {lt : α → α → Bool}
def ch (lt : α → α → Bool) (w : Nat) : Nat → List α → List α
  | 0, L => sortS lt L
  | k + 1, L => sortS lt (L.take w) ++ ch lt w k (L.drop w)
theorem ch_len (w : Nat) : ∀ (k : Nat) (L : List α), (ch lt w k L).length = L.length
  | 0, L => sortS_len L
  | k + 1, L => by rw [ch, List.length_append, sortS_len, ch_len w k, List.length_take, List.length_drop]; omega
theorem sortS_nil : sortS lt ([] : List α) = [] := rfl
/-- some blocks are sorted, L' is not: of the first i -/
structure Ahead (lt : α → α → Bool) (w : Nat) (L X R : List α) (j : Nat) : Prop where
  len : X.length = j * w
  sum : X.length + R.length = L.length
  fin : ∀ t, X ++ ch lt w t R = ch lt w (j + t) L
theorem Ahead.start (w : Nat) (L : List α) : Ahead lt w L [] L 0 := ⟨by simp, by simp, fun t => by rw [Nat.zero_add, List.nil_append]⟩
theorem Ahead.step {w : Nat} {L X R : List α} {j : Nat} (h : Ahead lt w L X R j) (hR : w ≤ R.length) : Ahead lt w L (X ++ sortS lt (R.take w)) (R.drop w) (j + 1) :=
  ⟨by rw [List.length_append, sortS_len, List.length_take, h.len, Nat.add_mul, Nat.min_eq_left hR]; omega, by rw [List.length_append, sortS_len, List.length_take, List.length_drop]; have := h.sum; omega,
    fun t => by rw [List.append_assoc, show j + 1 + t = j + (t + 1) by omega, ← h.fin (t + 1)]; rfl⟩
/-- all of it, sorted by blocks of w -/
def Blk (lt : α → α → Bool) (w : Nat) (L : List α) (T : List α) : Prop := ∃ k, k * w ≤ L.length ∧ L.length < (k + 1) * w ∧ T = ch lt w k L
theorem Blk.last {w : Nat} {L T : List α} (h : Blk lt w L T) (hw : L.length ≤ w) : T = sortS lt L := by
  obtain ⟨k, h1, h2, rfl⟩ := h
  match k, h1, h2 with
  | 0, _, _ => rfl
  | 1, h1, _ =>
    rw [Nat.one_mul] at h1
    have e : L.length = w := by omega
    simp only [ch]
    rw [List.take_of_length_le (by omega), List.drop_eq_nil_of_le (by omega), sortS_nil, List.append_nil]
  | k + 2, h1, h2 =>
    exfalso
    have : (k + 2) * w = k * w + 2 * w := by rw [Nat.add_mul]
    have h3 : (k + 2 + 1) * w = k * w + 3 * w := by rw [Nat.add_assoc, Nat.add_mul]
    omega
/-- on the way to blocks of 2 w: so far X; behind it R, by blocks of w -/
structure Twice (lt : α → α → Bool) (w : Nat) (L X R U : List α) (j : Nat) : Prop where
  ah : Ahead lt (2 * w) L X R j
  blk : Blk lt w R U
theorem Twice.start {w : Nat} {L T : List α} (h : Blk lt w L T) : Twice lt w L [] L T 0 := ⟨Ahead.start _ _, h⟩
theorem Blk.len {w : Nat} {L T : List α} (h : Blk lt w L T) : T.length = L.length := by
  obtain ⟨k, _, _, rfl⟩ := h
  exact ch_len _ _ _
theorem Twice.step (hW : Weak lt) {w : Nat} {L X R U : List α} {j : Nat} (h : Twice lt w L X R U j) (hw : 0 < w) (hR : 2 * w ≤ R.length) :
    ∃ A C Z, U = A ++ C ++ Z ∧ A.length = w ∧ C.length = w ∧ Up lt A ∧ Up lt C ∧ Twice lt w L (X ++ mergeS lt A C) (R.drop (2 * w)) Z (j + 1) := by
  obtain ⟨k, h1, h2, rfl⟩ := h.blk
  match k, h1, h2 with
  | 0, _, h2 => exfalso; rw [Nat.zero_add, Nat.one_mul] at h2; omega
  | 1, _, h2 => exfalso; have : (1 + 1) * w = 2 * w := rfl; omega
  | k + 2, h1, h2 =>
    have e1 : (k + 2) * w = k * w + 2 * w := by rw [Nat.add_mul]
    have e2 : (k + 2 + 1) * w = (k + 1) * w + 2 * w := by rw [show k + 2 + 1 = (k + 1) + 2 by omega, Nat.add_mul]
    refine ⟨sortS lt (R.take w), sortS lt ((R.drop w).take w), ch lt w k ((R.drop w).drop w), by simp [ch], by rw [sortS_len, List.length_take]; omega, by rw [sortS_len, List.length_take, List.length_drop]; omega, sortS_up hW _, sortS_up hW _, ?_⟩
    have et : R.take w ++ (R.drop w).take w = R.take (2 * w) := by
      rw [Nat.two_mul, List.take_add]
    have ed : (R.drop w).drop w = R.drop (2 * w) := by rw [List.drop_drop, Nat.two_mul]
    rw [← sort_app hW, et, ed]
    refine ⟨h.ah.step hR, k, ?_, ?_, rfl⟩
    · rw [List.length_drop]; omega
    · rw [List.length_drop]; omega
/-- the last two, or one, or none -/
theorem Twice.two (hW : Weak lt) {w : Nat} {L X R U : List α} {j : Nat} (h : Twice lt w L X R U j) (hR : R.length < 2 * w) (hm : w < R.length) :
    ∃ A C, U = A ++ C ∧ A.length = w ∧ 0 < C.length ∧ Up lt A ∧ Up lt C ∧ Blk lt (2 * w) L (X ++ mergeS lt A C) := by
  obtain ⟨k, h1, h2, rfl⟩ := h.blk
  match k, h1, h2 with
  | 0, _, h2 => exfalso; rw [Nat.zero_add, Nat.one_mul] at h2; omega
  | 1, _, h2 =>
    refine ⟨sortS lt (R.take w), sortS lt (R.drop w), rfl, by rw [sortS_len, List.length_take]; omega, by rw [sortS_len, List.length_drop]; omega, sortS_up hW _, sortS_up hW _, ?_⟩
    rw [← sort_app hW, List.take_append_drop]
    have hl := h.ah.len
    have hs := h.ah.sum
    refine ⟨j, by omega, by rw [Nat.add_mul]; omega, ?_⟩
    have := h.ah.fin 0
    simpa [ch] using this
  | k + 2, h1, h2 =>
    exfalso
    have e1 : (k + 2) * w = k * w + 2 * w := by rw [Nat.add_mul]
    omega
theorem Twice.one {w : Nat} {L X R U : List α} {j : Nat} (h : Twice lt w L X R U j) (hw : 0 < w) (hm : R.length ≤ w) : Blk lt (2 * w) L (X ++ U) := by
  have hU : U = sortS lt R := h.blk.last hm
  rw [hU]
  have hl := h.ah.len
  have hs := h.ah.sum
  refine ⟨j, by omega, by rw [Nat.add_mul]; omega, ?_⟩
  have := h.ah.fin 0
  simpa [ch] using this
theorem Ahead.blk {w : Nat} {L X R : List α} {j : Nat} (h : Ahead lt w L X R j) (hR : R.length < w) : Blk lt w L (X ++ sortS lt R) := by
  have hl := h.len
  have hs := h.sum
  refine ⟨j, by omega, by rw [Nat.add_mul]; omega, ?_⟩
  have := h.fin 0
  simpa [ch] using this
end Go.Proofs.YtbgaglcgennhiaaGreatDoor.Sy
end
