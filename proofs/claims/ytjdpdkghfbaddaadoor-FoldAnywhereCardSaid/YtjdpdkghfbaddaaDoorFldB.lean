/-
  PLAIN LISTS OF BYTES: what is folded is unfolded as it was; how many rows there are. Nothing of any program.
-/
import Derived.Test.YtjdpdkghfbaddaaDoorFldU
namespace Go.Proofs.YtjdpdkghfbaddaaDoor.Tx
open Go.Lib

/-! ### a text's characters are texts -/
theorem piece_at {l : List UInt8} (hl : l ≠ []) (hv : valid l = true) : valid (l.take (dc l).2) = true ∧ valid (l.drop (dc l).2) = true := by
  by_cases hz : (nx l).2 = 0
  · rw [valid_none (ch_bad hl hz)] at hv; cases hv
  obtain ⟨e, h1, h2⟩ := nx_some hz
  have hle := dc_le hl
  have hge := dc_ge1 l
  have hne : l.take (dc l).2 ≠ [] := by
    intro h0
    have h3 := congrArg List.length h0
    rw [List.length_take, List.length_nil, Nat.min_eq_left hle] at h3
    omega
  obtain ⟨ht, _⟩ := rdc_take hl h1
  have hnx : nx (l.take (dc l).2) = nx l := by rw [rdc_next, ht, ← rdc_next]
  refine ⟨?_, ?_⟩
  · refine valid_some (x := [(nx l).1]) ?_
    rw [ch_good hne (by rw [hnx]; exact hz), hnx, e, List.drop_eq_nil_of_le (by rw [List.length_take]; omega), ch_nil]
    rfl
  · rw [← e]
    have hc := ch_good hl hz
    cases hx : ch (l.drop (nx l).2) with
    | some x => exact valid_some hx
    | none => rw [hx] at hc; rw [valid_none hc] at hv; cases hv
theorem chs_valid (l : List UInt8) : valid l = true → ∀ c ∈ chs l, valid c = true := by
  induction l using len_ind with
  | h l ih =>
    intro hv c hc
    by_cases hl : l = []
    · subst hl; cases hc
    · obtain ⟨h1, h2⟩ := piece_at hl hv
      rw [chs_step hl, List.mem_cons] at hc
      rcases hc with rfl | hc
      · exact h1
      · exact ih _ (drop_less hl) h2 c hc
theorem chs_clean {l : List UInt8} (h : clean l) : ∀ c ∈ chs l, clean c := fun c hc x hx => by
  refine h x ?_
  rw [← chs_flat l]
  exact List.mem_flatten.2 ⟨c, hc, hx⟩
/-! ### rows -/
theorem frows_good : ∀ (cs : List (List UInt8)) (room : Nat) (cur : List UInt8), (∀ c ∈ cs, clean c ∧ valid c = true ∧ c.length ≤ 4) → clean cur → valid cur = true → cur.length + room = 75 →
    ∀ r ∈ frows room cur cs, clean r ∧ valid r = true ∧ r.length ≤ 75
  | [], room, cur, _, h1, h2, h3, r, hr => by
    obtain rfl : r = cur := by simpa [frows] using hr
    exact ⟨h1, h2, by omega⟩
  | c :: t, room, cur, hc, h1, h2, h3, r, hr => by
    obtain ⟨c1, c2, c3⟩ := hc c (by simp)
    unfold frows at hr
    by_cases h : room < c.length
    · rw [if_pos h] at hr
      rcases List.mem_cons.1 hr with rfl | hr
      · exact ⟨h1, h2, by omega⟩
      · refine frows_good t _ _ (fun d hd => hc d (by simp [hd])) ?_ ?_ ?_ r hr
        · intro x hx
          rcases List.mem_cons.1 hx with rfl | hx
          · decide
          · exact c1 x hx
        · exact (valid_append (a := [32]) (by decide +kernel) c2).1
        · simp; omega
    · rw [if_neg h] at hr
      refine frows_good t _ _ (fun d hd => hc d (by simp [hd])) ?_ (valid_append h2 c2).1 (by rw [List.length_append]; omega) r hr
      intro x hx
      rcases List.mem_append.1 hx with hx | hx
      · exact h1 x hx
      · exact c1 x hx
theorem rowsOf_good {l : List UInt8} (hc : clean l) (hv : valid l = true) : ∀ r ∈ rowsOf l, clean r ∧ valid r = true ∧ r.length ≤ 75 :=
  frows_good (chs l) 75 [] (fun c h => ⟨chs_clean hc c h, chs_valid l hv c h, (chs_size l c h).2⟩) (fun c h => by cases h) (valid_some ch_nil) rfl
theorem frows_shape : ∀ (cs : List (List UInt8)) (room : Nat) (cur : List UInt8), ∃ r0 rs, frows room cur cs = (cur ++ r0) :: rs ∧ (∀ r ∈ rs, ∃ u, r = 32 :: u) ∧ r0 ++ rs.flatMap List.tail = cs.flatten
  | [], _, cur => ⟨[], [], by simp [frows], fun r h => (by cases h), rfl⟩
  | c :: t, room, cur => by
    unfold frows
    by_cases h : room < c.length
    · rw [if_pos h]
      obtain ⟨r0, rs, h1, h2, h3⟩ := frows_shape t (74 - c.length) (32 :: c)
      refine ⟨[], (32 :: c ++ r0) :: rs, by rw [h1]; simp, fun r hr => ?_, ?_⟩
      · rcases List.mem_cons.1 hr with rfl | hr
        · exact ⟨c ++ r0, rfl⟩
        · exact h2 r hr
      · rw [List.flatten_cons, ← h3]
        simp
    · rw [if_neg h]
      obtain ⟨r0, rs, h1, h2, h3⟩ := frows_shape t (room - c.length) (cur ++ c)
      refine ⟨c ++ r0, rs, by rw [h1]; simp, h2, ?_⟩
      rw [List.flatten_cons, ← h3]
      simp
theorem linesA_goes : ∀ (rs rest acc : List (List UInt8)) (x : List UInt8), (∀ r ∈ rs, ∃ u, r = 32 :: u) → linesA (acc ++ [x]) (rs ++ rest) = linesA (acc ++ [x ++ rs.flatMap List.tail]) rest
  | [], rest, acc, x, _ => by simp
  | r :: rs, rest, acc, x, h => by
    obtain ⟨u, rfl⟩ := h r (by simp)
    rw [List.cons_append, linesA_more _ rfl (by simp), addLast_snoc, linesA_goes rs rest acc _ (fun r hr => h r (by simp [hr]))]
    simp
theorem linesA_line (l : List UInt8) (rest acc : List (List UInt8)) (h : cont l = false) : linesA acc (rowsOf l ++ rest) = linesA (acc ++ [l]) rest := by
  obtain ⟨r0, rs, h1, h2, h3⟩ := frows_shape (chs l) 75 []
  rw [chs_flat] at h3
  unfold rowsOf
  rw [h1, List.nil_append, List.cons_append]
  have hc : cont r0 = false := by
    cases r0 with
    | nil => rfl
    | cons a t =>
      rw [← h3] at h
      exact h
  rw [linesA_new acc _ hc, linesA_goes rs rest acc r0 h2, h3]
theorem linesA_all : ∀ (m acc : List (List UInt8)), (∀ l ∈ m, cont l = false) → linesA acc (m.flatMap rowsOf) = some (acc ++ m)
  | [], acc, _ => by simp [linesA_nil]
  | l :: m, acc, h => by
    rw [List.flatMap_cons, linesA_line l _ acc (h l (by simp)), linesA_all m _ (fun x hx => h x (by simp [hx]))]
    simp
theorem ends_valid : ∀ rs : List (List UInt8), (∀ r ∈ rs, valid r = true) → valid (ends rs) = true
  | [], _ => valid_some ch_nil
  | r :: t, h => by
    rw [ends_cons]
    exact (valid_append (h r (by simp)) (valid_append (a := [13, 10]) (by decide +kernel) (ends_valid t (fun x hx => h x (by simp [hx])))).1).1
/-- lines that may be folded, and come back -/
def Fine (l : List UInt8) : Prop := clean l ∧ valid l = true ∧ cont l = false
theorem rows_fine {m : List (List UInt8)} (h : ∀ l ∈ m, Fine l) : ∀ r ∈ m.flatMap rowsOf, clean r ∧ valid r = true ∧ r.length ≤ 75 := fun r hr => by
  obtain ⟨l, hl, hr⟩ := List.mem_flatMap.1 hr
  obtain ⟨h1, h2, _⟩ := h l hl
  exact rowsOf_good h1 h2 r hr
theorem fold_unfold {m : List (List UInt8)} (h : ∀ l ∈ m, Fine l) : Tx.unfold (foldL m) = some m ∧ valid (foldL m) = true := by
  have hr := rows_fine h
  rw [foldL_ends]
  refine ⟨?_, ends_valid _ (fun r hx => (hr r hx).2.1)⟩
  unfold Tx.unfold
  rw [rowsA_ends _ (fun r hx => (hr r hx).1)]
  show linesA [] _ = _
  rw [linesA_all m [] (fun l hl => (h l hl).2.2)]
  rfl

/-! ### how many rows a line of signs of one byte has -/
def nr : Nat → Nat → Nat
  | _, 0 => 1
  | room, k + 1 => if room < 1 then 1 + nr 73 k else nr (room - 1) k
theorem nr_eq : ∀ (k room : Nat), nr room k = if k ≤ room then 1 else 1 + (k - room + 73) / 74
  | 0, room => by simp [nr]
  | k + 1, room => by
    unfold nr
    by_cases h : room < 1
    · rw [if_pos h, nr_eq k 73]
      obtain rfl : room = 0 := by omega
      rw [if_neg (by omega : ¬ k + 1 ≤ 0)]
      by_cases h2 : k ≤ 73
      · rw [if_pos h2]; omega
      · rw [if_neg h2]; omega
    · rw [if_neg h, nr_eq k (room - 1)]
      by_cases h2 : k + 1 ≤ room
      · rw [if_pos h2, if_pos (by omega)]
      · rw [if_neg h2, if_neg (by omega)]
        omega
theorem fr_signs (c : UInt8) (hc : c ≠ 10) : ∀ (k room : Nat), (fr room (List.replicate k [c])).length + 1 = k + 3 * nr room k ∧ (fr room (List.replicate k [c])).count 10 = nr room k
  | 0, room => ⟨rfl, rfl⟩
  | k + 1, room => by
    rw [List.replicate_succ]
    unfold nr
    by_cases h : room < 1
    · rw [if_pos h, fr_cut _ (show room < [c].length from h)]
      obtain ⟨h1, h2⟩ := fr_signs c hc k 73
      have e : 74 - [c].length = 73 := rfl
      rw [e]
      refine ⟨by simp only [List.length_append, List.length_cons, List.length_nil]; omega, ?_⟩
      rw [List.count_append, List.count_append, h2]
      have : List.count 10 [c] = 0 := by simp [hc]
      rw [this]
      rfl
    · rw [if_neg h, fr_on _ (show ¬ room < [c].length from h)]
      obtain ⟨h1, h2⟩ := fr_signs c hc k (room - 1)
      have e : room - [c].length = room - 1 := rfl
      rw [e]
      refine ⟨by simp only [List.length_append, List.length_cons, List.length_nil]; omega, ?_⟩
      rw [List.count_append, h2]
      have : List.count 10 [c] = 0 := by simp [hc]
      rw [this]
      omega
theorem chs_signs (c : UInt8) (hc : c.toNat < 128) : ∀ k : Nat, chs (List.replicate k c) = List.replicate k [c]
  | 0 => rfl
  | k + 1 => by
    have hd : dc (List.replicate (k + 1) c) = (c.toNat, 1) := by
      have hb : bt (List.replicate (k + 1) c) 0 = c.toNat := by rw [bt_def, List.replicate_succ]; rfl
      have := rdc_A (l := List.replicate (k + 1) c) (by rw [hb]; exact hc)
      rw [hb] at this
      unfold rdc at this
      split at this
      · have h2 := congrArg Prod.snd this
        simp at h2
      · exact this
    rw [chs_step (by rw [List.replicate_succ]; simp), hd, List.replicate_succ]
    show [c] :: chs (List.replicate k c) = _
    rw [chs_signs c hc k, List.replicate_succ]
end Go.Proofs.YtjdpdkghfbaddaaDoor.Tx
