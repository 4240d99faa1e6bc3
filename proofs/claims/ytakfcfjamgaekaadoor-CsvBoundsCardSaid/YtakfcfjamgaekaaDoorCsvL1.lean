/-
  THE LAWS OF PACKAGE csv (stage 4): CsvBounds.
-/
import Derived.Test.YtakfcfjamgaekaaDoorCsvA
import Derived.Test.YtakfcfjamgaekaaDoorUint
namespace Go.Proofs.YtakfcfjamgaekaaDoor
open Go.RowKit Tx

theorem addr_zero (a : Addr) : a.add 0 = a := by
  obtain ⟨b, o, c⟩ := a
  unfold Addr.add
  split <;> simp_all
/-- so many rows of one field -/
def rowsT (n : Nat) : List UInt8 := (List.replicate n [(97 : UInt8), 13, 10]).flatten
theorem rowsT_zero : rowsT 0 = [] := rfl
theorem rowsT_succ (n : Nat) : rowsT (n + 1) = 97 :: 13 :: 10 :: rowsT n := by
  unfold rowsT
  rw [List.replicate_succ, List.flatten_cons]
  rfl
theorem rowsT_snoc (n : Nat) : rowsT (n + 1) = rowsT n ++ [97, 13, 10] := by
  unfold rowsT
  rw [List.replicate_succ', List.flatten_append, List.flatten_singleton]
theorem rowsT_len (n : Nat) : (rowsT n).length = 3 * n := by
  induction n with
  | zero => rfl
  | succ n ih => rw [rowsT_succ]; simp only [List.length_cons]; omega
theorem rowsT_valid (n : Nat) : valid (rowsT n) = true := by
  induction n with
  | zero => exact valid_some ch_nil
  | succ n ih => rw [rowsT_succ]; exact (valid_append (a := [97, 13, 10]) (by decide +kernel) ih).1
theorem form_a : Forms [[97]] [[97]] := ⟨form_bare (by decide), trivial⟩
theorem rowsT_rows : ∀ n k : Nat, rowsL n (rowsT k) = if k ≤ n then .ok (List.replicate k [[97]]) else .error 4
  | n, 0 => by rw [rowsT_zero, rowsL_nil, if_pos (Nat.zero_le n)]; rfl
  | 0, k + 1 => by rw [if_neg (by omega), rowsT_succ, rowsL_full (by simp)]; rfl
  | n + 1, k + 1 => by
    have h := rows_step (n := n) (u := rowsT k) form_a (by simp) (by decide)
    rw [rowsT_succ]
    show rowsL (n + 1) (Lib.join [[97]] [44] ++ 13 :: 10 :: rowsT k) = _
    rw [h, rowsT_rows n k]
    by_cases hk : k ≤ n
    · rw [if_pos hk, if_pos (by omega)]
      rfl
    · rw [if_neg hk, if_neg (by omega)]
      rfl
theorem rowsT_read (k : Nat) (hk : k ≤ 1000) : readL (rowsT k) = if k ≤ 200 then .ok (List.replicate k [[97]]) else .error 4 := by
  rw [readL_text (by rw [rowsT_len]; omega) (rowsT_valid k), rowsT_rows]
/-- one row of k + 1 fields -/
def fieldsT (k : Nat) : List UInt8 := 97 :: (List.replicate k [(44 : UInt8), 97]).flatten
theorem fieldsT_snoc (k : Nat) : fieldsT (k + 1) = fieldsT k ++ [44, 97] := by
  unfold fieldsT
  rw [List.replicate_succ', List.flatten_append, List.flatten_singleton]
  rfl
theorem fieldsT_len (k : Nat) : (fieldsT k).length = 2 * k + 1 := by
  induction k with
  | zero => rfl
  | succ k ih => rw [fieldsT_snoc, List.length_append, ih]; simp; omega
theorem fieldsT_valid (k : Nat) : valid (fieldsT k) = true := by
  induction k with
  | zero => decide +kernel
  | succ k ih => rw [fieldsT_snoc]; exact (valid_append ih (by decide +kernel)).1
theorem fieldsT_join (k : Nat) : fieldsT k = Lib.join (List.replicate (k + 1) [97]) [44] := by
  rw [List.replicate_succ, Lib.join_cons]
  unfold fieldsT Lib.joinTail
  rw [List.map_replicate]
  rfl
theorem forms_as : ∀ k : Nat, Forms (List.replicate k [97]) (List.replicate k [97])
  | 0 => trivial
  | k + 1 => ⟨form_bare (by decide), forms_as k⟩
theorem row_over : ∀ (xs fs : List (List UInt8)) (n : Nat) (r : List UInt8), Forms xs fs → n < xs.length → row n (Lib.join fs [44] ++ r) = .error 4
  | _, _, 0, _, _, _ => rfl
  | [], _, n + 1, _, _, h => by simp at h
  | _ :: _, [], n + 1, _, h, _ => h.elim
  | [_], _ :: _, n + 1, _, _, h => by simp at h
  | _ :: _ :: _, [_], n + 1, _, h, _ => h.2.elim
  | x :: y :: xs, f :: g :: fs, n + 1, r, h, hn => by
    rw [join2, List.append_assoc, List.cons_append]
    have hs : Stop (44 :: (Lib.join (g :: fs) [44] ++ r)) := .inr (.inl ⟨_, rfl⟩)
    rw [row_some (field_form h.1 hs), if_neg (by simp), if_neg (by simp), if_pos (show List.take 1 (44 :: (Lib.join (g :: fs) [44] ++ r)) = [44] from rfl)]
    show onto x (row n (Lib.join (g :: fs) [44] ++ r)) = _
    rw [row_over (y :: xs) (g :: fs) n r h.2 (by simp at hn ⊢; omega)]
    rfl
theorem fieldsT_read (k : Nat) (hk : k ≤ 1000) : readL (fieldsT k) = if k + 1 ≤ 30 then .ok [List.replicate (k + 1) [97]] else .error 4 := by
  rw [readL_text (by rw [fieldsT_len]; omega) (fieldsT_valid k)]
  have hne : Lib.join (List.replicate (k + 1) [(97 : UInt8)]) [44] ≠ [] := by rw [← fieldsT_join]; unfold fieldsT; simp
  rw [fieldsT_join]
  by_cases h : k + 1 ≤ 30
  · rw [if_pos h]
    exact rows_last (n := 199) (forms_as _) (by simp) (by simpa using h) hne
  · rw [if_neg h]
    have := row_over _ _ 30 [] (forms_as (k + 1)) (by simp; omega)
    rw [List.append_nil] at this
    exact rowsL_bad (n := 199) hne this
/-- texts with quotes, and row's ends, where they may not be -/
def badC : List ByteArray := [⟨#[34]⟩, ⟨#[34, 97]⟩, ⟨#[97, 34]⟩, ⟨#[97, 34, 98]⟩, ⟨#[34, 97, 34, 98]⟩, ⟨#[97, 10]⟩, ⟨#[97, 13, 98]⟩, ⟨#[34, 97, 34, 10]⟩, ⟨#[97, 44, 34, 13, 10]⟩]
theorem badC_read : ∀ s ∈ badC, readL s.data.toList = .error 19 ∧ s.size ≤ 5 := by
  intro s hs
  simp only [badC, List.mem_cons, List.not_mem_nil, or_false] at hs
  rcases hs with rfl | rfl | rfl | rfl | rfl | rfl | rfl | rfl | rfl
  all_goals exact ⟨by kernel_rfl, by decide⟩
def badCells : Array Value := #[.string ⟨#[34]⟩, .string ⟨#[34, 97]⟩, .string ⟨#[97, 34]⟩, .string ⟨#[97, 34, 98]⟩, .string ⟨#[34, 97, 34, 98]⟩, .string ⟨#[97, 10]⟩, .string ⟨#[97, 13, 98]⟩, .string ⟨#[34, 97, 34, 10]⟩, .string ⟨#[97, 44, 34, 13, 10]⟩]
theorem badC_at (W : World) (k : Nat) (b : ByteArray) (h : badC[k]? = some b) : (W.alloc (.cells badCells 9)).cell? ⟨W.heap.size, k, none⟩ = some (.string b) := by
  rw [cell_of_row _ _ k _ 9 (0, 0) (heap_alloc_new W _)]
  match k, h with
  | 0, hb => cases hb; rfl
  | 1, hb => cases hb; rfl
  | 2, hb => cases hb; rfl
  | 3, hb => cases hb; rfl
  | 4, hb => cases hb; rfl
  | 5, hb => cases hb; rfl
  | 6, hb => cases hb; rfl
  | 7, hb => cases hb; rfl
  | 8, hb => cases hb; rfl
  | k + 9, hb => simp [badC] at hb

set_option maxHeartbeats 4000000 in
set_option maxRecDepth 100000 in
theorem boundsYY (rows fields what : Int) (R F p : Nat) (w : World) (hO : Okw w) (hR : R ≤ 200) (hF : F ≤ 30) (_hR2 : R ≤ 202) (hF2 : F ≤ 32) (hF1 : 28 ≤ F) (q1 q2 : Nat) (hq1 : wrap64 ((IntKind.u64.wrap rows).tmod 5) = (q1 : Int)) (hq2 : wrap64 ((IntKind.u64.wrap fields).tmod 5) = (q2 : Int)) (hp : wrap64 ((IntKind.u64.wrap what).tmod 9) = (p : Int)) (hp2 : p < 9)
    (hRq : (198 : Int) + (q1 : Int) = (R : Int)) (hFq : (28 : Int) + (q2 : Int) = (F : Int)) :
    Calls Tryd.prog 4 #[.int .i64 rows, .int .i64 fields, .int .i64 what] w (Holds w) := by
  have HA := Lib.hid (fun (W : World) h => awake_any W h)
  have HOK := Lib.hid (fun (W : World) (h : Below w.heap.size w W) => hO.below h)
  have HO := Lib.hid hO
  obtain ⟨L, hL⟩ : ∃ L, badC[p]? = some L := ⟨_, List.getElem?_eq_getElem (by show p < 9; omega)⟩
  obtain ⟨l1, l2⟩ := badC_read L (List.mem_of_getElem? hL)
  have HC := Lib.hid (fun (W : World) => badC_at W p L hL)
  have HRb := Lib.hid (fun (W : World) h => read_err L 19 W h (by omega) l1)
  have hr1 := rowsT_read R (by omega)
  have hr2 := fieldsT_read (F - 1) (by omega)
  rw [if_pos (by omega)] at hr1
  rw [if_pos (by omega)] at hr2
  rw [show F - 1 + 1 = F by omega] at hr2
  have HR1 := Lib.hid hr1
  have HR2 := Lib.hid hr2
  have HRO := Lib.hid (fun (s : ByteArray) m (W : World) h1 h2 h3 => read_ok s m W h1 h2 h3)
  have HRE := Lib.hid (fun (s : ByteArray) k (W : World) h1 h2 h3 => read_err s k W h1 h2 h3)
  clear hO hL l1 hr1 hr2
  go_enter Tryd.func4, Tryd.ntmps4
  go_wp2_with fail
  go_loop [7, 9] (fun sv iv => ∃ (i : Nat) (t : ByteArray), i ≤ R ∧ sv = .string t ∧ iv = .int .i64 i ∧ Hid (t.data.toList = rowsT i) ∧ t.size = 3 * i) (fun _ iv => R - (intOf iv).toNat)
  case atStart => exact ⟨0, ⟨#[]⟩, Nat.zero_le _, rfl, rfl, rfl, rfl⟩
  case round =>
    obtain ⟨i, t, hi, rfl, rfl, ht, hts⟩ := hrel
    by_cases hlt : i < R
    · go_wp2_with fail
      go_round
      case rel => exact ⟨i + 1, _, by omega, rfl, by go_num, by unfold Hid; rw [cat_list, ht.out, rowsT_snoc], by rw [ByteArray.size_append, hts, show (⟨#[97, 13, 10]⟩ : ByteArray).size = 3 from rfl]; omega⟩
      case measure => simp [intOf]; omega
    · obtain rfl : R = i := by omega
      have HR1t := HR1.out
      rw [← ht.out] at HR1t
      have HRt := Lib.hid HR1t
      clear HR1t ht
      go_wp2_with fail
      go_loop [8, 10] (fun tv iv => ∃ (j : Nat) (u : ByteArray), j + 1 ≤ F ∧ tv = .string u ∧ iv = .int .i64 ((j : Int) + 1) ∧ Hid (u.data.toList = fieldsT j) ∧ u.size = 2 * j + 1) (fun _ iv => F - (intOf iv).toNat)
      case atStart => exact ⟨0, ⟨#[97]⟩, by omega, rfl, rfl, rfl, rfl⟩
      case round =>
        obtain ⟨j, u, hj, rfl, rfl, hu, hus⟩ := hrel
        by_cases hlt2 : j + 1 < F
        · go_wp2_with fail
          go_round
          case rel => exact ⟨j + 1, _, by omega, rfl, by go_num, by unfold Hid; rw [cat_list, hu.out, fieldsT_snoc], by rw [ByteArray.size_append, hus, show (⟨#[44, 97]⟩ : ByteArray).size = 2 from rfl]; omega⟩
          case measure => simp [intOf]; omega
        · obtain rfl : F = j + 1 := by omega
          have HR2t := HR2.out
          rw [Nat.add_sub_cancel, ← hu.out] at HR2t
          have HFt := Lib.hid HR2t
          clear HR2t hu
          go_wp2_with fail
          refine (HRO.out t _ w HO.out (by omega) HRt.out).mono ?_
          rintro e w1 ⟨⟨v1, rfl, hv1⟩, b1⟩
          obtain ⟨A1, cap1, hv1e, -⟩ := hv1
          rw [List.length_map, List.length_replicate] at hv1e
          subst hv1e
          go_wp2_with fail
          refine (HRO.out u _ w1 (HOK.out w1 b1) (by omega) HFt.out).mono ?_
          rintro e w2 ⟨⟨v2, rfl, hv2⟩, b2⟩
          obtain ⟨A2, cap2, hv2e, hv2c⟩ := hv2
          obtain ⟨ad, rfl, hlb, hc2⟩ := hv2c (by simp)
          obtain ⟨uv, hc3, ⟨A3, cap3, huv, -⟩⟩ := hc2 0 _ rfl
          rw [sts_len, List.length_replicate] at huv
          subst huv
          rw [show ([List.replicate (j + 1) [(97 : UInt8)]].map sts).length = 1 from rfl] at hv2e
          subst hv2e
          have c2 : Below w.heap.size w w2 := b1.trans (b2.mono b1.size)
          have d0 := HC.out w2
          unfold badCells at d0
          go_wp2_with fail
          have b3 : Below w2.heap.size w2 (w2.alloc (.cells badCells 9)) := (Below.refl _ _).alloc (Nat.le_refl _) _
          have c3 : Below w.heap.size w (w2.alloc (.cells badCells 9)) := c2.trans (b3.mono c2.size)
          refine (HRb.out _ (HOK.out _ c3)).mono ?_
          rintro e w3 ⟨rfl, b4⟩
          have c4 : Below w.heap.size w w3 := c3.trans (b4.mono c3.size)
          go_wp2_with fail
          refine (HA.out _ (HOK.out _ c4)).mono ?_
          rintro e w4 ⟨rfl, b5⟩
          have c5 : Below w.heap.size w w4 := c4.trans (b5.mono c4.size)
          have b6 : Below w2.heap.size w2 w4 := (b3.trans (b4.mono b3.size)).trans (b5.mono (Nat.le_trans b3.size b4.size))
          have hc4 : w4.cell? ad = some (.slice A3 (j + 1) cap3) := (b6.cell hlb).trans (by rw [← addr_zero ad]; exact hc3)
          go_wp2_with fail
          go_ret
          exact ⟨rfl, c5⟩

set_option maxHeartbeats 4000000 in
set_option maxRecDepth 100000 in
theorem boundsYN (rows fields what : Int) (R F p : Nat) (w : World) (hO : Okw w) (hR : R ≤ 200) (hF : ¬ F ≤ 30) (_hR2 : R ≤ 202) (hF2 : F ≤ 32) (hF1 : 28 ≤ F) (q1 q2 : Nat) (hq1 : wrap64 ((IntKind.u64.wrap rows).tmod 5) = (q1 : Int)) (hq2 : wrap64 ((IntKind.u64.wrap fields).tmod 5) = (q2 : Int)) (hp : wrap64 ((IntKind.u64.wrap what).tmod 9) = (p : Int)) (hp2 : p < 9)
    (hRq : (198 : Int) + (q1 : Int) = (R : Int)) (hFq : (28 : Int) + (q2 : Int) = (F : Int)) :
    Calls Tryd.prog 4 #[.int .i64 rows, .int .i64 fields, .int .i64 what] w (Holds w) := by
  have HA := Lib.hid (fun (W : World) h => awake_any W h)
  have HOK := Lib.hid (fun (W : World) (h : Below w.heap.size w W) => hO.below h)
  have HO := Lib.hid hO
  obtain ⟨L, hL⟩ : ∃ L, badC[p]? = some L := ⟨_, List.getElem?_eq_getElem (by show p < 9; omega)⟩
  obtain ⟨l1, l2⟩ := badC_read L (List.mem_of_getElem? hL)
  have HC := Lib.hid (fun (W : World) => badC_at W p L hL)
  have HRb := Lib.hid (fun (W : World) h => read_err L 19 W h (by omega) l1)
  have hr1 := rowsT_read R (by omega)
  have hr2 := fieldsT_read (F - 1) (by omega)
  rw [if_pos (by omega)] at hr1
  rw [if_neg (by omega)] at hr2
  have HR1 := Lib.hid hr1
  have HR2 := Lib.hid hr2
  have HRO := Lib.hid (fun (s : ByteArray) m (W : World) h1 h2 h3 => read_ok s m W h1 h2 h3)
  have HRE := Lib.hid (fun (s : ByteArray) k (W : World) h1 h2 h3 => read_err s k W h1 h2 h3)
  clear hO hL l1 hr1 hr2
  go_enter Tryd.func4, Tryd.ntmps4
  go_wp2_with fail
  go_loop [7, 9] (fun sv iv => ∃ (i : Nat) (t : ByteArray), i ≤ R ∧ sv = .string t ∧ iv = .int .i64 i ∧ Hid (t.data.toList = rowsT i) ∧ t.size = 3 * i) (fun _ iv => R - (intOf iv).toNat)
  case atStart => exact ⟨0, ⟨#[]⟩, Nat.zero_le _, rfl, rfl, rfl, rfl⟩
  case round =>
    obtain ⟨i, t, hi, rfl, rfl, ht, hts⟩ := hrel
    by_cases hlt : i < R
    · go_wp2_with fail
      go_round
      case rel => exact ⟨i + 1, _, by omega, rfl, by go_num, by unfold Hid; rw [cat_list, ht.out, rowsT_snoc], by rw [ByteArray.size_append, hts, show (⟨#[97, 13, 10]⟩ : ByteArray).size = 3 from rfl]; omega⟩
      case measure => simp [intOf]; omega
    · obtain rfl : R = i := by omega
      have HR1t := HR1.out
      rw [← ht.out] at HR1t
      have HRt := Lib.hid HR1t
      clear HR1t ht
      go_wp2_with fail
      go_loop [8, 10] (fun tv iv => ∃ (j : Nat) (u : ByteArray), j + 1 ≤ F ∧ tv = .string u ∧ iv = .int .i64 ((j : Int) + 1) ∧ Hid (u.data.toList = fieldsT j) ∧ u.size = 2 * j + 1) (fun _ iv => F - (intOf iv).toNat)
      case atStart => exact ⟨0, ⟨#[97]⟩, by omega, rfl, rfl, rfl, rfl⟩
      case round =>
        obtain ⟨j, u, hj, rfl, rfl, hu, hus⟩ := hrel
        by_cases hlt2 : j + 1 < F
        · go_wp2_with fail
          go_round
          case rel => exact ⟨j + 1, _, by omega, rfl, by go_num, by unfold Hid; rw [cat_list, hu.out, fieldsT_snoc], by rw [ByteArray.size_append, hus, show (⟨#[44, 97]⟩ : ByteArray).size = 2 from rfl]; omega⟩
          case measure => simp [intOf]; omega
        · obtain rfl : F = j + 1 := by omega
          have HR2t := HR2.out
          rw [Nat.add_sub_cancel, ← hu.out] at HR2t
          have HFt := Lib.hid HR2t
          clear HR2t hu
          go_wp2_with fail
          refine (HRO.out t _ w HO.out (by omega) HRt.out).mono ?_
          rintro e w1 ⟨⟨v1, rfl, hv1⟩, b1⟩
          obtain ⟨A1, cap1, hv1e, -⟩ := hv1
          rw [List.length_map, List.length_replicate] at hv1e
          subst hv1e
          go_wp2_with fail
          refine (HRE.out u _ w1 (HOK.out w1 b1) (by omega) HFt.out).mono ?_
          rintro e w2 ⟨rfl, b2⟩
          have c2 : Below w.heap.size w w2 := b1.trans (b2.mono b1.size)
          have d0 := HC.out w2
          unfold badCells at d0
          go_wp2_with fail
          have b3 : Below w2.heap.size w2 (w2.alloc (.cells badCells 9)) := (Below.refl _ _).alloc (Nat.le_refl _) _
          have c3 : Below w.heap.size w (w2.alloc (.cells badCells 9)) := c2.trans (b3.mono c2.size)
          refine (HRb.out _ (HOK.out _ c3)).mono ?_
          rintro e w3 ⟨rfl, b4⟩
          have c4 : Below w.heap.size w w3 := c3.trans (b4.mono c3.size)
          go_wp2_with fail
          refine (HA.out _ (HOK.out _ c4)).mono ?_
          rintro e w4 ⟨rfl, b5⟩
          have c5 : Below w.heap.size w w4 := c4.trans (b5.mono c4.size)
          go_wp2_with fail
          go_ret
          exact ⟨rfl, c5⟩

set_option maxHeartbeats 4000000 in
set_option maxRecDepth 100000 in
theorem boundsNY (rows fields what : Int) (R F p : Nat) (w : World) (hO : Okw w) (hR : ¬ R ≤ 200) (hF : F ≤ 30) (_hR2 : R ≤ 202) (hF2 : F ≤ 32) (hF1 : 28 ≤ F) (q1 q2 : Nat) (hq1 : wrap64 ((IntKind.u64.wrap rows).tmod 5) = (q1 : Int)) (hq2 : wrap64 ((IntKind.u64.wrap fields).tmod 5) = (q2 : Int)) (hp : wrap64 ((IntKind.u64.wrap what).tmod 9) = (p : Int)) (hp2 : p < 9)
    (hRq : (198 : Int) + (q1 : Int) = (R : Int)) (hFq : (28 : Int) + (q2 : Int) = (F : Int)) :
    Calls Tryd.prog 4 #[.int .i64 rows, .int .i64 fields, .int .i64 what] w (Holds w) := by
  have HA := Lib.hid (fun (W : World) h => awake_any W h)
  have HOK := Lib.hid (fun (W : World) (h : Below w.heap.size w W) => hO.below h)
  have HO := Lib.hid hO
  obtain ⟨L, hL⟩ : ∃ L, badC[p]? = some L := ⟨_, List.getElem?_eq_getElem (by show p < 9; omega)⟩
  obtain ⟨l1, l2⟩ := badC_read L (List.mem_of_getElem? hL)
  have HC := Lib.hid (fun (W : World) => badC_at W p L hL)
  have HRb := Lib.hid (fun (W : World) h => read_err L 19 W h (by omega) l1)
  have hr1 := rowsT_read R (by omega)
  have hr2 := fieldsT_read (F - 1) (by omega)
  rw [if_neg (by omega)] at hr1
  rw [if_pos (by omega)] at hr2
  rw [show F - 1 + 1 = F by omega] at hr2
  have HR1 := Lib.hid hr1
  have HR2 := Lib.hid hr2
  have HRO := Lib.hid (fun (s : ByteArray) m (W : World) h1 h2 h3 => read_ok s m W h1 h2 h3)
  have HRE := Lib.hid (fun (s : ByteArray) k (W : World) h1 h2 h3 => read_err s k W h1 h2 h3)
  clear hO hL l1 hr1 hr2
  go_enter Tryd.func4, Tryd.ntmps4
  go_wp2_with fail
  go_loop [7, 9] (fun sv iv => ∃ (i : Nat) (t : ByteArray), i ≤ R ∧ sv = .string t ∧ iv = .int .i64 i ∧ Hid (t.data.toList = rowsT i) ∧ t.size = 3 * i) (fun _ iv => R - (intOf iv).toNat)
  case atStart => exact ⟨0, ⟨#[]⟩, Nat.zero_le _, rfl, rfl, rfl, rfl⟩
  case round =>
    obtain ⟨i, t, hi, rfl, rfl, ht, hts⟩ := hrel
    by_cases hlt : i < R
    · go_wp2_with fail
      go_round
      case rel => exact ⟨i + 1, _, by omega, rfl, by go_num, by unfold Hid; rw [cat_list, ht.out, rowsT_snoc], by rw [ByteArray.size_append, hts, show (⟨#[97, 13, 10]⟩ : ByteArray).size = 3 from rfl]; omega⟩
      case measure => simp [intOf]; omega
    · obtain rfl : R = i := by omega
      have HR1t := HR1.out
      rw [← ht.out] at HR1t
      have HRt := Lib.hid HR1t
      clear HR1t ht
      go_wp2_with fail
      go_loop [8, 10] (fun tv iv => ∃ (j : Nat) (u : ByteArray), j + 1 ≤ F ∧ tv = .string u ∧ iv = .int .i64 ((j : Int) + 1) ∧ Hid (u.data.toList = fieldsT j) ∧ u.size = 2 * j + 1) (fun _ iv => F - (intOf iv).toNat)
      case atStart => exact ⟨0, ⟨#[97]⟩, by omega, rfl, rfl, rfl, rfl⟩
      case round =>
        obtain ⟨j, u, hj, rfl, rfl, hu, hus⟩ := hrel
        by_cases hlt2 : j + 1 < F
        · go_wp2_with fail
          go_round
          case rel => exact ⟨j + 1, _, by omega, rfl, by go_num, by unfold Hid; rw [cat_list, hu.out, fieldsT_snoc], by rw [ByteArray.size_append, hus, show (⟨#[44, 97]⟩ : ByteArray).size = 2 from rfl]; omega⟩
          case measure => simp [intOf]; omega
        · obtain rfl : F = j + 1 := by omega
          have HR2t := HR2.out
          rw [Nat.add_sub_cancel, ← hu.out] at HR2t
          have HFt := Lib.hid HR2t
          clear HR2t hu
          go_wp2_with fail
          refine (HRE.out t _ w HO.out (by omega) HRt.out).mono ?_
          rintro e w1 ⟨rfl, b1⟩
          go_wp2_with fail
          refine (HRO.out u _ w1 (HOK.out w1 b1) (by omega) HFt.out).mono ?_
          rintro e w2 ⟨⟨v2, rfl, hv2⟩, b2⟩
          obtain ⟨A2, cap2, hv2e, hv2c⟩ := hv2
          obtain ⟨ad, rfl, hlb, hc2⟩ := hv2c (by simp)
          obtain ⟨uv, hc3, ⟨A3, cap3, huv, -⟩⟩ := hc2 0 _ rfl
          rw [sts_len, List.length_replicate] at huv
          subst huv
          rw [show ([List.replicate (j + 1) [(97 : UInt8)]].map sts).length = 1 from rfl] at hv2e
          subst hv2e
          have c2 : Below w.heap.size w w2 := b1.trans (b2.mono b1.size)
          have d0 := HC.out w2
          unfold badCells at d0
          go_wp2_with fail
          have b3 : Below w2.heap.size w2 (w2.alloc (.cells badCells 9)) := (Below.refl _ _).alloc (Nat.le_refl _) _
          have c3 : Below w.heap.size w (w2.alloc (.cells badCells 9)) := c2.trans (b3.mono c2.size)
          refine (HRb.out _ (HOK.out _ c3)).mono ?_
          rintro e w3 ⟨rfl, b4⟩
          have c4 : Below w.heap.size w w3 := c3.trans (b4.mono c3.size)
          go_wp2_with fail
          refine (HA.out _ (HOK.out _ c4)).mono ?_
          rintro e w4 ⟨rfl, b5⟩
          have c5 : Below w.heap.size w w4 := c4.trans (b5.mono c4.size)
          have b6 : Below w2.heap.size w2 w4 := (b3.trans (b4.mono b3.size)).trans (b5.mono (Nat.le_trans b3.size b4.size))
          have hc4 : w4.cell? ad = some (.slice A3 (j + 1) cap3) := (b6.cell hlb).trans (by rw [← addr_zero ad]; exact hc3)
          go_wp2_with fail
          go_ret
          exact ⟨rfl, c5⟩

set_option maxHeartbeats 4000000 in
set_option maxRecDepth 100000 in
theorem boundsNN (rows fields what : Int) (R F p : Nat) (w : World) (hO : Okw w) (hR : ¬ R ≤ 200) (hF : ¬ F ≤ 30) (_hR2 : R ≤ 202) (hF2 : F ≤ 32) (hF1 : 28 ≤ F) (q1 q2 : Nat) (hq1 : wrap64 ((IntKind.u64.wrap rows).tmod 5) = (q1 : Int)) (hq2 : wrap64 ((IntKind.u64.wrap fields).tmod 5) = (q2 : Int)) (hp : wrap64 ((IntKind.u64.wrap what).tmod 9) = (p : Int)) (hp2 : p < 9)
    (hRq : (198 : Int) + (q1 : Int) = (R : Int)) (hFq : (28 : Int) + (q2 : Int) = (F : Int)) :
    Calls Tryd.prog 4 #[.int .i64 rows, .int .i64 fields, .int .i64 what] w (Holds w) := by
  have HA := Lib.hid (fun (W : World) h => awake_any W h)
  have HOK := Lib.hid (fun (W : World) (h : Below w.heap.size w W) => hO.below h)
  have HO := Lib.hid hO
  obtain ⟨L, hL⟩ : ∃ L, badC[p]? = some L := ⟨_, List.getElem?_eq_getElem (by show p < 9; omega)⟩
  obtain ⟨l1, l2⟩ := badC_read L (List.mem_of_getElem? hL)
  have HC := Lib.hid (fun (W : World) => badC_at W p L hL)
  have HRb := Lib.hid (fun (W : World) h => read_err L 19 W h (by omega) l1)
  have hr1 := rowsT_read R (by omega)
  have hr2 := fieldsT_read (F - 1) (by omega)
  rw [if_neg (by omega)] at hr1
  rw [if_neg (by omega)] at hr2
  have HR1 := Lib.hid hr1
  have HR2 := Lib.hid hr2
  have HRO := Lib.hid (fun (s : ByteArray) m (W : World) h1 h2 h3 => read_ok s m W h1 h2 h3)
  have HRE := Lib.hid (fun (s : ByteArray) k (W : World) h1 h2 h3 => read_err s k W h1 h2 h3)
  clear hO hL l1 hr1 hr2
  go_enter Tryd.func4, Tryd.ntmps4
  go_wp2_with fail
  go_loop [7, 9] (fun sv iv => ∃ (i : Nat) (t : ByteArray), i ≤ R ∧ sv = .string t ∧ iv = .int .i64 i ∧ Hid (t.data.toList = rowsT i) ∧ t.size = 3 * i) (fun _ iv => R - (intOf iv).toNat)
  case atStart => exact ⟨0, ⟨#[]⟩, Nat.zero_le _, rfl, rfl, rfl, rfl⟩
  case round =>
    obtain ⟨i, t, hi, rfl, rfl, ht, hts⟩ := hrel
    by_cases hlt : i < R
    · go_wp2_with fail
      go_round
      case rel => exact ⟨i + 1, _, by omega, rfl, by go_num, by unfold Hid; rw [cat_list, ht.out, rowsT_snoc], by rw [ByteArray.size_append, hts, show (⟨#[97, 13, 10]⟩ : ByteArray).size = 3 from rfl]; omega⟩
      case measure => simp [intOf]; omega
    · obtain rfl : R = i := by omega
      have HR1t := HR1.out
      rw [← ht.out] at HR1t
      have HRt := Lib.hid HR1t
      clear HR1t ht
      go_wp2_with fail
      go_loop [8, 10] (fun tv iv => ∃ (j : Nat) (u : ByteArray), j + 1 ≤ F ∧ tv = .string u ∧ iv = .int .i64 ((j : Int) + 1) ∧ Hid (u.data.toList = fieldsT j) ∧ u.size = 2 * j + 1) (fun _ iv => F - (intOf iv).toNat)
      case atStart => exact ⟨0, ⟨#[97]⟩, by omega, rfl, rfl, rfl, rfl⟩
      case round =>
        obtain ⟨j, u, hj, rfl, rfl, hu, hus⟩ := hrel
        by_cases hlt2 : j + 1 < F
        · go_wp2_with fail
          go_round
          case rel => exact ⟨j + 1, _, by omega, rfl, by go_num, by unfold Hid; rw [cat_list, hu.out, fieldsT_snoc], by rw [ByteArray.size_append, hus, show (⟨#[44, 97]⟩ : ByteArray).size = 2 from rfl]; omega⟩
          case measure => simp [intOf]; omega
        · obtain rfl : F = j + 1 := by omega
          have HR2t := HR2.out
          rw [Nat.add_sub_cancel, ← hu.out] at HR2t
          have HFt := Lib.hid HR2t
          clear HR2t hu
          go_wp2_with fail
          refine (HRE.out t _ w HO.out (by omega) HRt.out).mono ?_
          rintro e w1 ⟨rfl, b1⟩
          go_wp2_with fail
          refine (HRE.out u _ w1 (HOK.out w1 b1) (by omega) HFt.out).mono ?_
          rintro e w2 ⟨rfl, b2⟩
          have c2 : Below w.heap.size w w2 := b1.trans (b2.mono b1.size)
          have d0 := HC.out w2
          unfold badCells at d0
          go_wp2_with fail
          have b3 : Below w2.heap.size w2 (w2.alloc (.cells badCells 9)) := (Below.refl _ _).alloc (Nat.le_refl _) _
          have c3 : Below w.heap.size w (w2.alloc (.cells badCells 9)) := c2.trans (b3.mono c2.size)
          refine (HRb.out _ (HOK.out _ c3)).mono ?_
          rintro e w3 ⟨rfl, b4⟩
          have c4 : Below w.heap.size w w3 := c3.trans (b4.mono c3.size)
          go_wp2_with fail
          refine (HA.out _ (HOK.out _ c4)).mono ?_
          rintro e w4 ⟨rfl, b5⟩
          have c5 : Below w.heap.size w w4 := c4.trans (b5.mono c4.size)
          go_wp2_with fail
          go_ret
          exact ⟨rfl, c5⟩

set_option maxRecDepth 100000 in
theorem csvBounds_any (rows fields what : Int) (w : World) (hO : Okw w) : Calls Tryd.prog 4 #[.int .i64 rows, .int .i64 fields, .int .i64 what] w (Holds w) := by
  obtain ⟨q1, hq1, h1⟩ := uintMod rows 5 (by omega) (by omega)
  obtain ⟨q2, hq2, h2⟩ := uintMod fields 5 (by omega) (by omega)
  obtain ⟨p, hp, h3⟩ := uintMod what 9 (by omega) (by omega)
  by_cases hR : 198 + q1 ≤ 200
  · by_cases hF : 28 + q2 ≤ 30
    · exact boundsYY rows fields what (198 + q1) (28 + q2) p w hO hR hF (by omega) (by omega) (by omega) q1 q2 hq1 hq2 hp (by omega) (by omega) (by omega)
    · exact boundsYN rows fields what (198 + q1) (28 + q2) p w hO hR hF (by omega) (by omega) (by omega) q1 q2 hq1 hq2 hp (by omega) (by omega) (by omega)
  · by_cases hF : 28 + q2 ≤ 30
    · exact boundsNY rows fields what (198 + q1) (28 + q2) p w hO hR hF (by omega) (by omega) (by omega) q1 q2 hq1 hq2 hp (by omega) (by omega) (by omega)
    · exact boundsNN rows fields what (198 + q1) (28 + q2) p w hO hR hF (by omega) (by omega) (by omega) q1 q2 hq1 hq2 hp (by omega) (by omega) (by omega)
end Go.Proofs.YtakfcfjamgaekaaDoor
