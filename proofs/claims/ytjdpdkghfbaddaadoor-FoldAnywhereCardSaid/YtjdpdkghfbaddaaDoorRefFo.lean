/-
  THE DOCUMENT's OWN ANSWER for fold.Fold: cardexref01.foldOne, cardexref01.Fold.
-/
import Derived.Test.YtjdpdkghfbaddaaDoorFld
import Derived.Test.YtjdpdkghfbaddaaDoorRefV
import Derived.Test.YtjdpdkghfbaddaaDoorByt
import Derived.Test.YtjdpdkghfbaddaaDoorStrs
namespace Go.Proofs.YtjdpdkghfbaddaaDoor
open Go.RowKit Tx

/-- how the document's loop stands: o ahead, so much room, the rest from k on -/
def FStand (l : List UInt8) (k room : Nat) (o : List UInt8) : Prop := foldOne l = o ++ fr room (chs (l.drop k))
theorem FStand.start (l : List UInt8) : FStand l 0 75 [] := by unfold FStand; rw [List.drop_zero, foldOne_fr]; rfl
theorem FStand.done {l o : List UInt8} {k room : Nat} (h : FStand l k room o) (hk : l.length ≤ k) : foldOne l = o ++ [13, 10] := by
  unfold FStand at h
  rw [List.drop_eq_nil_of_le hk, chs_nil, fr_nil] at h
  exact h
theorem chs_at {l : List UInt8} {k n : Nat} (hk : k < l.length) (hn : (dc (l.drop k)).2 = n) : chs (l.drop k) = (l.drop k).take n :: chs (l.drop (k + n)) := by
  rw [chs_step (drop_ne hk), hn, List.drop_drop]
theorem take_len {l : List UInt8} {k n : Nat} (hk : k + n ≤ l.length) : ((l.drop k).take n).length = n := by
  rw [List.length_take, List.length_drop]; omega
theorem FStand.on {l o : List UInt8} {k room n : Nat} (h : FStand l k room o) (hk : k < l.length) (hn : (dc (l.drop k)).2 = n) (hkn : k + n ≤ l.length) (hr : n ≤ room) : FStand l (k + n) (room - n) (o ++ (l.drop k).take n) := by
  unfold FStand at h ⊢
  rw [h, chs_at hk hn, fr_on _ (by rw [take_len hkn]; omega), take_len hkn, List.append_assoc]
theorem FStand.cut {l o : List UInt8} {k room n : Nat} (h : FStand l k room o) (hk : k < l.length) (hn : (dc (l.drop k)).2 = n) (hkn : k + n ≤ l.length) (hr : room < n) : FStand l (k + n) (74 - n) (o ++ [13, 10, 32] ++ (l.drop k).take n) := by
  unfold FStand at h ⊢
  rw [h, chs_at hk hn, fr_cut _ (by rw [take_len hkn]; omega), take_len hkn]
  simp
/-- so many bytes go on: at least one -/
theorem rdc_max (l : List UInt8) : max 1 (rdc l).2 = (dc l).2 := by
  unfold rdc
  by_cases h : dc l = (65533, 1)
  · rw [if_pos h, h]; rfl
  · rw [if_neg h]
    have := dc_ge1 l
    omega
theorem max_int (a b : Int) : (if b ≤ a then a else b) = max a b := by omega

set_option maxHeartbeats 2000000 in
theorem rfoldOne_any (s : ByteArray) (w : World) (hs : s.size < 1000000000000) :
    Calls Tryd.prog 36 #[.string s] w fun e w' => e = .returned (.string ⟨(foldOne s.data.toList).toArray⟩) ∧ w = w' := by
  have hsz := Lib.hid (Lib.size_eq s)
  have HD := Lib.hid (fun (i : Nat) (W : World) h => decode_any s i W (by omega) h)
  go_enter Tryd.func36, Tryd.ntmps36
  go_wp2_with fail
  go_loop [3, 4, 5] (fun out rm at_ => ∃ (k room : Nat) (o : ByteArray), k ≤ s.size ∧ room ≤ 75 ∧ out = .string o ∧ rm = .int .i64 room ∧ at_ = .int .i64 k ∧ o.size ≤ 4 * k ∧ Hid (FStand s.data.toList k room o.data.toList)) (fun _ _ at_ => s.size - (intOf at_).toNat)
  case atStart => exact ⟨0, 75, ⟨#[]⟩, Nat.zero_le _, Nat.le_refl _, rfl, rfl, rfl, Nat.le_refl _, Lib.hid (FStand.start _)⟩
  case round =>
    obtain ⟨k, room, o, hk, hroom, rfl, rfl, rfl, hosz, ho⟩ := hrel
    by_cases hlt : k < s.size
    · have hlt' : k < s.data.toList.length := by rw [← hsz.out]; exact hlt
      obtain ⟨n, hn⟩ : ∃ n, (dc (s.data.toList.drop k)).2 = n := ⟨_, rfl⟩
      have hn1 : 1 ≤ n := by rw [← hn]; exact dc_ge1 _
      have hn4 : n ≤ 4 := by rw [← hn]; exact dc_le4 _
      have hkn : k + n ≤ s.size := by
        have := dc_le (drop_ne hlt')
        rw [hn, List.length_drop, ← hsz.out] at this
        omega
      have hkn' : k + n ≤ s.data.toList.length := by rw [← hsz.out]; exact hkn
      have hmx := rdc_max (s.data.toList.drop k)
      rw [hn] at hmx
      have HDk := Lib.hid (fun (W : World) => HD.out k W hlt)
      unfold Decoded at HDk
      obtain ⟨c, hc⟩ : ∃ c, (rdc (s.data.toList.drop k)).1 = c := ⟨_, rfl⟩
      obtain ⟨m, hm⟩ : ∃ m, (rdc (s.data.toList.drop k)).2 = m := ⟨_, rfl⟩
      rw [hc, hm] at HDk
      rw [hm] at hmx
      have hmi : max 1 (m : Int) = (n : Int) := by omega
      have hex : Hid ((s.extract k (k + n)).data.toList = (s.data.toList.drop k).take n) := by unfold Hid; rw [mid_cut, show k + n - k = n by omega]
      have hesz : (s.extract k (k + n)).size = n := by rw [ByteArray.size_extract]; omega
      have HM := Lib.hid hmi
      have HC := Lib.hid (fun h => ho.out.cut hlt' hn hkn' h)
      have HO := Lib.hid (fun h => ho.out.on hlt' hn hkn' h)
      clear hc hm hmx hn hlt'
      have hmn : (m ≤ 1 ∧ n = 1) ∨ (m = n ∧ (1 : Int) < (m : Int)) := by omega
      clear hmi
      rcases hmn with ⟨hm1, rfl⟩ | ⟨rfl, hmgt⟩
      case' inl =>
        obtain ⟨z, hz⟩ : ∃ z : Int, (m : Int) = z := ⟨_, rfl⟩
        rw [hz] at HDk
        have hz2 : z = 0 ∨ z = 1 := by omega
        clear hz hm1
        rcases hz2 with rfl | rfl
        all_goals
          by_cases hr : room < 1
          · have hS := Lib.hid (HC.out hr)
            go_wp2_with (go_at_call 53; refine (HDk.out _).mono ?_; rintro e w1 ⟨rfl, rfl⟩)
            go_round
            case rel => exact ⟨k + 1, 74 - 1, _, hkn, by omega, rfl, by go_num, by go_num, by rw [ByteArray.size_append, ByteArray.size_append, hesz]; show o.size + 3 + _ ≤ _; omega, by unfold Hid; rw [cat_list, cat_list, hex.out]; exact hS.out⟩
            case measure => simp [intOf]; omega
          · have hS := Lib.hid (HO.out (by omega))
            go_wp2_with (go_at_call 53; refine (HDk.out _).mono ?_; rintro e w1 ⟨rfl, rfl⟩)
            go_round
            case rel => exact ⟨k + 1, room - 1, _, hkn, by omega, rfl, by go_num, by go_num, by rw [ByteArray.size_append, hesz]; omega, by unfold Hid; rw [cat_list, hex.out]; exact hS.out⟩
            case measure => simp [intOf]; omega
      case' inr =>
        by_cases hr : room < m
        · have hS := Lib.hid (HC.out hr)
          go_wp2_with (go_at_call 53; refine (HDk.out _).mono ?_; rintro e w1 ⟨rfl, rfl⟩)
          go_round
          case rel => exact ⟨k + m, 74 - m, _, hkn, by omega, rfl, by go_num, by go_num, by rw [ByteArray.size_append, ByteArray.size_append, hesz]; show o.size + 3 + _ ≤ _; omega, by unfold Hid; rw [cat_list, cat_list, hex.out]; exact hS.out⟩
          case measure => simp [intOf]; omega
        · have hS := Lib.hid (HO.out (by omega))
          go_wp2_with (go_at_call 53; refine (HDk.out _).mono ?_; rintro e w1 ⟨rfl, rfl⟩)
          go_round
          case rel => exact ⟨k + m, room - m, _, hkn, by omega, rfl, by go_num, by go_num, by rw [ByteArray.size_append, hesz]; omega, by unfold Hid; rw [cat_list, hex.out]; exact hS.out⟩
          case measure => simp [intOf]; omega
    · have hke : s.data.toList.length ≤ k := by rw [← hsz.out]; omega
      have hall := Lib.hid (ho.out.done hke)
      clear hke
      go_wp2_with fail
      go_ret
      exact ⟨ret_str (by rw [hall.out]; exact bytes_of (cat_list o ⟨#[13, 10]⟩)), rfl⟩

/-- the bytes of strings -/
def bts (xs : List ByteArray) : List (List UInt8) := xs.map fun b => b.data.toList
theorem bts_take (xs : List ByteArray) (k : Nat) : bts (xs.take k) = (bts xs).take k := by simp [bts, List.map_take]
/-- how many bytes there are in all, with three more for each -/
def bulk (xs : List ByteArray) : Nat := (xs.map fun b => b.size + 3).sum
theorem bulk_nil : bulk [] = 0 := rfl
theorem bulk_snoc (xs : List ByteArray) (b : ByteArray) : bulk (xs ++ [b]) = bulk xs + (b.size + 3) := by simp [bulk]
theorem bulk_take (xs : List ByteArray) (k : Nat) : bulk (xs.take k) ≤ bulk xs := by
  have h : bulk xs = bulk (xs.take k) + bulk (xs.drop k) := by
    conv => lhs; rw [← List.take_append_drop k xs]
    unfold bulk
    rw [List.map_append, List.sum_append]
  omega
theorem bulk_one {xs : List ByteArray} {b : ByteArray} {k : Nat} (h : xs[k]? = some b) : b.size + 3 ≤ bulk xs := by
  have h1 := bulk_take xs (k + 1)
  rw [List.take_add_one, h, Option.toList_some, bulk_snoc] at h1
  omega
theorem bulk_len (xs : List ByteArray) : 3 * xs.length ≤ bulk xs := by
  induction xs with
  | nil => simp
  | cons b t ih => simp only [bulk, List.map_cons, List.sum_cons, List.length_cons] at ih ⊢; omega
theorem foldL_take {xs : List ByteArray} {b : ByteArray} {k : Nat} (h : xs[k]? = some b) : foldL (bts (xs.take (k + 1))) = foldL (bts (xs.take k)) ++ foldOne b.data.toList := by
  rw [List.take_add_one, h]
  simp [bts, foldL]
theorem foldL_size : ∀ xs : List ByteArray, (foldL (bts xs)).length ≤ 4 * bulk xs
  | [] => by simp [bts, foldL]
  | b :: t => by
    have h1 := foldOne_size b.data.toList
    have h2 := foldL_size t
    rw [← Lib.size_eq] at h1
    simp only [bts, foldL, bulk, List.map_cons, List.flatMap_cons, List.length_append, List.sum_cons] at h2 ⊢
    omega

set_option maxHeartbeats 1000000 in
theorem rfold_any (B : Nat) (v : Value) (xs : List ByteArray) (w : World) (hx : ReadT B w v xs) (hb : bulk xs < 100000000000) :
    Calls Tryd.prog 15 #[v] w fun e w' => e = .returned (.string ⟨(foldL (bts xs)).toArray⟩) ∧ w = w' := by
  obtain ⟨A, cap, rfl, hx2⟩ := hx
  have HF := Lib.hid (fun (s : ByteArray) (W : World) h => rfoldOne_any s W h)
  have hlen := bulk_len xs
  go_enter Tryd.func15, Tryd.ntmps15
  go_wp2_with fail
  go_loop [3, 4] (fun out at_ => ∃ (k : Nat) (o : ByteArray), k ≤ xs.length ∧ out = .string o ∧ at_ = .int .i64 k ∧ Hid (o.data.toList = foldL (bts (xs.take k)))) (fun _ at_ => xs.length - (intOf at_).toNat)
  case atStart => exact ⟨0, ⟨#[]⟩, Nat.zero_le _, rfl, rfl, Lib.hid rfl⟩
  case round =>
    obtain ⟨k, o, hk, rfl, rfl, ho⟩ := hrel
    by_cases hlt : k < xs.length
    · obtain ⟨ad, rfl, hlb, hc⟩ := hx2 (by omega)
      obtain ⟨p, hp⟩ : ∃ p, xs[k]? = some p := ⟨_, List.getElem?_eq_getElem hlt⟩
      have c1 := hc k p hp
      have hps := bulk_one hp
      have hst := Lib.hid (foldL_take hp)
      have HFp := Lib.hid (fun (W : World) => HF.out p W (by omega))
      obtain ⟨X, hX⟩ : ∃ X : ByteArray, ⟨(foldOne p.data.toList).toArray⟩ = X := ⟨_, rfl⟩
      have hXs : X.size ≤ 4 * p.size + 2 := by
        have := foldOne_size p.data.toList
        rw [← Lib.size_eq] at this
        rw [← hX]
        exact this
      have hXl : Hid (X.data.toList = foldOne p.data.toList) := by unfold Hid; rw [← hX]
      have hosz : o.size ≤ 400000000000 := by
        rw [Lib.size_eq, ho.out]
        have h1 := foldL_size (xs.take k)
        have h2 := bulk_take xs k
        omega
      rw [hX] at HFp
      clear hX hc hp hx2
      go_wp2_with (go_at_call 36; refine (HFp.out _).mono ?_; rintro e w1 ⟨rfl, rfl⟩)
      go_round
      case rel => exact ⟨k + 1, _, by omega, rfl, by go_num, by unfold Hid; rw [cat_list, ho.out, hst.out, hXl.out]⟩
      case measure => simp [intOf]; omega
    · have hke : k = xs.length := by omega
      have hall : Hid (o.data.toList = foldL (bts xs)) := by
        have := ho.out
        rw [hke, List.take_length] at this
        exact this
      clear hke
      go_wp2_with fail
      go_ret
      exact ⟨ret_str (bytes_of hall.out), rfl⟩
end Go.Proofs.YtjdpdkghfbaddaaDoor
