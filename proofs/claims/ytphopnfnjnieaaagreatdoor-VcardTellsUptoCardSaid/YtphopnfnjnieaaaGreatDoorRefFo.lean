/- Texts laid together: RefFo RefSp RefUn -/
import Derived.Test.YtphopnfnjnieaaaGreatDoorFld
import Derived.Test.YtphopnfnjnieaaaGreatDoorRefV
import Derived.Test.YtphopnfnjnieaaaGreatDoorByt
import Derived.Test.YtphopnfnjnieaaaGreatDoorStrs
import Derived.Test.YtphopnfnjnieaaaGreatDoorFld
import Derived.Laws.OwnMore
/-
  THE DOCUMENT's OWN ANSWER for fold.Fold: cardexref01.foldOne, cardexref01.Fold.
-/
namespace Go.Proofs.YtphopnfnjnieaaaGreatDoor
open Go.RowKit Tx

/-- how the document's loop stands: o ahead, so much room, the rest from k on -/
def FStand (l : List UInt8) (k room : Nat) (o : List UInt8) : Prop := foldOne l = o ++ fr room (chs (l.drop k))
theorem FStand.start (l : List UInt8) : FStand l 0 75 [] := by unfold FStand; rw [List.drop_zero, foldOne_fr]; rfl
theorem FStand.done {l o : List UInt8} {k room : Nat} (h : FStand l k room o) (hk : l.length ≤ k) : foldOne l = o ++ [13, 10] := by
  unfold FStand at h
  rw [List.drop_eq_nil_of_le hk, chs_nil, fr_nil] at h
  exact h
theorem chs_at {l : List UInt8} {k n : Nat} (hk : k < l.length) (hn : (dc (l.drop k)).2 = n) : chs (l.drop k) = (l.drop k).take n :: chs (l.drop (k + n)) := by
  rw [chs_step (drop_ne hk), hn, List.drop_drop]
theorem take_len {l : List UInt8} {k n : Nat} (hk : k + n ≤ l.length) : ((l.drop k).take n).length = n := by
  rw [List.length_take, List.length_drop]; omega
theorem FStand.on {l o : List UInt8} {k room n : Nat} (h : FStand l k room o) (hk : k < l.length) (hn : (dc (l.drop k)).2 = n) (hkn : k + n ≤ l.length) (hr : n ≤ room) : FStand l (k + n) (room - n) (o ++ (l.drop k).take n) := by
  unfold FStand at h ⊢
  rw [h, chs_at hk hn, fr_on _ (by rw [take_len hkn]; omega), take_len hkn, List.append_assoc]
theorem FStand.cut {l o : List UInt8} {k room n : Nat} (h : FStand l k room o) (hk : k < l.length) (hn : (dc (l.drop k)).2 = n) (hkn : k + n ≤ l.length) (hr : room < n) : FStand l (k + n) (74 - n) (o ++ [13, 10, 32] ++ (l.drop k).take n) := by
  unfold FStand at h ⊢
  rw [h, chs_at hk hn, fr_cut _ (by rw [take_len hkn]; omega), take_len hkn]
  simp
/-- so many bytes go on: at least one -/
theorem rdc_max (l : List UInt8) : max 1 (rdc l).2 = (dc l).2 := by
  unfold rdc
  by_cases h : dc l = (65533, 1)
  · rw [if_pos h, h]; rfl
  · rw [if_neg h]
    have := dc_ge1 l
    omega
theorem max_int (a b : Int) : (if b ≤ a then a else b) = max a b := by omega

set_option maxHeartbeats 2000000 in
theorem rfoldOne_any (s : ByteArray) (w : World) (hs : s.size < 1000000000000) :
    Calls Tryz.prog 51 #[.string s] w fun e w' => e = .returned (.string ⟨(foldOne s.data.toList).toArray⟩) ∧ w = w' := by
  have hsz := Lib.hid (Lib.size_eq s)
  have HD := Lib.hid (fun (i : Nat) (W : World) h => decode_any s i W (by omega) h)
  go_enter Tryz.func51, Tryz.ntmps51
  go_wp2_with fail
  go_loop [3, 4, 5] (fun out rm at_ => ∃ (k room : Nat) (o : ByteArray), k ≤ s.size ∧ room ≤ 75 ∧ out = .string o ∧ rm = .int .i64 room ∧ at_ = .int .i64 k ∧ o.size ≤ 4 * k ∧ Hid (FStand s.data.toList k room o.data.toList)) (fun _ _ at_ => s.size - (intOf at_).toNat)
  case atStart => exact ⟨0, 75, ⟨#[]⟩, Nat.zero_le _, Nat.le_refl _, rfl, rfl, rfl, Nat.le_refl _, Lib.hid (FStand.start _)⟩
  case round =>
    obtain ⟨k, room, o, hk, hroom, rfl, rfl, rfl, hosz, ho⟩ := hrel
    by_cases hlt : k < s.size
    · have hlt' : k < s.data.toList.length := by rw [← hsz.out]; exact hlt
      obtain ⟨n, hn⟩ : ∃ n, (dc (s.data.toList.drop k)).2 = n := ⟨_, rfl⟩
      have hn1 : 1 ≤ n := by rw [← hn]; exact dc_ge1 _
      have hn4 : n ≤ 4 := by rw [← hn]; exact dc_le4 _
      have hkn : k + n ≤ s.size := by
        have := dc_le (drop_ne hlt')
        rw [hn, List.length_drop, ← hsz.out] at this
        omega
      have hkn' : k + n ≤ s.data.toList.length := by rw [← hsz.out]; exact hkn
      have hmx := rdc_max (s.data.toList.drop k)
      rw [hn] at hmx
      have HDk := Lib.hid (fun (W : World) => HD.out k W hlt)
      unfold Decoded at HDk
      obtain ⟨c, hc⟩ : ∃ c, (rdc (s.data.toList.drop k)).1 = c := ⟨_, rfl⟩
      obtain ⟨m, hm⟩ : ∃ m, (rdc (s.data.toList.drop k)).2 = m := ⟨_, rfl⟩
      rw [hc, hm] at HDk
      rw [hm] at hmx
      have hmi : max 1 (m : Int) = (n : Int) := by omega
      have hex : Hid ((s.extract k (k + n)).data.toList = (s.data.toList.drop k).take n) := by unfold Hid; rw [mid_cut, show k + n - k = n by omega]
      have hesz : (s.extract k (k + n)).size = n := by rw [ByteArray.size_extract]; omega
      have HM := Lib.hid hmi
      have HC := Lib.hid (fun h => ho.out.cut hlt' hn hkn' h)
      have HO := Lib.hid (fun h => ho.out.on hlt' hn hkn' h)
      clear hc hm hmx hn hlt'
      have hmn : (m ≤ 1 ∧ n = 1) ∨ (m = n ∧ (1 : Int) < (m : Int)) := by omega
      clear hmi
      rcases hmn with ⟨hm1, rfl⟩ | ⟨rfl, hmgt⟩
      case' inl =>
        obtain ⟨z, hz⟩ : ∃ z : Int, (m : Int) = z := ⟨_, rfl⟩
        rw [hz] at HDk
        have hz2 : z = 0 ∨ z = 1 := by omega
        clear hz hm1
        rcases hz2 with rfl | rfl
        all_goals
          by_cases hr : room < 1
          · have hS := Lib.hid (HC.out hr)
            go_wp2_with (go_at_call 69; refine (HDk.out _).mono ?_; rintro e w1 ⟨rfl, rfl⟩)
            go_round
            case rel => exact ⟨k + 1, 74 - 1, _, hkn, by omega, rfl, by go_num, by go_num, by rw [ByteArray.size_append, ByteArray.size_append, hesz]; show o.size + 3 + _ ≤ _; omega, by unfold Hid; rw [cat_list, cat_list, hex.out]; exact hS.out⟩
            case measure => simp [intOf]; omega
          · have hS := Lib.hid (HO.out (by omega))
            go_wp2_with (go_at_call 69; refine (HDk.out _).mono ?_; rintro e w1 ⟨rfl, rfl⟩)
            go_round
            case rel => exact ⟨k + 1, room - 1, _, hkn, by omega, rfl, by go_num, by go_num, by rw [ByteArray.size_append, hesz]; omega, by unfold Hid; rw [cat_list, hex.out]; exact hS.out⟩
            case measure => simp [intOf]; omega
      case' inr =>
        by_cases hr : room < m
        · have hS := Lib.hid (HC.out hr)
          go_wp2_with (go_at_call 69; refine (HDk.out _).mono ?_; rintro e w1 ⟨rfl, rfl⟩)
          go_round
          case rel => exact ⟨k + m, 74 - m, _, hkn, by omega, rfl, by go_num, by go_num, by rw [ByteArray.size_append, ByteArray.size_append, hesz]; show o.size + 3 + _ ≤ _; omega, by unfold Hid; rw [cat_list, cat_list, hex.out]; exact hS.out⟩
          case measure => simp [intOf]; omega
        · have hS := Lib.hid (HO.out (by omega))
          go_wp2_with (go_at_call 69; refine (HDk.out _).mono ?_; rintro e w1 ⟨rfl, rfl⟩)
          go_round
          case rel => exact ⟨k + m, room - m, _, hkn, by omega, rfl, by go_num, by go_num, by rw [ByteArray.size_append, hesz]; omega, by unfold Hid; rw [cat_list, hex.out]; exact hS.out⟩
          case measure => simp [intOf]; omega
    · have hke : s.data.toList.length ≤ k := by rw [← hsz.out]; omega
      have hall := Lib.hid (ho.out.done hke)
      clear hke
      go_wp2_with fail
      go_ret
      exact ⟨ret_str (by rw [hall.out]; exact bytes_of (cat_list o ⟨#[13, 10]⟩)), rfl⟩

/-- the bytes of strings -/
def btl (xs : List ByteArray) : List (List UInt8) := xs.map fun b => b.data.toList
theorem btl_take (xs : List ByteArray) (k : Nat) : btl (xs.take k) = (btl xs).take k := by simp [btl, List.map_take]
/-- how many bytes there are in all, with three more for each -/
def bulk (xs : List ByteArray) : Nat := (xs.map fun b => b.size + 3).sum
theorem bulk_nil : bulk [] = 0 := rfl
theorem bulk_snoc (xs : List ByteArray) (b : ByteArray) : bulk (xs ++ [b]) = bulk xs + (b.size + 3) := by simp [bulk]
theorem bulk_take (xs : List ByteArray) (k : Nat) : bulk (xs.take k) ≤ bulk xs := by
  have h : bulk xs = bulk (xs.take k) + bulk (xs.drop k) := by
    conv => lhs; rw [← List.take_append_drop k xs]
    unfold bulk
    rw [List.map_append, List.sum_append]
  omega
theorem bulk_one {xs : List ByteArray} {b : ByteArray} {k : Nat} (h : xs[k]? = some b) : b.size + 3 ≤ bulk xs := by
  have h1 := bulk_take xs (k + 1)
  rw [List.take_add_one, h, Option.toList_some, bulk_snoc] at h1
  omega
theorem bulk_len (xs : List ByteArray) : 3 * xs.length ≤ bulk xs := by
  induction xs with
  | nil => simp
  | cons b t ih => simp only [bulk, List.map_cons, List.sum_cons, List.length_cons] at ih ⊢; omega
theorem foldL_take {xs : List ByteArray} {b : ByteArray} {k : Nat} (h : xs[k]? = some b) : foldL (btl (xs.take (k + 1))) = foldL (btl (xs.take k)) ++ foldOne b.data.toList := by
  rw [List.take_add_one, h]
  simp [btl, foldL]
theorem foldL_size : ∀ xs : List ByteArray, (foldL (btl xs)).length ≤ 4 * bulk xs
  | [] => by simp [btl, foldL]
  | b :: t => by
    have h1 := foldOne_size b.data.toList
    have h2 := foldL_size t
    rw [← Lib.size_eq] at h1
    simp only [btl, foldL, bulk, List.map_cons, List.flatMap_cons, List.length_append, List.sum_cons] at h2 ⊢
    omega

set_option maxHeartbeats 1000000 in
theorem rfold_any (B : Nat) (v : Value) (xs : List ByteArray) (w : World) (hx : ReadT B w v xs) (hb : bulk xs < 100000000000) :
    Calls Tryz.prog 25 #[v] w fun e w' => e = .returned (.string ⟨(foldL (btl xs)).toArray⟩) ∧ w = w' := by
  obtain ⟨A, cap, rfl, hx2⟩ := hx
  have HF := Lib.hid (fun (s : ByteArray) (W : World) h => rfoldOne_any s W h)
  have hlen := bulk_len xs
  go_enter Tryz.func25, Tryz.ntmps25
  go_wp2_with fail
  go_loop [3, 4] (fun out at_ => ∃ (k : Nat) (o : ByteArray), k ≤ xs.length ∧ out = .string o ∧ at_ = .int .i64 k ∧ Hid (o.data.toList = foldL (btl (xs.take k)))) (fun _ at_ => xs.length - (intOf at_).toNat)
  case atStart => exact ⟨0, ⟨#[]⟩, Nat.zero_le _, rfl, rfl, Lib.hid rfl⟩
  case round =>
    obtain ⟨k, o, hk, rfl, rfl, ho⟩ := hrel
    by_cases hlt : k < xs.length
    · obtain ⟨ad, rfl, hlb, hc⟩ := hx2 (by omega)
      obtain ⟨p, hp⟩ : ∃ p, xs[k]? = some p := ⟨_, List.getElem?_eq_getElem hlt⟩
      have c1 := hc k p hp
      have hps := bulk_one hp
      have hst := Lib.hid (foldL_take hp)
      have HFp := Lib.hid (fun (W : World) => HF.out p W (by omega))
      obtain ⟨X, hX⟩ : ∃ X : ByteArray, ⟨(foldOne p.data.toList).toArray⟩ = X := ⟨_, rfl⟩
      have hXs : X.size ≤ 4 * p.size + 2 := by
        have := foldOne_size p.data.toList
        rw [← Lib.size_eq] at this
        rw [← hX]
        exact this
      have hXl : Hid (X.data.toList = foldOne p.data.toList) := by unfold Hid; rw [← hX]
      have hosz : o.size ≤ 400000000000 := by
        rw [Lib.size_eq, ho.out]
        have h1 := foldL_size (xs.take k)
        have h2 := bulk_take xs k
        omega
      rw [hX] at HFp
      clear hX hc hp hx2
      go_wp2_with (go_at_call 51; refine (HFp.out _).mono ?_; rintro e w1 ⟨rfl, rfl⟩)
      go_round
      case rel => exact ⟨k + 1, _, by omega, rfl, by go_num, by unfold Hid; rw [cat_list, ho.out, hst.out, hXl.out]⟩
      case measure => simp [intOf]; omega
    · have hke : k = xs.length := by omega
      have hall : Hid (o.data.toList = foldL (btl xs)) := by
        have := ho.out
        rw [hke, List.take_length] at this
        exact this
      clear hke
      go_wp2_with fail
      go_ret
      exact ⟨ret_str (bytes_of hall.out), rfl⟩
end Go.Proofs.YtphopnfnjnieaaaGreatDoor
/-
  THE DOCUMENT's OWN ANSWER for fold.Split: cardexref01.Split.
-/
namespace Go.Proofs.YtphopnfnjnieaaaGreatDoor
open Go.RowKit Tx

/-- strings out of lists of bytes -/
def sts (l : List (List UInt8)) : List ByteArray := l.map fun x => ⟨x.toArray⟩
theorem sts_snoc (l : List (List UInt8)) (x : List UInt8) : sts (l ++ [x]) = sts l ++ [⟨x.toArray⟩] := by simp [sts]
theorem sts_len (l : List (List UInt8)) : (sts l).length = l.length := by simp [sts]
/-- how the document's loop stands: acc are told, the open piece goes from f to k -/
def SStand (sep : UInt8) (l : List UInt8) (acc : List (List UInt8)) (f k : Nat) (e : Bool) : Prop := f ≤ k ∧ k ≤ l.length ∧ acc.length ≤ f ∧ split1 sep l = acc ++ spl sep e ((l.drop f).take (k - f)) (l.drop k)
theorem SStand.start (sep : UInt8) (l : List UInt8) : SStand sep l [] 0 0 false := ⟨Nat.le_refl _, Nat.zero_le _, Nat.le_refl _, by simp [split1]⟩
theorem SStand.done {sep : UInt8} {l : List UInt8} {acc : List (List UInt8)} {f k : Nat} {e : Bool} (h : SStand sep l acc f k e) (hk : l.length ≤ k) : split1 sep l = acc ++ [l.drop f] := by
  obtain ⟨h1, h2, _, h3⟩ := h
  rw [h3, List.drop_eq_nil_of_le hk, spl_nil, List.take_of_length_le (by rw [List.length_drop]; omega)]
theorem SStand.cut {sep c : UInt8} {l : List UInt8} {acc : List (List UInt8)} {f k : Nat} {e : Bool} (h : SStand sep l acc f k e) (hc : l[k]? = some c) (hs : c = sep ∧ e = false) : SStand sep l (acc ++ [(l.drop f).take (k - f)]) (k + 1) (k + 1) (c == 92 && !e) := by
  obtain ⟨h1, h2, h4, h3⟩ := h
  obtain ⟨hk, he⟩ := List.getElem?_eq_some_iff.1 hc
  refine ⟨Nat.le_refl _, hk, by rw [List.length_append, List.length_singleton]; omega, ?_⟩
  rw [h3, List.drop_eq_getElem_cons hk, he, spl_cut _ _ hs]
  simp
theorem SStand.on {sep c : UInt8} {l : List UInt8} {acc : List (List UInt8)} {f k : Nat} {e : Bool} (h : SStand sep l acc f k e) (hc : l[k]? = some c) (hs : ¬ (c = sep ∧ e = false)) : SStand sep l acc f (k + 1) (c == 92 && !e) := by
  obtain ⟨h1, h2, h4, h3⟩ := h
  obtain ⟨hk, he⟩ := List.getElem?_eq_some_iff.1 hc
  refine ⟨by omega, hk, h4, ?_⟩
  have hd : l.drop k = c :: l.drop (k + 1) := by rw [List.drop_eq_getElem_cons hk, he]
  rw [h3, hd, spl_on _ _ hs, take_snoc hd h1]

end Go.Proofs.YtphopnfnjnieaaaGreatDoor
/-
  THE DOCUMENT's OWN ANSWER for fold.Unfold: cardexref01.Unfold.
-/
namespace Go.Proofs.YtphopnfnjnieaaaGreatDoor
open Go.RowKit Tx

/-- What Unfold answers: the lines, and the error. -/
def unfA (l : List UInt8) : List (List UInt8) × Int := if 20000 < l.length then ([], 4) else if valid l then (match unfold l with
  | some m => (m, 0)
  | none => ([], 17)) else ([], 3)
theorem unfA_big {l : List UInt8} (h : 20000 < l.length) : unfA l = ([], 4) := by unfold unfA; rw [if_pos h]
theorem unfA_utf {l : List UInt8} (h : ¬ 20000 < l.length) (h2 : valid l = false) : unfA l = ([], 3) := by unfold unfA; rw [if_neg h, if_neg (by rw [h2]; decide)]
theorem unfA_line {l : List UInt8} (h : ¬ 20000 < l.length) (h2 : valid l = true) (h3 : Tx.unfold l = none) : unfA l = ([], 17) := by unfold unfA; rw [if_neg h, if_pos h2, h3]
theorem unfA_ok {l : List UInt8} {m : List (List UInt8)} (h : ¬ 20000 < l.length) (h2 : valid l = true) (h3 : Tx.unfold l = some m) : unfA l = (m, 0) := by unfold unfA; rw [if_neg h, if_pos h2, h3]
def Unfolded (B : Nat) (w : World) (l : List UInt8) (e : Ending) (w' : World) : Prop :=
  ∃ v, e = .returned (.tuple #[v, .int .i64 (unfA l).2]) ∧ ReadT w'.heap.size w' v (sts (unfA l).1) ∧ Below B w w'
theorem Unfolded.err {B : Nat} {w w' : World} {l : List UInt8} {n : Int} (h : unfA l = ([], n)) (hb : Below B w w') : Unfolded B w l (.returned (.tuple #[.slice none 0 0, .int .i64 n])) w' :=
  ⟨_, by rw [h], by rw [h]; exact ReadT.nil _ _ _, hb⟩
theorem Unfolded.good {B : Nat} {w w' : World} {l : List UInt8} {m : List (List UInt8)} {v : Value} (h : unfA l = (m, 0)) (hv : ReadT w'.heap.size w' v (sts m)) (hb : Below B w w') : Unfolded B w l (.returned (.tuple #[v, .int .i64 0])) w' :=
  ⟨v, by rw [h], by rw [h]; exact hv, hb⟩

/-- how the document's loop stands: acc are told, the open row goes from f to k -/
def UStand (l : List UInt8) (acc : List (List UInt8)) (f k : Nat) : Prop := f ≤ k ∧ k ≤ l.length ∧ acc.length ≤ f ∧ Tx.unfold l = (rowsA ((l.drop f).take (k - f)) (l.drop k)).bind (linesA acc)
theorem UStand.start (l : List UInt8) : UStand l [] 0 0 := ⟨Nat.le_refl _, Nat.zero_le _, Nat.le_refl _, by simp [Tx.unfold]⟩
section
variable {l : List UInt8} {acc : List (List UInt8)} {f k : Nat} {c : UInt8}
theorem at_drop (hc : l[k]? = some c) : l.drop k = c :: l.drop (k + 1) := by
  obtain ⟨hk, he⟩ := List.getElem?_eq_some_iff.1 hc
  rw [List.drop_eq_getElem_cons hk, he]
theorem UStand.stop (h : UStand l acc f k) (hk : l.length ≤ k) : Tx.unfold l = if f < l.length then none else some acc := by
  obtain ⟨h1, h2, _, h3⟩ := h
  obtain rfl : k = l.length := by omega
  rw [h3, List.drop_length, rowsA_nil, List.take_of_length_le (by rw [List.length_drop]; omega)]
  by_cases hf : f < l.length
  · rw [if_pos hf, if_neg (drop_ne hf)]; rfl
  · rw [if_neg hf, if_pos (List.drop_eq_nil_of_le (by omega))]; rfl
theorem UStand.ten (h : UStand l acc f k) (hc : l[k]? = some 10) : Tx.unfold l = none := by
  rw [h.2.2.2, at_drop hc, rowsA_10]; rfl
theorem UStand.last (h : UStand l acc f k) (hc : l[k]? = some 13) (hk : l.length ≤ k + 1) : Tx.unfold l = none := by
  rw [h.2.2.2, at_drop hc, List.drop_eq_nil_of_le hk, rowsA_13]; rfl
theorem UStand.odd {d : UInt8} (h : UStand l acc f k) (hc : l[k]? = some 13) (hd : l[k + 1]? = some d) (hd2 : d ≠ 10) : Tx.unfold l = none := by
  rw [h.2.2.2, at_drop hc, at_drop hd, rowsA_13x _ _ hd2]; rfl
theorem UStand.on (h : UStand l acc f k) (hc : l[k]? = some c) (h1 : c ≠ 10) (h2 : c ≠ 13) : UStand l acc f (k + 1) := by
  obtain ⟨g1, g2, g4, g3⟩ := h
  obtain ⟨hk, _⟩ := List.getElem?_eq_some_iff.1 hc
  refine ⟨by omega, hk, g4, ?_⟩
  rw [g3, at_drop hc, rowsA_on _ _ h1 h2, take_snoc (at_drop hc) g1]
theorem UStand.ended (h : UStand l acc f k) (hc : l[k]? = some 13) (hd : l[k + 1]? = some 10) : Tx.unfold l = ((rowsA [] (l.drop (k + 2))).map ((l.drop f).take (k - f) :: ·)).bind (linesA acc) := by
  rw [h.2.2.2, at_drop hc, at_drop hd, rowsA_end]
theorem UStand.early (h : UStand l [] f k) (hc : l[k]? = some 13) (hd : l[k + 1]? = some 10) (hr : cont ((l.drop f).take (k - f)) = true) : Tx.unfold l = none := by
  rw [h.ended hc hd]
  cases rowsA [] (l.drop (k + 2)) with
  | none => rfl
  | some t => exact linesA_bad t hr
theorem UStand.more (h : UStand l acc f k) (hc : l[k]? = some 13) (hd : l[k + 1]? = some 10) (hr : cont ((l.drop f).take (k - f)) = true) (ha : acc ≠ []) : UStand l (addLast acc ((l.drop f).take (k - f)).tail) (k + 2) (k + 2) := by
  obtain ⟨hk, _⟩ := List.getElem?_eq_some_iff.1 hd
  refine ⟨Nat.le_refl _, hk, by rw [addLast_len ha]; have := h.2.2.1; have := h.1; omega, ?_⟩
  rw [h.ended hc hd, Nat.sub_self, List.take_zero]
  cases rowsA [] (l.drop (k + 2)) with
  | none => rfl
  | some t => exact linesA_more t hr ha
theorem UStand.new (h : UStand l acc f k) (hc : l[k]? = some 13) (hd : l[k + 1]? = some 10) (hr : cont ((l.drop f).take (k - f)) = false) : UStand l (acc ++ [(l.drop f).take (k - f)]) (k + 2) (k + 2) := by
  obtain ⟨hk, _⟩ := List.getElem?_eq_some_iff.1 hd
  refine ⟨Nat.le_refl _, hk, by rw [List.length_append, List.length_singleton]; have := h.2.2.1; have := h.1; omega, ?_⟩
  rw [h.ended hc hd, Nat.sub_self, List.take_zero]
  cases rowsA [] (l.drop (k + 2)) with
  | none => rfl
  | some t => exact linesA_new acc t hr
end
/-- no line that is told is longer than what was passed -/
def Short (acc : List (List UInt8)) (f : Nat) : Prop := ∀ x ∈ acc, x.length ≤ f
theorem Short.nil (f : Nat) : Short [] f := fun x hx => by cases hx
theorem Short.new {acc : List (List UInt8)} {f k : Nat} {x : List UInt8} (h : Short acc f) (hx : x.length ≤ k) (hk : f ≤ k) : Short (acc ++ [x]) k := fun y hy => by
  rw [List.mem_append, List.mem_singleton] at hy
  rcases hy with hy | rfl
  · have := h y hy; omega
  · exact hx
theorem Short.more {a : List (List UInt8)} {f k : Nat} {x y : List UInt8} (h : Short (a ++ [y]) f) (hx : f + x.length ≤ k) (hk : f ≤ k) : Short (addLast (a ++ [y]) x) k := by
  rw [addLast_snoc]
  refine Short.new (f := f) (fun z hz => h z (by simp [hz])) ?_ hk
  have := h y (by simp)
  rw [List.length_append]; omega
theorem sts_set (a : List (List UInt8)) (y x : List UInt8) (p : ByteArray) (hp : p.data.toList = y ++ x) : (sts (a ++ [y])).set a.length p = sts (addLast (a ++ [y]) x) := by
  rw [addLast_snoc, sts_snoc, sts_snoc]
  have e : a.length = (sts a).length := (sts_len a).symm
  rw [e, List.set_append_right _ _ (Nat.le_refl _), Nat.sub_self]
  exact congrArg _ (congrArg (fun x => [x]) (by rw [← hp]))
/-- an element of a row that the call has made, read and written -/
theorem OwnT.at {B : Nat} {w : World} {g cap n : Nat} {x : List ByteArray} (h : OwnT B w (.slice (some ⟨g, 0, none⟩) n cap) x) {j : Nat} {b : ByteArray} (hb : x[j]? = some b) : w.cell? ⟨g, j, none⟩ = some (.string b) ∧ w.frozen? ⟨g, j, none⟩ = false ∧ B ≤ g ∧ g < w.heap.size ∧ n = x.length := by
  have h' : w.ownsRow B 9 1 (.slice (some ⟨g, 0, none⟩) n cap) x.length (strs x) := h
  have hn : n = x.length := by
    rcases h'.2 with ⟨e, _⟩ | ⟨_, _, _, e, _⟩
    · simp at e
    · simp at e; exact e.2.1
  subst hn
  have hlt := h.low (j := g) rfl
  exact ⟨by rw [h'.cellAt j (by have := (List.getElem?_eq_some_iff.1 hb).1; omega)]; exact strs_get hb, h'.frozenAt j, hlt.1, hlt.2, rfl⟩
theorem strs_set (x : List ByteArray) (i : Nat) (b : ByteArray) : (strs x).set i (.string b) = strs (x.set i b) := by unfold strs; rw [List.map_set]
theorem OwnT.put {B : Nat} {w : World} {g cap n : Nat} {x : List ByteArray} (h : OwnT B w (.slice (some ⟨g, 0, none⟩) n cap) x) (j : Nat) (b : ByteArray) : OwnT B (w.setCell ⟨g, j, none⟩ (.string b)) (.slice (some ⟨g, 0, none⟩) n cap) (x.set j b) := by
  have h' : w.ownsRow B 9 1 (.slice (some ⟨g, 0, none⟩) n cap) x.length (strs x) := h
  have hn : n = x.length := by
    rcases h'.2 with ⟨e, _⟩ | ⟨_, _, _, e, _⟩
    · simp at e
    · simp at e; exact e.2.1
  subst hn
  have := (h'.stored j (.string b)).1
  rw [strs_set] at this
  unfold OwnT
  rw [List.length_set]
  exact this
theorem OwnT.some {B : Nat} {w : World} {v : Value} {x : List ByteArray} (h : OwnT B w v x) (hx : x ≠ []) : ∃ g cap, v = .slice (some ⟨g, 0, none⟩) x.length cap := by
  rcases h.2 with ⟨rfl, h0⟩ | ⟨g, cap, cur, rfl, _⟩
  · exact absurd (List.eq_nil_of_length_eq_zero h0) hx
  · exact ⟨_, _, rfl⟩
theorem cont_cases (l : List UInt8) : (l = [] ∧ cont l = false) ∨ ∃ c t, l = c :: t ∧ ((c = 32 ∧ cont l = true) ∨ (c = 9 ∧ cont l = true) ∨ (c ≠ 32 ∧ c ≠ 9 ∧ cont l = false)) := by
  cases l with
  | nil => exact .inl ⟨rfl, rfl⟩
  | cons c t =>
    refine .inr ⟨c, t, rfl, ?_⟩
    by_cases h1 : c = 32
    · subst h1; exact .inl ⟨rfl, rfl⟩
    by_cases h2 : c = 9
    · subst h2; exact .inr (.inl ⟨rfl, rfl⟩)
    · exact .inr (.inr ⟨h1, h2, by unfold cont; simp [h1, h2]⟩)

set_option maxHeartbeats 4000000 in
set_option maxRecDepth 100000 in
theorem runfold_any (s : ByteArray) (w : World) (hs : s.size < 1000000000000) :
    Calls Tryz.prog 18 #[.string s] w (Unfolded w.heap.size w s.data.toList) := by
  have hsz := Lib.hid (Lib.size_eq s)
  by_cases hbig : 20000 < s.size
  · have HF := Lib.hid (unfA_big (l := s.data.toList) (by rw [← hsz.out]; exact hbig))
    go_enter Tryz.func18, Tryz.ntmps18
    go_wp2_with fail
    go_ret2
    exact Unfolded.err HF.out (Below.refl _ _)
  have hnb : ¬ 20000 < s.data.toList.length := by rw [← hsz.out]; exact hbig
  have HV := Lib.hid (rvalid_any s w (by omega))
  cases hv : valid s.data.toList with
  | false =>
    rw [hv] at HV
    have HF := Lib.hid (unfA_utf hnb hv)
    clear hv hnb
    go_enter Tryz.func18, Tryz.ntmps18
    go_wp2_with (go_at_call 41; refine HV.out.mono ?_; rintro e w1 ⟨rfl, rfl⟩)
    go_ret2
    exact Unfolded.err HF.out (Below.refl _ _)
  | true =>
    rw [hv] at HV
    have HNone := Lib.hid (fun h => unfA_line hnb hv h)
    have HSome := Lib.hid (fun m h => unfA_ok (m := m) hnb hv h)
    clear hv hnb
    go_enter Tryz.func18, Tryz.ntmps18
    go_wp2_with (go_at_call 41; refine HV.out.mono ?_; rintro e w1 ⟨rfl, rfl⟩)
    go_loopw [4, 5, 6] (fun lv fv at_ wr => ∃ (f k : Nat) (acc : List (List UInt8)) (v : Value), lv = v ∧ fv = .int .i64 f ∧ at_ = .int .i64 k ∧ f ≤ k ∧ k ≤ s.size ∧ Hid (UStand s.data.toList acc f k) ∧ Hid (Short acc f) ∧ Hid (OwnT w.heap.size wr v (sts acc)) ∧ Below w.heap.size w wr) (fun _ _ at_ _ => s.size - (intOf at_).toNat)
    case atStart => exact ⟨0, 0, [], _, rfl, rfl, rfl, Nat.le_refl _, Nat.zero_le _, UStand.start _, Short.nil _, OwnT.nil _ _, Below.refl _ _⟩
    case round =>
      obtain ⟨f, k, acc, lv, hlv, rfl, rfl, hfk, hk, hst, hsh, hown, hb⟩ := hrel
      have hlv2 := hlv.symm
      subst hlv2
      have hsw := hb.size
      have HAL : Hid ((sts acc).length ≤ 1000000000000) := by unfold Hid; rw [sts_len]; have := hst.out.2.2.1; omega
      by_cases hlt : k < s.size
      · have hck := Lib.data_getElem? s k hlt
        obtain ⟨z, hz⟩ : ∃ z : Int, ((s[k]'hlt).toNat : Int) = z := ⟨_, rfl⟩
        by_cases h10 : (s[k]'hlt) = 10
        · obtain rfl : z = 10 := by rw [← hz, h10]; rfl
          have HF := Lib.hid (HNone.out (hst.out.ten (by rw [hck, h10])))
          clear hck h10
          go_wp2_with fail
          go_ret2
          exact Unfolded.err HF.out hb
        have f10 : (z == 10) = false := byte_ne hz h10
        by_cases h13 : (s[k]'hlt) = 13
        · obtain rfl : z = 13 := by rw [← hz, h13]; rfl
          have hc13 : s.data.toList[k]? = some 13 := by rw [hck, h13]
          by_cases hl2 : k + 1 < s.size
          · have hdk := Lib.data_getElem? s (k + 1) hl2
            obtain ⟨y, hy⟩ : ∃ y : Int, ((s[k + 1]'hl2).toNat : Int) = y := ⟨_, rfl⟩
            by_cases hd10 : (s[k + 1]'hl2) = 10
            · obtain rfl : y = 10 := by rw [← hy, hd10]; rfl
              have hd : s.data.toList[k + 1]? = some 10 := by rw [hdk, hd10]
              obtain ⟨R, hR⟩ : ∃ R, s.extract f k = R := ⟨_, rfl⟩
              have hRl : R.data.toList = (s.data.toList.drop f).take (k - f) := by rw [← hR, mid_cut]
              have HRT := Lib.hid hRl
              have HE := Lib.hid (fun (h1 : cont ((s.data.toList.drop f).take (k - f)) = true) (h2 : acc = []) => HNone.out (UStand.early (h2 ▸ hst.out) hc13 hd h1))
              have HM := Lib.hid (fun h1 h2 => hst.out.more hc13 hd h1 h2)
              have HN := Lib.hid (fun h => hst.out.new hc13 hd h)
              rw [← hRl] at HE HM HN
              clear hck h10 h13 hc13 hdk hd10 hd hRl
              rcases cont_cases R.data.toList with ⟨h1, h2⟩ | ⟨c, t, h1, h2⟩
              · have hS := Lib.hid (HN.out h2)
                have hRe : R.toList.isEmpty = true := by rw [Lib.toList_data, h1]; rfl
                have HT2 : Hid (sts (acc ++ [R.data.toList]) = sts acc ++ [R]) := sts_snoc _ _
                have HSH := Lib.hid (hsh.out.new (x := R.data.toList) (k := k + 2) (by rw [HRT.out, List.length_take]; omega) (by omega))
                clear h1 h2
                go_wp2_with (at_builtin; refine push_str rfl _ _ rfl w.heap.size lv (sts acc) R wr rfl hown.out rfl HAL.out hsw ?_)
                intro v' w2 h1 h2
                have R1 := Lib.hid h1
                clear h1
                go_wp2_with fail
                go_roundw
                case rel => exact ⟨k + 2, k + 2, _, _, rfl, by go_num, by go_num, Nat.le_refl _, by omega, hS, HSH, by unfold Hid; rw [HT2.out]; exact R1.out, hb.trans h2⟩
                case measure => simp [intOf]; omega
              · have hR0 : 0 < R.size := by rw [Lib.size_eq, h1]; simp
                have hRe : R.toList.isEmpty = false := by rw [Lib.toList_data, h1]; rfl
                have hRc : (R[0]'hR0) = c := by
                  have := Lib.data_getElem? R 0 hR0
                  rw [h1] at this
                  exact (Option.some.inj this).symm
                obtain ⟨x, hx⟩ : ∃ x : Int, ((R[0]'hR0).toNat : Int) = x := ⟨_, rfl⟩
                rcases h2 with h2 | h2 | ⟨h2, h3, h4⟩
                case' inr.inr =>
                  have hS := Lib.hid (HN.out h4)
                  have HT2 : Hid (sts (acc ++ [R.data.toList]) = sts acc ++ [R]) := sts_snoc _ _
                  have HSH := Lib.hid (hsh.out.new (x := R.data.toList) (k := k + 2) (by rw [HRT.out, List.length_take]; omega) (by omega))
                  have f1 : (x == 32) = false := byte_ne (d := 32) hx (by rw [hRc]; exact h2)
                  have f2 : (x == 9) = false := byte_ne (d := 9) hx (by rw [hRc]; exact h3)
                  clear h1 h2 h3 h4 hRc
                  go_wp2_with (at_builtin; refine push_str rfl _ _ rfl w.heap.size lv (sts acc) R wr rfl hown.out rfl HAL.out hsw ?_)
                  intro v' w2 h1 h2
                  have R1 := Lib.hid h1
                  clear h1
                  go_wp2_with fail
                  go_roundw
                  case rel => exact ⟨k + 2, k + 2, _, _, rfl, by go_num, by go_num, Nat.le_refl _, by omega, hS, HSH, by unfold Hid; rw [HT2.out]; exact R1.out, hb.trans h2⟩
                  case measure => simp [intOf]; omega
                all_goals
                  obtain ⟨hcc, hcont⟩ := h2
                  have hxc := hx
                  rw [hRc, hcc] at hxc
                  simp only [UInt8.reduceToNat] at hxc
                  subst hxc
                  have hRt : Hid ((R.extract 1 R.size).data.toList = R.data.toList.tail) := by unfold Hid; rw [Lib.extract_to_end, List.drop_one]
                  by_cases hacc : acc = []
                  · have HF := Lib.hid (HE.out hcont hacc)
                    obtain ⟨A, cap, hlv⟩ := hown.out.slice
                    rw [hacc] at hlv
                    clear h1 hcc hcont hacc hRc
                    simp only [show (sts ([] : List (List UInt8))).length = 0 from rfl] at hlv
                    subst hlv
                    go_wp2_with fail
                    go_ret2
                    exact Unfolded.err HF.out hb
                  · have hS := Lib.hid (HM.out hcont hacc)
                    obtain ⟨a, y, rfl⟩ : ∃ a y, acc = a ++ [y] := ⟨acc.dropLast, acc.getLast hacc, (List.dropLast_concat_getLast hacc).symm⟩
                    obtain ⟨g, cap, hlv⟩ := hown.out.some (by simp [sts])
                    have HSH := Lib.hid (hsh.out.more (x := R.data.toList.tail) (k := k + 2) (by rw [List.length_tail, HRT.out, List.length_take]; omega) (by omega))
                    have hys : y.length ≤ f := hsh.out y (by simp)
                    obtain ⟨m, hm⟩ : ∃ m, a.length = m := ⟨_, rfl⟩
                    have hn : (sts (a ++ [y])).length = m + 1 := by rw [sts_len, ← hm]; simp
                    have hy1 : (sts (a ++ [y]))[m]? = some ⟨y.toArray⟩ := by rw [sts_snoc, ← hm, ← sts_len a]; simp
                    rw [hn] at hlv
                    subst hlv
                    obtain ⟨c1, z1, hB, hg, -⟩ := hown.out.at hy1
                    have hmk : m ≤ k := by have := hst.out.2.2.1; rw [List.length_append, hm, List.length_singleton] at this; omega
                    have hyz : (⟨y.toArray⟩ : ByteArray).size ≤ f := by rw [Lib.size_eq]; exact hys
                    have hset : Hid (∀ P : ByteArray, P.data.toList = y ++ R.data.toList.tail → (sts (a ++ [y])).set m P = sts (addLast (a ++ [y]) R.data.toList.tail)) := fun P hP => by rw [← hm]; exact sts_set a y _ P hP
                    obtain ⟨Y, hY⟩ : ∃ Y : ByteArray, (⟨y.toArray⟩ : ByteArray) = Y := ⟨_, rfl⟩
                    have hYl : Hid (Y.data.toList = y) := by unfold Hid; rw [← hY]
                    rw [hY] at c1 hyz
                    have hRsz : R.size ≤ s.size := by rw [← hR, ByteArray.size_extract]; omega
                    clear h1 hcc hcont hacc hRc hy1 hY hm hn hys
                    go_wp2_with fail
                    go_region
                    all_goals
                      go_wp2_with fail
                      go_roundw
                      case rel => exact ⟨k + 2, k + 2, _, _, rfl, by go_num, by go_num, Nat.le_refl _, by omega, hS, HSH, by unfold Hid; rw [← hset.out (Y ++ R.extract 1 R.size) (by rw [cat_list, hYl.out, hRt.out])]; exact OwnT.put (w := wr.drew) hown.out m _, hb.drew.setCell (p := ⟨g, m, none⟩) hB _⟩
                      case measure => simp [intOf]; omega
            · have HF := Lib.hid (HNone.out (hst.out.odd hc13 hdk hd10))
              have f11 : (y != 10) = true := by have := byte_ne hy hd10; have h0 : (y == 10) = false := this; simp only [bne, h0, Bool.not_false]
              clear hck h10 h13 hc13 hdk hd10
              go_wp2_with fail
              go_ret2
              exact Unfolded.err HF.out hb
          · have HF := Lib.hid (HNone.out (hst.out.last hc13 (by rw [← hsz.out]; omega)))
            clear hck h10 h13 hc13
            go_wp2_with fail
            go_ret2
            exact Unfolded.err HF.out hb
        · have hS := Lib.hid (hst.out.on hck h10 h13)
          have f0 : (z == 13) = false := byte_ne hz h13
          have f13 : (z != 13) = true := by simp only [bne, f0, Bool.not_false]
          clear hck h10 h13
          go_wp2_with fail
          go_roundw
          case rel => exact ⟨f, k + 1, acc, _, rfl, rfl, by go_num, by omega, by omega, hS, hsh, hown, hb⟩
          case measure => simp [intOf]; omega
      · have hst2 := hst.out.stop (by rw [← hsz.out]; omega)
        rw [← hsz.out] at hst2
        by_cases hf : f < s.size
        · rw [if_pos hf] at hst2
          have HF := Lib.hid (HNone.out hst2)
          clear hst2
          go_wp2_with fail
          go_ret2
          exact Unfolded.err HF.out hb
        · rw [if_neg hf] at hst2
          have HF := Lib.hid (HSome.out _ hst2)
          clear hst2
          go_wp2_with fail
          go_ret2
          exact Unfolded.good HF.out hown.out.reads hb
end Go.Proofs.YtphopnfnjnieaaaGreatDoor
