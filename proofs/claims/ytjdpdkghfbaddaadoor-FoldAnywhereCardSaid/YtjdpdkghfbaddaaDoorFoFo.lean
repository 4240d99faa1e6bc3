/-
  fold.Fold: what it answers, at every list of strings.
-/
import Derived.Test.YtjdpdkghfbaddaaDoorFoRw
namespace Go.Proofs.YtjdpdkghfbaddaaDoor
open Go.RowKit Tx

theorem OwnT.cap {B : Nat} {w : World} {g cap n : Nat} {x : List ByteArray} (h : OwnT B w (.slice (Option.some ⟨g, 0, none⟩) n cap) x) : x.length ≤ cap := by
  rcases h.2 with ⟨e, _⟩ | ⟨g', cap', cur, e, _, _, h4, _⟩
  · simp at e
  · simp at e
    rw [e.2.2]
    exact h4
theorem rowsL_ne (l : List UInt8) : sts (rowsL l) ≠ [] := by
  intro h
  have := congrArg List.length h
  rw [sts_len, rowsL_ivs, List.length_map, List.length_nil] at this
  have h2 := (ivs_len (brk 0 (chs l)) 0 0).1
  omega
theorem rowsL_join (l : List UInt8) : Lib.join (rowsL l) [13, 10, 32] ++ [13, 10] = foldOne l := fold_join l
theorem rowsL_len (l : List UInt8) : (rowsL l).length ≤ l.length + 1 := by
  rw [rowsL_ivs, List.length_map]
  have h1 := (ivs_len (brk 0 (chs l)) 0 0).2
  have h2 := chs_len l
  rw [brk_len] at h1
  omega
theorem bts_sts (l : List (List UInt8)) : (sts l).map (·.data.toList) = l := by
  unfold sts
  rw [List.map_map]
  conv => rhs; rw [← List.map_id l]
  rfl

set_option maxHeartbeats 4000000 in
set_option maxRecDepth 100000 in
theorem fold_any (v : Value) (xs : List ByteArray) (w : World) (hT : Tabs w) (hx : ReadT w.heap.size w v xs) (hb : bulk xs < 1000000) :
    Calls Tryd.prog 14 #[v] w fun e w' => e = .returned (.string ⟨(foldL (bts xs)).toArray⟩) ∧ Below w.heap.size w w' := by
  obtain ⟨A, cap, rfl, hx2⟩ := hx
  have hlen := bulk_len xs
  have B0 := Bld.start w
  have D0 : Below w.heap.size w (w.alloc (.cells #[.pointer none, .slice none 0 0] 51)) := (Below.refl _ _).alloc (Nat.le_refl _) _
  have HT := Lib.hid (fun (W : World) (h : Below w.heap.size w W) => hT.below h)
  have HR := Lib.hid (fun (s : ByteArray) (W : World) h1 h2 => rowsOf_any s W h1 h2)
  have HJ := Lib.hid (fun bk o c xs W h1 h2 h3 h4 h5 => Tryd.strings_Join bk o c xs ⟨#[13, 10, 32]⟩ W h1 h2 h3 h4 h5)
  obtain ⟨b, hb'⟩ : ∃ b, w.heap.size = b := ⟨_, rfl⟩
  rw [hb'] at B0 D0 HT hx2
  have HB := Lib.hid hb'
  have HX := Lib.hid hx2
  clear hx2
  go_enter Tryd.func14, Tryd.ntmps14
  go_wp2_with fail
  go_loopw [8] (fun at_ wr => ∃ (k : Nat), k ≤ xs.length ∧ at_ = .int .i64 k ∧ Bld b (b + 1) (foldL (bts (xs.take k))) wr ∧ Below b w wr) (fun at_ _ => xs.length - (intOf at_).toNat)
  case atStart => exact ⟨0, Nat.zero_le _, rfl, B0, D0⟩
  case round =>
    obtain ⟨k, hk, rfl, hbld, hbw⟩ := hrel
    have hsw := hbw.size
    have hbC := hbld.lt
    by_cases hlt : k < xs.length
    · obtain ⟨ad, rfl, hlb, hc⟩ := HX.out (by omega)
      obtain ⟨p, hp⟩ : ∃ p, xs[k]? = some p := ⟨_, List.getElem?_eq_getElem hlt⟩
      have c0 := hc k p hp
      rw [← hbw.cell (p := ad.add k) (by rw [addBlock]; exact hlb)] at c0
      have hps := bulk_one hp
      have hst := Lib.hid (foldL_take hp)
      have HRp := Lib.hid (HR.out p wr (HT.out wr hbw) (by omega))
      have hfo := foldOne_size p.data.toList
      rw [← Lib.size_eq] at hfo
      have hrj := rowsL_join p.data.toList
      have hrn := rowsL_ne p.data.toList
      have hrl := rowsL_len p.data.toList
      rw [← Lib.size_eq] at hrl
      have hbt := bts_sts (rowsL p.data.toList)
      have hjl : (Lib.join (rowsL p.data.toList) [13, 10, 32]).length ≤ 4 * p.size := by
        have := congrArg List.length hrj
        rw [List.length_append] at this
        simp at this
        omega
      have hJx := HJ.out
      obtain ⟨R, hR⟩ : ∃ R, rowsL p.data.toList = R := ⟨_, rfl⟩
      rw [hR] at HRp hrj hrn hrl hbt hjl
      obtain ⟨J, hJ⟩ : ∃ J, Lib.join R [13, 10, 32] = J := ⟨_, rfl⟩
      have hol : (foldL (bts (xs.take k))).length ≤ 4000000 := by
        have h1 := foldL_size (xs.take k)
        have h2 := bulk_take xs k
        omega
      obtain ⟨out, hout⟩ : ∃ out, foldL (bts (xs.take k)) = out := ⟨_, rfl⟩
      rw [hout] at hbld hst hol
      have hJs : (⟨J.toArray⟩ : ByteArray).size ≤ 4 * p.size := by rw [Lib.size_eq, ← hJ]; exact hjl
      have hJl : J.length ≤ 140737488355328 := by rw [← hJ]; omega
      have HW1 := Lib.hid (fun (W : World) h => bld_string b (b + 1) out ⟨J.toArray⟩ W h (by omega))
      have HW2 := Lib.hid (fun (W : World) h => bld_string b (b + 1) (out ++ J) ⟨#[13, 10]⟩ W h (by rw [List.length_append, show J.length = (⟨J.toArray⟩ : ByteArray).size from (Lib.size_eq ⟨J.toArray⟩).symm, show (⟨#[13, 10]⟩ : ByteArray).size = 2 from rfl]; omega))
      have hnx : Hid (foldL (bts (xs.take (k + 1))) = out ++ J ++ (⟨#[13, 10]⟩ : ByteArray).data.toList) := by unfold Hid; rw [hst.out, ← hrj, hJ, List.append_assoc]
      have HRn := Lib.hid hrn
      have HBT := Lib.hid hbt
      have HJe := Lib.hid hJ
      clear hc hp hst hfo hrj hrn hbt hjl hR hJ hout hJs hJx
      go_wp2_with fail
      refine HRp.out.mono ?_
      rintro e w1 ⟨v1, rfl, hown1, b1⟩
      obtain ⟨g, cap1, rfl⟩ := hown1.some HRn.out
      have hs1 := b1.size
      have hgl := hown1.low (j := g) rfl
      have hJx := HJ.out g 0 cap1 (sts R) w1 (fun j y hy => by rw [Nat.zero_add]; exact (hown1.at hy).1) hgl.2 (by rw [sts_len]; omega) (OwnT.cap hown1) (by rw [HBT.out, HJe.out]; exact hJl)
      rw [HBT.out, HJe.out] at hJx
      have HJx := Lib.hid hJx
      have bl1 : Bld b (b + 1) out w1 := hbld.below b1
      have d1 : Below b w w1 := hbw.trans (b1.mono (by omega))
      clear hJx hbld hbw hown1 b1
      go_wp2_with fail
      refine HJx.out.mono ?_
      rintro e w2 ⟨rfl, b2⟩
      have bl2 : Bld b (b + 1) out w2 := bl1.below b2
      have d2 : Below b w w2 := d1.trans (b2.mono (by omega))
      clear bl1 d1 b2
      go_wp2_with fail
      refine (HW1.out _ bl2).mono ?_
      rintro e w3 ⟨rfl, bl3, t3⟩
      go_wp2_with fail
      refine (HW2.out _ bl3).mono ?_
      rintro e w4 ⟨rfl, bl4, t4⟩
      go_wp2_with fail
      go_roundw
      case rel => exact ⟨k + 1, by omega, by go_num, by rw [hnx.out]; exact bl4, (d2.trans t3.below).trans t4.below⟩
      case measure => simp [intOf]; omega
    · have hall : xs.take k = xs := List.take_of_length_le (by omega)
      rw [hall] at hbld
      have HS := Lib.hid (bld_String b (b + 1) _ wr hbld)
      clear hall
      go_wp2_with fail
      refine HS.out.mono ?_
      rintro e w5 ⟨rfl, b5⟩
      go_wp2_with fail
      go_ret
      exact ⟨rfl, by rw [HB.out]; exact hbw.trans b5⟩
end Go.Proofs.YtjdpdkghfbaddaaDoor
