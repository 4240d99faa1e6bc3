/-
  csv.Write: what it answers, at every list of rows that is not too much.
-/
import Derived.Test.YtakfcfjamgaekaaDoorCsvZ
namespace Go.Proofs.YtakfcfjamgaekaaDoor
open Go.RowKit Tx

/-- rows as bytes -/
def btss (m : List (List ByteArray)) : List (List (List UInt8)) := m.map bts
theorem heft_cons (x : List (List UInt8)) (m : List (List (List UInt8))) : heft (x :: m) = 3 + (x.map fun x => 3 + x.length).sum + heft m := by simp [heft]
theorem heft_take : ∀ (m : List (List (List UInt8))) (k : Nat), heft (m.take k) ≤ heft m
  | [], k => by simp
  | x :: m, 0 => by simp [heft]
  | x :: m, k + 1 => by
    have := heft_take m k
    rw [List.take_succ_cons, heft_cons, heft_cons]
    omega
theorem heft_mem {m : List (List (List UInt8))} {x : List (List UInt8)} (h : x ∈ m) : 3 + (x.map fun x => 3 + x.length).sum ≤ heft m := by
  induction m with
  | nil => cases h
  | cons a t ih =>
    rw [heft_cons]
    rcases List.mem_cons.1 h with rfl | h
    · omega
    · have := ih h; omega
theorem heft_len : ∀ m : List (List (List UInt8)), 3 * m.length ≤ heft m
  | [] => by simp
  | x :: m => by
    have := heft_len m
    rw [heft_cons, List.length_cons]
    omega
theorem writeL_take {m : List (List ByteArray)} {p : List ByteArray} {k : Nat} (h : m[k]? = some p) : writeL (btss (m.take (k + 1))) = writeL (btss (m.take k)) ++ rowW (bts p) := by
  unfold btss
  rw [List.take_add_one, h, Option.toList_some, List.map_append, List.map_singleton, writeL_snoc]
theorem bts_ne {p : List ByteArray} (h : p ≠ []) : bts p ≠ [] := by
  intro e
  have := congrArg List.length e
  rw [bts_len] at this
  exact h (List.length_eq_zero_iff.1 this)

set_option maxHeartbeats 4000000 in
set_option maxRecDepth 100000 in
theorem write_any (B : Nat) (v : Value) (m : List (List ByteArray)) (w : World) (hM : MaxL w) (hx : ReadTT B w v m) (hB : B ≤ w.heap.size) (hb : heft (btss m) ≤ 1000000) :
    Calls Tryd.prog 10 #[v] w fun e w' => e = .returned (.string ⟨(writeL (btss m)).toArray⟩) ∧ Below w.heap.size w w' := by
  obtain ⟨A, cap, rfl, hx2⟩ := hx
  have hlen := heft_len (btss m)
  have hml : (btss m).length = m.length := by simp [btss]
  rw [hml] at hlen
  have B0 := Bld.start w
  have D0 : Below w.heap.size w (w.alloc (.cells #[.pointer none, .slice none 0 0] 47)) := (Below.refl _ _).alloc (Nat.le_refl _) _
  have hMB : 2 < w.heap.size := by obtain ⟨m, hm⟩ := hM; exact World.block_lt_of_cell? _ _ hm
  have HM := Lib.hid (fun (W : World) (hb : Below w.heap.size w W) => hM.belowB hb hMB)
  have HWr := Lib.hid (fun (v : Value) (xs : List ByteArray) (W : World) h1 h2 h3 => written_any v xs W h1 h2 h3)
  have HJ := Lib.hid (fun bk o c xs W h1 h2 h3 h4 h5 => Tryd.strings_Join bk o c xs ⟨#[44]⟩ W h1 h2 h3 h4 h5)
  have HSz := Lib.hid (fun k => Nat.le_trans (writeL_len ((btss m).take k)) (Nat.mul_le_mul (Nat.le_refl 2) (heft_take (btss m) k)))
  have HMem := Lib.hid (fun (p : List ByteArray) (h : p ∈ m) => heft_mem (m := btss m) (x := bts p) (List.mem_map.2 ⟨p, h, rfl⟩))
  obtain ⟨b, hb'⟩ : ∃ b, w.heap.size = b := ⟨_, rfl⟩
  rw [hb'] at B0 D0 HM hB
  have HBb := Lib.hid hb'
  have HX := Lib.hid hx2
  clear hx2 hMB hM hml
  go_enter Tryd.func10, Tryd.ntmps10
  go_wp2_with fail
  go_loopw [8] (fun at_ wr => ∃ (k : Nat), k ≤ m.length ∧ at_ = .int .i64 k ∧ Bld b (b + 1) (writeL (btss (m.take k))) wr ∧ Below b w wr) (fun at_ _ => m.length - (intOf at_).toNat)
  case atStart => exact ⟨0, Nat.zero_le _, rfl, B0, D0⟩
  case round =>
    obtain ⟨k, hk, rfl, hbld, hbw⟩ := hrel
    have hsw := hbw.size
    have hbC := hbld.lt
    by_cases hlt : k < m.length
    · obtain ⟨ad, rfl, hlb, hc⟩ := HX.out (by omega)
      obtain ⟨p, hp⟩ : ∃ p, m[k]? = some p := ⟨_, List.getElem?_eq_getElem hlt⟩
      obtain ⟨pv, c0, rp⟩ := hc k p hp
      rw [← hbw.cell (p := ad.add k) (by rw [addBlock]; omega)] at c0
      have rp2 := rp.below (hbw.mono hB)
      have hpm := List.mem_of_getElem? hp
      have hph := HMem.out p hpm
      have hst := Lib.hid (writeL_take hp)
      have hM2 := HM.out wr hbw
      obtain ⟨pA, pcap, rfl, hpA⟩ := rp2
      by_cases hp0 : p = []
      · subst hp0
        have hnx : Hid (writeL (btss (m.take (k + 1))) = writeL (btss (m.take k))) := by unfold Hid; rw [hst.out]; simp [bts, rowW]
        clear hc hp rp hst hpm hph hM2 hpA
        go_wp2_with fail
        go_roundw
        case rel => exact ⟨k + 1, by omega, by go_num, by rw [hnx.out]; exact hbld, hbw⟩
        case measure => simp [intOf]; omega
      · have hpl : 0 < p.length := List.length_pos_iff.2 hp0
        have hne : (((p.length : Nat) : Int) == 0) = false := by simp; omega
        have hbn := bts_ne hp0
        have HRp := HWr.out (.slice pA p.length pcap) p wr hM2 (ReadT.more ⟨pA, pcap, rfl, hpA⟩ (by omega)) (by omega)
        have hol : (writeL (btss (m.take k))).length ≤ 2000000 := by
          have h1 := HSz.out k
          rw [show (btss m).take k = btss (m.take k) by simp [btss, List.map_take]] at h1
          omega
        have hjl := joinF_len (decide ((bts p).length = 1)) (bts p)
        have hs3 := sum3 (bts p)
        obtain ⟨R, hR⟩ : ∃ R, (bts p).map (fld (decide ((bts p).length = 1))) = R := ⟨_, rfl⟩
        have hrl : R.length = p.length := by rw [← hR, List.length_map, bts_len]
        have hrw : rowW (bts p) = Lib.join R [44] ++ [13, 10] := by rw [rowW_some hbn, hR]
        rw [hR] at HRp hjl
        have hRn : sts R ≠ [] := by
          intro h0
          have := congrArg List.length h0
          rw [sts_len, hrl] at this
          simp at this
          exact hp0 this
        obtain ⟨J, hJ⟩ : ∃ J, Lib.join R [44] = J := ⟨_, rfl⟩
        rw [hJ] at hrw hjl
        obtain ⟨out, hout⟩ : ∃ out, writeL (btss (m.take k)) = out := ⟨_, rfl⟩
        rw [hout] at hbld hst hol
        have hJs : (⟨J.toArray⟩ : ByteArray).size = J.length := Lib.size_eq _
        have HW1 := Lib.hid (fun (W : World) h => bld_string b (b + 1) out ⟨J.toArray⟩ W h (by omega))
        have HW2 := Lib.hid (fun (W : World) h => bld_string b (b + 1) (out ++ J) ⟨#[13, 10]⟩ W h (by rw [List.length_append, show (⟨#[13, 10]⟩ : ByteArray).size = 2 from rfl]; omega))
        have hnx : Hid (writeL (btss (m.take (k + 1))) = out ++ J ++ (⟨#[13, 10]⟩ : ByteArray).data.toList) := by unfold Hid; rw [hst.out, hrw, List.append_assoc]
        have HRn := Lib.hid hRn
        have HBT := Lib.hid (bts_sts R)
        have HJe := Lib.hid hJ
        have HRp2 := Lib.hid HRp
        have HRl := Lib.hid hrl
        have hJl : J.length ≤ 140737488355328 := by omega
        have hpl2 : p.length ≤ 1000000 := by rw [← bts_len]; omega
        clear hc hp rp hst hpm hph hM2 hpA hbn HRp hR hrl hrw hRn hJ hout hJs hs3 hjl
        go_wp2_with fail
        refine HRp2.out.mono ?_
        rintro e w1 ⟨v1, rfl, hown1, b1⟩
        obtain ⟨g, cap1, rfl⟩ := hown1.some HRn.out
        have hs1 := b1.size
        have hgl := hown1.low (j := g) rfl
        have hJx := HJ.out g 0 cap1 (sts R) w1 (fun j y hy => by rw [Nat.zero_add]; exact (hown1.at hy).1) hgl.2 (by rw [sts_len]; have := HRl.out; omega) hown1.cap.1 (by rw [show (sts R).map (·.data.toList) = R from HBT.out, HJe.out]; exact hJl)
        rw [show (sts R).map (·.data.toList) = R from HBT.out, HJe.out] at hJx
        have HJx := Lib.hid hJx
        have bl1 : Bld b (b + 1) out w1 := hbld.below b1
        have d1 : Below b w w1 := hbw.trans (b1.mono (by omega))
        clear hJx hbld hbw hown1 b1
        go_wp2_with fail
        refine HJx.out.mono ?_
        rintro e w2 ⟨rfl, b2⟩
        have bl2 : Bld b (b + 1) out w2 := bl1.below b2
        have d2 : Below b w w2 := d1.trans (b2.mono (by omega))
        clear bl1 d1 b2
        go_wp2_with fail
        refine (HW1.out _ bl2).mono ?_
        rintro e w3 ⟨rfl, bl3, t3⟩
        go_wp2_with fail
        refine (HW2.out _ bl3).mono ?_
        rintro e w4 ⟨rfl, bl4, t4⟩
        go_wp2_with fail
        go_roundw
        case rel => exact ⟨k + 1, by omega, by go_num, by rw [hnx.out]; exact bl4, (d2.trans t3.below).trans t4.below⟩
        case measure => simp [intOf]; omega
    · have hall : m.take k = m := List.take_of_length_le (by omega)
      rw [hall] at hbld
      have HS := Lib.hid (bld_String b (b + 1) _ wr hbld)
      clear hall
      go_wp2_with fail
      refine HS.out.mono ?_
      rintro e w5 ⟨rfl, b5⟩
      go_wp2_with fail
      go_ret
      exact ⟨rfl, by rw [HBb.out]; exact hbw.trans b5⟩
end Go.Proofs.YtakfcfjamgaekaaDoor
