/-
  fold.Value: what it answers, at every string.
-/
import Derived.Test.YtjdpdkghfbaddaaDoorRefVal
import Derived.Test.YtjdpdkghfbaddaaDoorBld
import Derived.Lib.ConvBytes
import Derived.Lib.AtoiErrMem
namespace Go.Proofs.YtjdpdkghfbaddaaDoor
open Go.RowKit Tx

set_option maxHeartbeats 4000000 in
set_option maxRecDepth 100000 in
theorem value_any (s : ByteArray) (w : World) (hs : s.size < 1000000000000) :
    Calls Tryd.prog 17 #[.string s] w fun e w' => e = .returned (.string ⟨(val s.data.toList).toArray⟩) ∧ Below w.heap.size w w' := by
  have hsz := Lib.hid (Lib.size_eq s)
  have HL := Lib.hid (fun (k : Nat) => val_len (s.data.toList.take k))
  go_enter Tryd.func17, Tryd.ntmps17
  obtain ⟨W2, hW2⟩ : ∃ W2, W2 = w.alloc (.cells #[.pointer none, .slice none 0 0] 51) := ⟨_, rfl⟩
  have hcv := Lib.run_convert_string_bytes (P := Tryd.prog) W2 9 36 5 s Tryd.underlying9 Tryd.underlying36 Tryd.underlying5
  obtain ⟨cap, hcap⟩ : ∃ cap, grownCap W2 s.size 0 5 = cap := ⟨_, rfl⟩
  rw [hcap] at hcv
  obtain ⟨W3, hW3⟩ : ∃ W3, W3 = Lib.bytesWorld W2 5 s := ⟨_, rfl⟩
  have hz2 : W2.heap.size = w.heap.size + 1 := by rw [hW2]; simp
  have hz3 : W3.heap.size = w.heap.size + 2 := by rw [hW3, Lib.bytesWorld_size, hz2]
  have b3 : Below w.heap.size w W3 := by
    have h1 : Below w.heap.size w W2 := by rw [hW2]; exact (Below.refl _ _).alloc (Nat.le_refl _) _
    rw [hW3]
    exact h1.trans ((Lib.bytesWorld_below _ _ _).mono (by omega))
  have B0 : Bld w.heap.size (w.heap.size + 2) [] W3 := by
    refine ⟨_, .inl rfl, .slice none 0 0, ?_, World.ownsRowF_nil _ _ _ _, by omega, by omega⟩
    rw [hW3, Lib.bytesWorld_at_old _ _ _ _ (by omega), hW2]
    exact heap_alloc_new w _
  have HB : Hid (∀ j, j < s.size → W3.cell? ⟨w.heap.size + 1, j, none⟩ = some (.int .u8 (s.data.toList.getD j 0).toNat)) := fun j hj => by
    rw [hW3, ← hz2]
    exact Lib.bytesWorld_cell _ _ _ j hj
  rw [← hW3] at hcv
  have HC0 : Hid (Below w.heap.size w W3) := b3
  rw [hz2, hW2] at hcv
  obtain ⟨b, hb⟩ : ∃ b, w.heap.size = b := ⟨_, rfl⟩
  rw [hb] at hcv B0 HB HC0
  have hz4 : W3.heap.size = b + 2 := by omega
  have HBE := Lib.hid hb
  clear hcap hW3 b3 hW2 hz2 hz3
  go_wp2_with fail
  go_loopw [9] (fun at_ wr => ∃ (k : Nat), k ≤ s.size ∧ at_ = .int .i64 k ∧ Bld b (b + 2) (val (s.data.toList.take k)) wr ∧ Btw b (b + 2) W3 wr) (fun at_ _ => s.size - (intOf at_).toNat)
  case atStart => exact ⟨0, Nat.zero_le _, rfl, B0, Btw.refl _ _ _⟩
  case round =>
    obtain ⟨k, hk, rfl, hbld, ht⟩ := hrel
    have hlen := HL.out k
    have hsw := ht.below.size
    by_cases hlt : k < s.size
    · have hcell := HB.out k hlt
      rw [← World.cell?_of_block (w := W3) (w' := wr) (a := ⟨b + 1, k, none⟩) (ht.keeps (g := b + 1) (by omega) (by omega))] at hcell
      have hlt' : k < s.data.toList.length := by rw [← hsz.out]; exact hlt
      obtain ⟨c, hc⟩ : ∃ c, s.data.toList.getD k 0 = c := ⟨_, rfl⟩
      have htake : Hid (s.data.toList.take (k + 1) = s.data.toList.take k ++ [c]) := by
        unfold Hid
        rw [← hc, List.take_add_one, List.getD, List.getElem?_eq_getElem hlt']
        rfl
      rw [hc] at hcell
      have hstep : Hid (val (s.data.toList.take (k + 1)) = val (s.data.toList.take k) ++ valB c) := by
        unfold Hid
        rw [htake.out, val_snoc]
      rw [List.length_take] at hlen
      have hl2 : (val (s.data.toList.take k)).length ≤ 60000000000000 := by omega
      obtain ⟨out, hout⟩ : ∃ out, val (s.data.toList.take k) = out := ⟨_, rfl⟩
      rw [hout] at hbld hstep hl2
      obtain ⟨z, hz⟩ : ∃ z : Int, (c.toNat : Int) = z := ⟨_, rfl⟩
      have HW1 := Lib.hid (fun (W : World) h => bld_byte b (b + 2) out c W h (by omega))
      have HW92 := Lib.hid (fun (W : World) h => bld_byte b (b + 2) out 92 W h (by omega))
      have HW2 := Lib.hid (fun (W : World) h => bld_byte b (b + 2) (out ++ [92]) c W h (by rw [List.length_append]; simp; omega))
      have HWN := Lib.hid (fun (W : World) h => bld_string b (b + 2) out ⟨#[92, 110]⟩ W h (by show _ + 2 ≤ _; omega))
      rw [show ((UInt8.toNat 92 : Nat) : Int) = 92 from rfl] at HW92
      rw [hz] at hcell HW1 HW2
      clear hc hlen hout
      rcases valB_of (c := c) with h | h | h | ⟨h1, h2, h3, h4, h5, he⟩
      · have hz3 : z = 92 ∨ z = 44 ∨ z = 59 := by
          rcases h with h | h | h
          · left; rw [← hz, h]; rfl
          · right; left; rw [← hz, h]; rfl
          · right; right; rw [← hz, h]; rfl
        have HST : Hid (val (s.data.toList.take (k + 1)) = out ++ [92] ++ [c]) := by
          unfold Hid; rw [hstep.out]; unfold valB; rw [if_pos h]; simp
        clear h hstep hz
        rcases hz3 with rfl | rfl | rfl
        all_goals
          go_wp2_with fail
          refine (HW92.out _ hbld).mono ?_
          rintro e w6 ⟨rfl, bl6, t6⟩
          go_wp2_with fail
          refine (HW2.out _ bl6).mono ?_
          rintro e w7 ⟨rfl, bl7, t7⟩
          go_wp2_with fail
          go_roundw
          case rel => exact ⟨k + 1, by omega, by go_num, by rw [HST.out]; exact bl7, (ht.trans t6).trans t7⟩
          case measure => simp [intOf]; omega
      · have HST : Hid (val (s.data.toList.take (k + 1)) = out ++ (⟨#[92, 110]⟩ : ByteArray).data.toList) := by unfold Hid; rw [hstep.out, h]; rfl
        obtain rfl : z = 10 := by rw [← hz, h]; rfl
        clear h hstep hz
        go_wp2_with fail
        refine (HWN.out _ hbld).mono ?_
        rintro e w6 ⟨rfl, bl6, t6⟩
        go_wp2_with fail
        go_roundw
        case rel => exact ⟨k + 1, by omega, by go_num, by rw [HST.out]; exact bl6, ht.trans t6⟩
        case measure => simp [intOf]; omega
      · have HST : Hid (val (s.data.toList.take (k + 1)) = out) := by unfold Hid; rw [hstep.out, h]; exact List.append_nil _
        obtain rfl : z = 13 := by rw [← hz, h]; rfl
        clear h hstep hz
        go_wp2_with fail
        go_roundw
        case rel => exact ⟨k + 1, by omega, by go_num, by rw [HST.out]; exact hbld, ht⟩
        case measure => simp [intOf]; omega
      · have f1 : (z == 92) = false := byte_ne hz h1
        have f2 : (z == 44) = false := byte_ne hz h2
        have f3 : (z == 59) = false := byte_ne hz h3
        have f4 : (z == 10) = false := byte_ne hz h4
        have f5 : (z == 13) = false := byte_ne hz h5
        have HST : Hid (val (s.data.toList.take (k + 1)) = out ++ [c]) := by unfold Hid; rw [hstep.out, he]
        clear h1 h2 h3 h4 h5 he hstep hz
        go_wp2_with fail
        refine (HW1.out _ hbld).mono ?_
        rintro e w6 ⟨rfl, bl6, t6⟩
        go_wp2_with fail
        go_roundw
        case rel => exact ⟨k + 1, by omega, by go_num, by rw [HST.out]; exact bl6, ht.trans t6⟩
        case measure => simp [intOf]; omega
    · have hke : k = s.data.toList.length := by rw [← hsz.out]; omega
      have hall : s.data.toList.take k = s.data.toList := by rw [hke]; exact List.take_length
      rw [hall] at hbld
      have HS := Lib.hid (bld_String b (b + 2) _ wr hbld)
      clear hke hall
      go_wp2_with fail
      refine HS.out.mono ?_
      rintro e w5 ⟨rfl, b5⟩
      go_wp2_with fail
      go_ret
      exact ⟨rfl, by rw [HBE.out]; exact HC0.out.trans (ht.below.trans b5)⟩
end Go.Proofs.YtjdpdkghfbaddaaDoor
