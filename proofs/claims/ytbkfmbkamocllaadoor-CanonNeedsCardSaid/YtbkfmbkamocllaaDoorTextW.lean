/-
  escape.Text: what it answers, at every string.
-/
import Derived.Test.YtbkfmbkamocllaaDoorTxt
import Derived.Test.YtbkfmbkamocllaaDoorTurn
import Derived.Test.YtbkfmbkamocllaaDoorBld
import Derived.Lib.ConvBytes
import Derived.Lib.AtoiErrMem
namespace Go.Proofs.YtbkfmbkamocllaaDoor
open Go.RowKit Tx

set_option maxHeartbeats 1000000 in
set_option maxRecDepth 100000 in
/-- escape.Text -/
theorem text_any (s : ByteArray) (w : World) (hs : s.size < 10000000000000) :
    Calls Tryd.prog 25 #[.string s] w fun e w' => e = .returned (.string ⟨(esc s.data.toList).toArray⟩) ∧ Below w.heap.size w w' := by
  have hsz := Lib.hid (Lib.size_eq s)
  have HL := Lib.hid (fun (k : Nat) => esc_len (s.data.toList.take k))
  go_enter Tryd.func25, Tryd.ntmps25
  go_wp2_with (go_at_call 41; refine (signs_any _).mono ?_)
  rintro e w1 ⟨rfl, he, hb1, hw1⟩
  obtain ⟨W2, hW2⟩ : ∃ W2, W2 = w1.alloc (.cells #[.pointer none, .slice none 0 0] 61) := ⟨_, rfl⟩
  have hcv := Lib.run_convert_string_bytes (P := Tryd.prog) W2 9 34 5 s Tryd.underlying9 Tryd.underlying34 Tryd.underlying5
  obtain ⟨cap, hcap⟩ : ∃ cap, grownCap W2 s.size 0 5 = cap := ⟨_, rfl⟩
  rw [hcap] at hcv
  obtain ⟨W3, hW3⟩ : ∃ W3, W3 = Lib.bytesWorld W2 5 s := ⟨_, rfl⟩
  have hz2 : W2.heap.size = w1.heap.size + 1 := by rw [hW2]; simp
  have hz3 : W3.heap.size = w1.heap.size + 2 := by rw [hW3, Lib.bytesWorld_size, hz2]
  have b3 : Below w1.heap.size w1 W3 := by
    have h1 : Below w1.heap.size w1 W2 := by rw [hW2]; exact (Below.refl _ _).alloc (Nat.le_refl _) _
    rw [hW3]
    exact h1.trans ((Lib.bytesWorld_below _ _ _).mono (by omega))
  have B0 : Bld w1.heap.size (w1.heap.size + 2) [] W3 := by
    refine ⟨_, .inl rfl, .slice none 0 0, ?_, World.ownsRowF_nil _ _ _ _, by omega, by omega⟩
    rw [hW3, Lib.bytesWorld_at_old _ _ _ _ (by omega), hW2]
    exact heap_alloc_new w1 _
  have HB : Hid (∀ j, j < s.size → W3.cell? ⟨w1.heap.size + 1, j, none⟩ = some (.int .u8 (s.data.toList.getD j 0).toNat)) := fun j hj => by
    rw [hW3, ← hz2]
    exact Lib.bytesWorld_cell _ _ _ j hj
  have HE : Hid (EntsB W3 w.heap.size signsT) := he.keep (b3.block _ (by omega))
  rw [← hW3] at hcv
  have HC0 : Hid (Below w.heap.size w W3) := hb1.trans (b3.mono (by omega))
  have HFind := Lib.hid (fun (c : Nat) (W : World) (h1 : w.heap.size < W.heap.size) (h2 : EntsB W w.heap.size signsT) => findB_any w.heap.size 8 8 c signsT W h1 h2 rfl (by omega))
  rw [hz2, hW2] at hcv
  have HZ3 := Lib.hid hz3
  obtain ⟨b, hb⟩ : ∃ b, w1.heap.size = b := ⟨_, rfl⟩
  rw [hb] at hcv B0 HB hw1
  have hgb : w.heap.size < b := by omega
  have hz4 : W3.heap.size = b + 2 := by omega
  clear hcap he hW3 b3 hW2 hz2 hz3 hw1
  go_wp2_with fail
  go_loopw [13] (fun at_ wr => ∃ (k : Nat), k ≤ s.size ∧ at_ = .int .i64 k ∧ Bld b (b + 2) (esc (s.data.toList.take k)) wr ∧ Btw b (b + 2) W3 wr) (fun at_ _ => s.size - (intOf at_).toNat)
  case atStart => exact ⟨0, Nat.zero_le _, rfl, B0, Btw.refl _ _ _⟩
  case round =>
    obtain ⟨k, hk, rfl, hbld, ht⟩ := hrel
    have hlen := HL.out k
    have hsw := ht.below.size
    by_cases hlt : k < s.size
    · have hcell := HB.out k hlt
      rw [← World.cell?_of_block (w := W3) (w' := wr) (a := ⟨b + 1, k, none⟩) (ht.keeps (g := b + 1) (by omega) (by omega))] at hcell
      have hlt' : k < s.data.toList.length := by rw [← hsz.out]; exact hlt
      obtain ⟨c, hc⟩ : ∃ c, s.data.toList.getD k 0 = c := ⟨_, rfl⟩
      have htake : Hid (s.data.toList.take (k + 1) = s.data.toList.take k ++ [c]) := by
        unfold Hid
        rw [← hc, List.take_add_one, List.getD, List.getElem?_eq_getElem hlt']
        rfl
      rw [hc] at hcell
      have HF := HFind.out c.toNat wr (by omega) (HE.out.keep (ht.keeps (by omega) (by omega)))
      have hesc := escB_look c
      have hstep : Hid (esc (s.data.toList.take (k + 1)) = esc (s.data.toList.take k) ++ escB c) := by
        unfold Hid
        rw [htake.out, esc_append, esc_cons, esc_nil, List.append_nil]
      rw [List.length_take] at hlen
      have hl2 : (esc (s.data.toList.take k)).length ≤ 60000000000000 := by omega
      obtain ⟨out, hout⟩ : ∃ out, esc (s.data.toList.take k) = out := ⟨_, rfl⟩
      rw [hout] at hbld hstep hl2
      clear hc hlen hout
      cases hlk : lookB signsT c.toNat with
      | none =>
        rw [hlk] at HF hesc
        rw [tellB_none] at HF
        have HFO := Lib.hid HF
        have HST : Hid (esc (s.data.toList.take (k + 1)) = out ++ [c]) := by unfold Hid; rw [hstep.out, hesc]
        obtain ⟨z, hz⟩ : ∃ z : Int, (c.toNat : Int) = z := ⟨_, rfl⟩
        have HW := Lib.hid (fun (W : World) h => bld_byte b (b + 2) out c W h (by omega))
        rw [hz] at HFO hcell HW
        clear HF hesc hstep hlk hz
        go_wp2_with (first | (go_at_call 42; refine HFO.out.mono ?_; rintro e w5 ⟨rfl, b5⟩) | (go_at_call 43; refine (HW.out _ (hbld.below b5)).mono ?_; rintro e w6 ⟨rfl, bl6, t6⟩))
        go_roundw
        case rel => exact ⟨k + 1, by omega, by go_num, by rw [HST.out]; exact bl6, (ht.trans (Btw.of b5 (by omega) (by omega))).trans t6⟩
        case measure => simp [intOf]; omega
      | some n =>
        rw [hlk] at HF hesc
        rw [tellB_some] at HF
        have HFO := Lib.hid HF
        have HST : Hid (esc (s.data.toList.take (k + 1)) = out ++ (⟨#[38]⟩ ++ n ++ ⟨#[59]⟩ : ByteArray).data.toList) := by unfold Hid; rw [hstep.out, hesc]; simp
        have hns : n.size ≤ 100 := by
          unfold lookB at hlk
          obtain ⟨e, he1, rfl⟩ := Option.map_eq_some_iff.1 hlk
          have hm := List.mem_of_find?_eq_some he1
          have hall : ∀ e ∈ signsT, e.2.size ≤ 100 := by decide
          exact hall e hm
        have HW := Lib.hid (fun (W : World) h => bld_string b (b + 2) out (⟨#[38]⟩ ++ n ++ ⟨#[59]⟩) W h (by rw [ByteArray.size_append, ByteArray.size_append, show (⟨#[38]⟩ : ByteArray).size = 1 from rfl, show (⟨#[59]⟩ : ByteArray).size = 1 from rfl]; omega))
        obtain ⟨z, hz⟩ : ∃ z : Int, (c.toNat : Int) = z := ⟨_, rfl⟩
        rw [hz] at HFO hcell
        clear HF hesc hstep hlk hz
        go_wp2_with (first | (go_at_call 42; refine HFO.out.mono ?_; rintro e w5 ⟨rfl, b5⟩) | (go_at_call 38; refine (HW.out _ (hbld.below b5)).mono ?_; rintro e w6 ⟨rfl, bl6, t6⟩))
        go_roundw
        case rel => exact ⟨k + 1, by omega, by go_num, by rw [HST.out]; exact bl6, (ht.trans (Btw.of b5 (by omega) (by omega))).trans t6⟩
        case measure => simp [intOf]; omega
    · have hke : k = s.data.toList.length := by rw [← hsz.out]; omega
      have hall : s.data.toList.take k = s.data.toList := by rw [hke]; exact List.take_length
      rw [hall] at hbld
      have HS := Lib.hid (bld_String b (b + 2) _ wr hbld)
      clear hke hall
      go_wp2_with (go_at_call 39; refine HS.out.mono ?_; rintro e w5 ⟨rfl, b5⟩)
      go_ret
      exact ⟨rfl, HC0.out.trans ((ht.below.trans b5).mono (by omega))⟩
end Go.Proofs.YtbkfmbkamocllaaDoor
