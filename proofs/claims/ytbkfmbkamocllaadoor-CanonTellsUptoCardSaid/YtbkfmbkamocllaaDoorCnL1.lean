/-
  The law CanonTells: whatever nodes came in, the program's Right and Write are the document's.
-/
import Derived.Test.YtbkfmbkamocllaaDoorRnF
import Derived.Test.YtbkfmbkamocllaaDoorCnH
import Derived.Test.YtbkfmbkamocllaaDoorHolds
namespace Go.Proofs.YtbkfmbkamocllaaDoor
open Go.RowKit Tk Tr Cn

theorem writeV_form (ns : List Nd) : ∃ (S : ByteArray) (z : Int), writeV ns = .tuple #[.string S, .int .i64 z] := by
  unfold writeV
  split
  · exact ⟨_, _, rfl⟩
  · exact ⟨_, _, rfl⟩
set_option maxHeartbeats 2000000 in
set_option maxRecDepth 100000 in
theorem canonTells_any (v : Value) (ns : List Nd) (w : World) (hT : Tabs w) (hv : ReadM w v ns) (hl : ns.length ≤ 1048576) (hS : (ns.map ownL).sum ≤ 1000000000) :
    Calls Tryd.prog 3 #[v] w (Holds w) := by
  have HAW := Lib.hid (fun (W : World) (h : Below w.heap.size w W) => awakeC_any W (hT.below h))
  have HWR := Lib.hid (fun (h : ns.length ≤ 1000000) => write_any v ns w hT hv h hS)
  have HCA := Lib.hid (fun (h : ns.length ≤ 1000000) (W : World) (hb : Below w.heap.size w W) => rCanon_any v ns W (hv.below hb) h hS)
  have HRI := Lib.hid (fun (h : ns.length ≤ 1000000) (W : World) (hb : Below w.heap.size w W) => right_any v ns W (hT.below hb) (hv.below hb) h (szN_of hS))
  have HRR := Lib.hid (fun (h : ns.length ≤ 1000000) (W : World) (hb : Below w.heap.size w W) => canonRight_any v ns W (hv.below hb).reads h hS)
  obtain ⟨S, z, hSz⟩ := writeV_form ns
  rw [hSz] at HWR HCA
  have hSS := same_self S
  have hzz : (z == z) = true := by simp
  obtain ⟨D, hD⟩ : ∃ D, rightB ns = D := ⟨_, rfl⟩
  rw [hD] at HRI HRR
  have hDD : (D == D) = true := by simp
  obtain ⟨A, cap, rfl, -⟩ := hv
  obtain ⟨n, hn⟩ : ∃ n, ns.length = n := ⟨_, rfl⟩
  rw [hn] at hl HWR HCA HRI HRR ⊢
  clear hn hSz hD hS hT
  by_cases h100 : n ≤ 100
  · have g0 : decide ((n : Int) > 100) = false := decide_eq_false (by omega)
    have HWR2 := Lib.hid (HWR.out (by omega))
    have HCA2 := Lib.hid (HCA.out (by omega))
    have HRI2 := Lib.hid (HRI.out (by omega))
    have HRR2 := Lib.hid (HRR.out (by omega))
    clear HWR HCA HRI HRR
    go_enter Tryd.func3, Tryd.ntmps3
    go_wp2_with (first | (go_at_call 7; refine HWR2.out.mono ?_; rintro e w1 ⟨rfl, b1⟩) | (go_at_call 8; refine (HCA2.out _ b1).mono ?_; rintro e w2 ⟨rfl, b2⟩; have t2 := b1.trans (b2.mono b1.size)) | (go_at_call 6; refine (HAW.out _ t2).mono ?_; rintro e w3 ⟨rfl, b3⟩; have t3 := t2.trans (b3.mono t2.size)) | (go_at_call 9; refine (HRI2.out _ t3).mono ?_; rintro e w4 ⟨rfl, b4⟩; have t4 := t3.trans (b4.mono t3.size)) | (go_at_call 10; refine (HRR2.out _ t4).mono ?_; rintro e w5 ⟨rfl, b5⟩; have t5 := t4.trans (b5.mono t4.size)))
    go_ret
    exact ⟨by simp, t5⟩
  · have g0 : decide ((n : Int) > 100) = true := decide_eq_true (by omega)
    go_enter Tryd.func3, Tryd.ntmps3
    go_wp2_with (go_at_call 6; refine (HAW.out _ (Below.refl _ _)).mono ?_; rintro e w3 ⟨rfl, b3⟩)
    go_ret
    exact ⟨rfl, b3⟩
end Go.Proofs.YtbkfmbkamocllaaDoor
