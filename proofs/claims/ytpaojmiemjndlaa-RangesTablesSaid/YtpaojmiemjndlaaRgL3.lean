/-
  RangesTables.
-/
import Derived.Test.YtpaojmiemjndlaaRgA
import Derived.Test.YtpaojmiemjndlaaRgU
import Derived.Test.YtpaojmiemjndlaaRgF
import Derived.Test.YtpaojmiemjndlaaUint
import Derived.Deep.RegionHeld3
namespace Go.Proofs.Ytpaojmiemjndlaa
open Go.RowKit Rg

/-- The tables, by their places. -/
def tableAt : Nat → List R
  | 0 => lettersL
  | 1 => bannedL
  | 2 => rightLeftL
  | _ => goneL
theorem tableAt_right (k : Nat) : rightB (tableAt k) = true := by
  match k with
  | 0 => decide
  | 1 => decide
  | 2 => decide
  | k + 3 => show rightB goneL = true; decide
theorem tableAt_len (k : Nat) : (tableAt k).length ≤ 140737488355328 := by
  match k with
  | 0 => simp [tableAt, lettersL]
  | 1 => simp [tableAt, bannedL]
  | 2 => simp [tableAt, rightLeftL]
  | k + 3 => simp [tableAt, goneL]
/-- Four slices of ranges in a block. -/
def Four (B : Nat) (w : World) (g : Nat) : Prop := ∃ v0 v1 v2 v3 : Value, Bk w g 22 #[v0, v1, v2, v3] ∧ OwnR B w v0 lettersL ∧ OwnR B w v1 bannedL ∧ OwnR B w v2 rightLeftL ∧ OwnR B w v3 goneL
theorem Four.below {B g : Nat} {w w' : World} (h : Four B w g) (hb : Below w.heap.size w w') : Four B w' g := by
  obtain ⟨v0, v1, v2, v3, h1, h2, h3, h4, h5⟩ := h
  exact ⟨v0, v1, v2, v3, h1.below hb h1.lt, h2.below hb, h3.below hb, h4.below hb, h5.below hb⟩
theorem Four.at {B g : Nat} {w : World} (h : Four B w g) {k : Nat} (hk : k < 4) : ∃ v, w.cell? ⟨g, k, none⟩ = some v ∧ OwnR B w v (tableAt k) := by
  obtain ⟨v0, v1, v2, v3, h1, h2, h3, h4, h5⟩ := h
  have hc := h1.cell k
  rcases (show k = 0 ∨ k = 1 ∨ k = 2 ∨ k = 3 by omega) with rfl | rfl | rfl | rfl
  · exact ⟨v0, by simpa using hc, h2⟩
  · exact ⟨v1, by simpa using hc, h3⟩
  · exact ⟨v2, by simpa using hc, h4⟩
  · exact ⟨v3, by simpa using hc, h5⟩

set_option maxHeartbeats 8000000 in
theorem rangesTables_any (p : Int) (w : World) : Calls Try.prog 5 #[.int .i64 p] w (Holds w) := by
  obtain ⟨x, hx, hxb⟩ := uintMod p 1200000 (by omega) (by omega)
  obtain ⟨X, hX⟩ : ∃ X : Int, (x : Int) = X := ⟨_, rfl⟩
  rw [hX] at hx
  clear hX hxb
  have HAW := Lib.hid awake_any
  have M0 := Lib.hid letters_any
  have N0 := Lib.hid refLetters_any
  have M1 := Lib.hid banned_any
  have N1 := Lib.hid refBanned_any
  have M2 := Lib.hid rightLeft_any
  have N2 := Lib.hid refRightLeft_any
  have M3 := Lib.hid gone_any
  have N3 := Lib.hid refGone_any
  have HP := Lib.hid (fun (B C k : Nat) u v W (h : OwnR B W u (tableAt k)) (h2 : OwnR C W v (tableAt k)) => plainR_any u v _ _ W h.reads h2.reads (tableAt_len k) (tableAt_len k))
  have HR := Lib.hid (fun (B k : Nat) u W (h : OwnR B W u (tableAt k)) => right_any u _ W h.reads (tableAt_len k))
  have HI := Lib.hid (fun (B k : Nat) u W (h : OwnR B W u (tableAt k)) => in_any u _ X W h.reads (tableAt_len k))
  have HRI := Lib.hid (fun (B k : Nat) u W (h : OwnR B W u (tableAt k)) => refIn_any u _ X W h.reads (tableAt_len k))
  simp only [decide_true, tableAt_right] at HP HR
  go_enter Try.func5, Try.ntmps5
  go_wp2_with fail
  refine (M0.out w).mono ?_
  rintro e wa0 ⟨a0, rfl, o, c⟩
  have Bwa0 := c
  obtain ⟨Aa0, ca0, rfl⟩ := o.slice
  have Oa0 : Hid (OwnR w.heap.size wa0 (.slice Aa0 lettersL.length ca0) lettersL) := o.weak (Nat.le_refl _)
  clear o c
  go_wp2_with fail
  refine (M1.out wa0).mono ?_
  rintro e wa1 ⟨a1, rfl, o, c⟩
  have Bwa1 := Bwa0.trans (c.mono Bwa0.size)
  have Oa0' := Lib.hid (Oa0.out.below c)
  clear Oa0
  have Oa0 := Oa0'
  clear Oa0'
  obtain ⟨Aa1, ca1, rfl⟩ := o.slice
  have Oa1 : Hid (OwnR w.heap.size wa1 (.slice Aa1 bannedL.length ca1) bannedL) := o.weak Bwa0.size
  clear o c
  go_wp2_with fail
  refine (M2.out wa1).mono ?_
  rintro e wa2 ⟨a2, rfl, o, c⟩
  have Bwa2 := Bwa1.trans (c.mono Bwa1.size)
  have Oa0' := Lib.hid (Oa0.out.below c)
  clear Oa0
  have Oa0 := Oa0'
  clear Oa0'
  have Oa1' := Lib.hid (Oa1.out.below c)
  clear Oa1
  have Oa1 := Oa1'
  clear Oa1'
  obtain ⟨Aa2, ca2, rfl⟩ := o.slice
  have Oa2 : Hid (OwnR w.heap.size wa2 (.slice Aa2 rightLeftL.length ca2) rightLeftL) := o.weak Bwa1.size
  clear o c
  go_wp2_with fail
  refine (M3.out wa2).mono ?_
  rintro e wa3 ⟨a3, rfl, o, c⟩
  have Bwa3 := Bwa2.trans (c.mono Bwa2.size)
  have Oa0' := Lib.hid (Oa0.out.below c)
  clear Oa0
  have Oa0 := Oa0'
  clear Oa0'
  have Oa1' := Lib.hid (Oa1.out.below c)
  clear Oa1
  have Oa1 := Oa1'
  clear Oa1'
  have Oa2' := Lib.hid (Oa2.out.below c)
  clear Oa2
  have Oa2 := Oa2'
  clear Oa2'
  obtain ⟨Aa3, ca3, rfl⟩ := o.slice
  have Oa3 : Hid (OwnR w.heap.size wa3 (.slice Aa3 goneL.length ca3) goneL) := o.weak Bwa2.size
  clear o c
  go_wp2_with fail
  obtain ⟨wA, hw⟩ : ∃ wA, wa3.alloc (.cells #[.slice Aa0 lettersL.length ca0, .slice Aa1 bannedL.length ca1, .slice Aa2 rightLeftL.length ca2, .slice Aa3 goneL.length ca3] 22) = wA := ⟨_, rfl⟩
  have c : Below wa3.heap.size wa3 wA := by rw [← hw]; exact (Below.refl _ _).alloc (Nat.le_refl _) _
  have FA : Hid (Four w.heap.size wA wa3.heap.size) := ⟨_, _, _, _, by rw [← hw]; exact Bk.new _ _ _, Oa0.out.below c, Oa1.out.below c, Oa2.out.below c, Oa3.out.below c⟩
  have BwA := Bwa3.trans (c.mono Bwa3.size)
  try rw [hw]
  clear hw c Oa0 Oa1 Oa2 Oa3
  refine (N0.out wA).mono ?_
  rintro e wb0 ⟨b0, rfl, o, c⟩
  have Bwb0 := BwA.trans (c.mono BwA.size)
  have FA' := Lib.hid (FA.out.below c)
  clear FA
  have FA := FA'
  clear FA'
  obtain ⟨Ab0, cb0, rfl⟩ := o.slice
  have Ob0 : Hid (OwnR w.heap.size wb0 (.slice Ab0 lettersL.length cb0) lettersL) := o.weak BwA.size
  clear o c
  go_wp2_with fail
  refine (N1.out wb0).mono ?_
  rintro e wb1 ⟨b1, rfl, o, c⟩
  have Bwb1 := Bwb0.trans (c.mono Bwb0.size)
  have Ob0' := Lib.hid (Ob0.out.below c)
  clear Ob0
  have Ob0 := Ob0'
  clear Ob0'
  have FA' := Lib.hid (FA.out.below c)
  clear FA
  have FA := FA'
  clear FA'
  obtain ⟨Ab1, cb1, rfl⟩ := o.slice
  have Ob1 : Hid (OwnR w.heap.size wb1 (.slice Ab1 bannedL.length cb1) bannedL) := o.weak Bwb0.size
  clear o c
  go_wp2_with fail
  refine (N2.out wb1).mono ?_
  rintro e wb2 ⟨b2, rfl, o, c⟩
  have Bwb2 := Bwb1.trans (c.mono Bwb1.size)
  have Ob0' := Lib.hid (Ob0.out.below c)
  clear Ob0
  have Ob0 := Ob0'
  clear Ob0'
  have Ob1' := Lib.hid (Ob1.out.below c)
  clear Ob1
  have Ob1 := Ob1'
  clear Ob1'
  have FA' := Lib.hid (FA.out.below c)
  clear FA
  have FA := FA'
  clear FA'
  obtain ⟨Ab2, cb2, rfl⟩ := o.slice
  have Ob2 : Hid (OwnR w.heap.size wb2 (.slice Ab2 rightLeftL.length cb2) rightLeftL) := o.weak Bwb1.size
  clear o c
  go_wp2_with fail
  refine (N3.out wb2).mono ?_
  rintro e wb3 ⟨b3, rfl, o, c⟩
  have Bwb3 := Bwb2.trans (c.mono Bwb2.size)
  have Ob0' := Lib.hid (Ob0.out.below c)
  clear Ob0
  have Ob0 := Ob0'
  clear Ob0'
  have Ob1' := Lib.hid (Ob1.out.below c)
  clear Ob1
  have Ob1 := Ob1'
  clear Ob1'
  have Ob2' := Lib.hid (Ob2.out.below c)
  clear Ob2
  have Ob2 := Ob2'
  clear Ob2'
  have FA' := Lib.hid (FA.out.below c)
  clear FA
  have FA := FA'
  clear FA'
  obtain ⟨Ab3, cb3, rfl⟩ := o.slice
  have Ob3 : Hid (OwnR w.heap.size wb3 (.slice Ab3 goneL.length cb3) goneL) := o.weak Bwb2.size
  clear o c
  go_wp2_with fail
  obtain ⟨wB, hw⟩ : ∃ wB, wb3.alloc (.cells #[.slice Ab0 lettersL.length cb0, .slice Ab1 bannedL.length cb1, .slice Ab2 rightLeftL.length cb2, .slice Ab3 goneL.length cb3] 22) = wB := ⟨_, rfl⟩
  have c : Below wb3.heap.size wb3 wB := by rw [← hw]; exact (Below.refl _ _).alloc (Nat.le_refl _) _
  have FB : Hid (Four w.heap.size wB wb3.heap.size) := ⟨_, _, _, _, by rw [← hw]; exact Bk.new _ _ _, Ob0.out.below c, Ob1.out.below c, Ob2.out.below c, Ob3.out.below c⟩
  have BwB := Bwb3.trans (c.mono Bwb3.size)
  have FA' := Lib.hid (FA.out.below c)
  clear FA
  have FA := FA'
  clear FA'
  try rw [hw]
  clear hw c Ob0 Ob1 Ob2 Ob3
  go_loopw [5] (fun i wr => ∃ k : Nat, k ≤ 4 ∧ i = .int .i64 k ∧ Below w.heap.size w wr ∧ Hid (Four w.heap.size wr wa3.heap.size) ∧ Hid (Four w.heap.size wr wb3.heap.size)) (fun i _ => 4 - (intOf i).toNat)
  case atStart => exact ⟨0, by omega, rfl, BwB, FA, FB⟩
  case round =>
    obtain ⟨k, hk, rfl, bw, fa, fb⟩ := hrel
    have hsw := bw.size
    by_cases hlt : k < 4
    · obtain ⟨va, c0, oa⟩ := fa.out.at hlt
      obtain ⟨vb, d0, ob⟩ := fb.out.at hlt
      have hga : wa3.heap.size < wr.heap.size := World.block_lt_of_cell? wr _ c0
      have hgb : wb3.heap.size < wr.heap.size := World.block_lt_of_cell? wr _ d0
      have HGA := Lib.hid hga
      have HGB := Lib.hid hgb
      have HP' : Hid (∀ W, Below wr.heap.size wr W → Calls Try.prog 13 #[va, vb] W fun e w' => e = .returned (.bool true) ∧ Below wr.heap.size wr w') := fun W h => (HP.out _ _ k va vb W (oa.below h) (ob.below h)).mono fun e w' h2 => ⟨h2.1, h.trans (h2.2.mono h.size)⟩
      have HR' : Hid (∀ W, Below wr.heap.size wr W → Calls Try.prog 9 #[va] W fun e w' => e = .returned (.bool true) ∧ Below wr.heap.size wr w') := fun W h => (HR.out _ k va W (oa.below h)).mono fun e w' h2 => ⟨h2.1, h.trans (h2.2.mono h.size)⟩
      obtain ⟨IB, hIB⟩ : ∃ IB, inL (tableAt k) X = IB := ⟨_, rfl⟩
      have HI' : Hid (∀ W, Below wr.heap.size wr W → Calls Try.prog 11 #[va, .int .i64 X] W fun e w' => e = .returned (.bool IB) ∧ Below wr.heap.size wr w') := fun W h => (HI.out _ k va W (oa.below h)).mono fun e w' h2 => ⟨by rw [← hIB]; exact h2.1, h.trans (h2.2.mono h.size)⟩
      have HRI' : Hid (∀ W, Below wr.heap.size wr W → Calls Try.prog 12 #[vb, .int .i64 X] W fun e w' => e = .returned (.bool IB) ∧ Below wr.heap.size wr w') := fun W h => (HRI.out _ k vb W (ob.below h)).mono fun e w' h2 => ⟨by rw [← hIB]; exact h2.1, h.trans (h2.2.mono h.size)⟩
      have hb1 : (IB != IB) = false := by cases IB <;> rfl
      have hb2 : (IB == IB) = true := by cases IB <;> rfl
      have FA4 : Hid (∀ W, Below wr.heap.size wr W → Four w.heap.size W wa3.heap.size) := fun W h => fa.out.below h
      have FB4 : Hid (∀ W, Below wr.heap.size wr W → Four w.heap.size W wb3.heap.size) := fun W h => fb.out.below h
      have C0 := Lib.hid c0
      have D0 := Lib.hid d0
      clear hIB oa ob hga hgb fa fb HP HR HI HRI FA FB
      go_wp2_with fail
      go_region_held3 (fun w' => Below wr.heap.size wr w' ∧ w'.cell? ⟨wa3.heap.size, k, none⟩ = some va ∧ w'.cell? ⟨wb3.heap.size, k, none⟩ = some vb)
        (first | exact ⟨(Below.refl _ wr).drew, C0.out, D0.out⟩ | exact ⟨b13, ca13, cb13⟩ | exact ⟨b9, ca9, cb9⟩ | exact ⟨b11, ca11, cb11⟩ | exact ⟨b12, ca12, cb12⟩)
        (first
        | (go_at_call 13; refine (HP'.out _ ?_).mono ?_; exact (Below.refl _ _).drew; rintro e w13 ⟨rfl, b13⟩; have ca13 := (b13.cell (p := ⟨wa3.heap.size, k, none⟩) HGA.out).trans C0.out; have cb13 := (b13.cell (p := ⟨wb3.heap.size, k, none⟩) HGB.out).trans D0.out)
        | (go_at_call 9; refine (HR'.out _ ?_).mono ?_; exact b13; rintro e w9 ⟨rfl, b9⟩; have ca9 := (b9.cell (p := ⟨wa3.heap.size, k, none⟩) HGA.out).trans C0.out; have cb9 := (b9.cell (p := ⟨wb3.heap.size, k, none⟩) HGB.out).trans D0.out)
        | (go_at_call 11; refine (HI'.out _ ?_).mono ?_; exact b9; rintro e w11 ⟨rfl, b11⟩; have ca11 := (b11.cell (p := ⟨wa3.heap.size, k, none⟩) HGA.out).trans C0.out; have cb11 := (b11.cell (p := ⟨wb3.heap.size, k, none⟩) HGB.out).trans D0.out)
        | (go_at_call 12; refine (HRI'.out _ ?_).mono ?_; exact b11; rintro e w12 ⟨rfl, b12⟩; have ca12 := (b12.cell (p := ⟨wa3.heap.size, k, none⟩) HGA.out).trans C0.out; have cb12 := (b12.cell (p := ⟨wb3.heap.size, k, none⟩) HGB.out).trans D0.out))
      all_goals
        have b14 := bw.trans (b12.mono hsw)
        have fa2 := Lib.hid (FA4.out _ b12)
        have fb2 := Lib.hid (FB4.out _ b12)
        clear b12 b11 b9 b13
        go_wp2_with fail
        go_roundw
        case rel => exact ⟨k + 1, by omega, by go_num, b14, fa2, fb2⟩
        case measure => simp [intOf]; omega
    · have hke : k = 4 := by omega
      subst hke
      go_wp2_with fail
      refine (HAW.out wr).mono ?_
      rintro e w15 ⟨rfl, b15⟩
      have b16 := bw.trans (b15.mono hsw)
      clear b15
      go_wp2_with fail
      go_ret
      exact ⟨rfl, b16⟩
end Go.Proofs.Ytpaojmiemjndlaa
