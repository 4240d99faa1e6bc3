/-
  RangesTell.
-/
import Derived.Test.YtpaojmiemjndlaaRgA
import Derived.Test.YtpaojmiemjndlaaRgQ
import Derived.Test.YtpaojmiemjndlaaRgN
namespace Go.Proofs.Ytpaojmiemjndlaa
open Go.RowKit Rg

set_option maxHeartbeats 4000000 in
theorem rangesTell_any (va vb : Value) (a b : List R) (c : Int) (w : World) (ha : ReadR w.heap.size w va a) (hb : ReadR w.heap.size w vb b) (fa : Fits a) (fb : Fits b) : Calls Try.prog 3 #[va, vb, .int .i64 c] w (Holds w) := by
  have HAW := Lib.hid awake_any
  have HA : Hid (∀ W, Below w.heap.size w W → ReadR W.heap.size W va a) := fun W h => (ha.below h).more h.size
  have HB : Hid (∀ W, Below w.heap.size w W → ReadR W.heap.size W vb b) := fun W h => (hb.below h).more h.size
  by_cases hl : a.length ≤ 100
  · by_cases hm : b.length ≤ 100
    · have HOA := Lib.hid (own_any va a 71 0 w ha (by omega))
      have HOB := Lib.hid (fun W (h : Below w.heap.size w W) => own_any vb b 72 0 W (HB.out W h) (by omega))
      have HR := Lib.hid (fun u W (h : ReadR (World.heap W).size W u a) => right_any u a W h (by omega))
      have HRR := Lib.hid (fun u W (h : ReadR (World.heap W).size W u a) => refRight_any u a W h (by omega))
      have HI := Lib.hid (fun u W (h : ReadR (World.heap W).size W u a) => in_any u a c W h (by omega))
      have HRI := Lib.hid (fun u W (h : ReadR (World.heap W).size W u a) => refIn_any u a c W h (by omega))
      have HJ := Lib.hid (fun u v W (h : ReadR (World.heap W).size W u a) (h2 : ReadR (World.heap W).size W v b) => join_any u v a b W h h2 fa fb (by omega) (by omega))
      have HRJ := Lib.hid (fun u v W (h : ReadR (World.heap W).size W u a) (h2 : ReadR (World.heap W).size W v b) => refJoin_any u v a b W h h2 fa fb (by omega) (by omega))
      have hjl : (joinL a b).length ≤ 1000 := Nat.le_trans (joinL_length a b) (by omega)
      have HP := Lib.hid (fun u v W (h : ReadR (World.heap W).size W u (joinL a b)) (h2 : ReadR (World.heap W).size W v (joinL a b)) => plainR_any u v _ _ W h h2 (by omega) (by omega))
      rw [decide_eq_true rfl] at HP
      have HKA := Lib.hid (fun B u v W (h : OwnK B W u a (71, 0)) (h2 : ReadR (World.heap W).size W v a) => kept_any B u v a 71 0 W h h2 (by omega))
      have HKB := Lib.hid (fun B u v W (h : OwnK B W u b (72, 0)) (h2 : ReadR (World.heap W).size W v b) => kept_any B u v b 72 0 W h h2 (by omega))
      have hla : a.length ≤ 1000000000000 := by omega
      have hlb : b.length ≤ 1000000000000 := by omega
      obtain ⟨Aa, ca, rfl, _, _⟩ := ha
      obtain ⟨Ab, cb, rfl, _, _⟩ := hb
      clear fa fb hjl
      generalize rightB a = RB at HR HRR
      generalize inL a c = IB at HI HRI
      have hcast : ¬ ((a.length : Int) > 100) := by omega
      have hcast2 : ¬ ((b.length : Int) > 100) := by omega
      go_enter Try.func3, Try.ntmps3
      go_wp2_with fail
      refine HOA.out.mono ?_
      rintro e w1 ⟨u1, rfl, o1, b1⟩
      have O1 := Lib.hid o1
      clear o1
      go_wp2_with fail
      refine (HOB.out w1 b1).mono ?_
      rintro e w2 ⟨u2, rfl, o2, b2⟩
      have O1' : Hid (OwnK w.heap.size w2 u1 a (71, 0)) := O1.out.below b2 (Nat.le_refl _)
      have O2 : Hid (OwnK w1.heap.size w2 u2 b (72, 0)) := o2
      have b3 := b1.trans (b2.mono b1.size)
      clear o2 b2 O1
      go_wp2_with fail
      refine (HAW.out w2).mono ?_
      rintro e w3 ⟨rfl, b4⟩
      have b5 := b3.trans (b4.mono b3.size)
      have P1 : Hid (OwnK w.heap.size w3 u1 a (71, 0)) := O1'.out.below b4 (Nat.le_refl _)
      have P2 : Hid (OwnK w1.heap.size w3 u2 b (72, 0)) := O2.out.below b4 (Nat.le_refl _)
      clear b3 b4 O1' O2
      go_wp2_with fail
      refine (HR.out u1 w3 (P1.out.reads hla)).mono ?_
      rintro e w4 ⟨rfl, b4⟩
      have b6 := b5.trans (b4.mono b5.size)
      have Q1 : Hid (OwnK w.heap.size w4 u1 a (71, 0)) := P1.out.below b4 (Nat.le_refl _)
      have Q2 : Hid (OwnK w1.heap.size w4 u2 b (72, 0)) := P2.out.below b4 (Nat.le_refl _)
      clear b4 b5 P1 P2
      go_wp2_with fail
      refine (HRR.out _ w4 (HA.out w4 b6)).mono ?_
      rintro e w5 ⟨rfl, b4⟩
      have b7 := b6.trans (b4.mono b6.size)
      have P1 : Hid (OwnK w.heap.size w5 u1 a (71, 0)) := Q1.out.below b4 (Nat.le_refl _)
      have P2 : Hid (OwnK w1.heap.size w5 u2 b (72, 0)) := Q2.out.below b4 (Nat.le_refl _)
      clear b4 b6 Q1 Q2
      have hRB : (RB == RB) = true := by cases RB <;> rfl
      have hIB : (IB == IB) = true := by cases IB <;> rfl
      -- on, by mkrl1.py
      go_wp2_with fail
      refine (HI.out u1 w5 (P1.out.reads hla)).mono ?_
      rintro e w6 ⟨rfl, b4⟩
      have c6 := b7.trans (b4.mono b7.size)
      have Q1 : Hid (OwnK w.heap.size w6 u1 a (71, 0)) := P1.out.below b4 (Nat.le_refl _)
      have Q2 : Hid (OwnK w1.heap.size w6 u2 b (72, 0)) := P2.out.below b4 (Nat.le_refl _)
      clear b4 b7 P1 P2
      go_wp2_with fail
      refine (HRI.out _ w6 (HA.out w6 c6)).mono ?_
      rintro e w7 ⟨rfl, b4⟩
      have c7 := c6.trans (b4.mono c6.size)
      have P1 : Hid (OwnK w.heap.size w7 u1 a (71, 0)) := Q1.out.below b4 (Nat.le_refl _)
      have P2 : Hid (OwnK w1.heap.size w7 u2 b (72, 0)) := Q2.out.below b4 (Nat.le_refl _)
      clear b4 c6 Q1 Q2
      go_wp2_with fail
      refine (HJ.out u1 u2 w7 (P1.out.reads hla) (P2.out.reads hlb)).mono ?_
      rintro e w8 ⟨v8, rfl, o8, b4⟩
      have c8 := c7.trans (b4.mono c7.size)
      have Q1 : Hid (OwnK w.heap.size w8 u1 a (71, 0)) := P1.out.below b4 (Nat.le_refl _)
      have Q2 : Hid (OwnK w1.heap.size w8 u2 b (72, 0)) := P2.out.below b4 (Nat.le_refl _)
      have J8 := Lib.hid o8
      clear o8
      clear b4 c7 P1 P2
      go_wp2_with fail
      refine (HRJ.out _ _ w8 (HA.out w8 c8) (HB.out w8 c8)).mono ?_
      rintro e w9 ⟨v9, rfl, o9, b4⟩
      have c9 := c8.trans (b4.mono c8.size)
      have P1 : Hid (OwnK w.heap.size w9 u1 a (71, 0)) := Q1.out.below b4 (Nat.le_refl _)
      have P2 : Hid (OwnK w1.heap.size w9 u2 b (72, 0)) := Q2.out.below b4 (Nat.le_refl _)
      have J9 := Lib.hid o9
      have J8' : Hid (OwnR w7.heap.size w9 v8 (joinL a b)) := J8.out.below b4
      clear o9 J8
      clear b4 c8 Q1 Q2
      go_wp2_with fail
      refine (HP.out v8 v9 w9 J8'.out.reads J9.out.reads).mono ?_
      rintro e w10 ⟨rfl, b4⟩
      have c10 := c9.trans (b4.mono c9.size)
      have Q1 : Hid (OwnK w.heap.size w10 u1 a (71, 0)) := P1.out.below b4 (Nat.le_refl _)
      have Q2 : Hid (OwnK w1.heap.size w10 u2 b (72, 0)) := P2.out.below b4 (Nat.le_refl _)
      clear J8' J9
      clear b4 c9 P1 P2
      go_wp2_with fail
      refine (HKA.out w.heap.size u1 _ w10 Q1.out (HA.out w10 c10)).mono ?_
      rintro e w11 ⟨rfl, b4⟩
      have c11 := c10.trans (b4.mono c10.size)
      have P1 : Hid (OwnK w.heap.size w11 u1 a (71, 0)) := Q1.out.below b4 (Nat.le_refl _)
      have P2 : Hid (OwnK w1.heap.size w11 u2 b (72, 0)) := Q2.out.below b4 (Nat.le_refl _)
      clear b4 c10 Q1 Q2
      go_wp2_with fail
      refine (HKB.out w1.heap.size u2 _ w11 P2.out (HB.out w11 c11)).mono ?_
      rintro e w12 ⟨rfl, b4⟩
      have c12 := c11.trans (b4.mono c11.size)
      have Q1 : Hid (OwnK w.heap.size w12 u1 a (71, 0)) := P1.out.below b4 (Nat.le_refl _)
      have Q2 : Hid (OwnK w1.heap.size w12 u2 b (72, 0)) := P2.out.below b4 (Nat.le_refl _)
      clear b4 c11 P1 P2
      go_wp2_with fail
      go_ret
      exact ⟨rfl, c12⟩
    · obtain ⟨Aa, ca, rfl, _, _⟩ := ha
      obtain ⟨Ab, cb, rfl, _, _⟩ := hb
      have hcast : ¬ ((a.length : Int) > 100) := by omega
      have hcast2 : ((b.length : Int) > 100) := by omega
      go_enter Try.func3, Try.ntmps3
      go_wp2_with fail
      refine (HAW.out w).mono ?_
      rintro e w3 ⟨rfl, b4⟩
      go_wp2_with fail
      go_ret
      exact ⟨rfl, b4⟩
  · obtain ⟨Aa, ca, rfl, _, _⟩ := ha
    obtain ⟨Ab, cb, rfl, _, _⟩ := hb
    have hcast : ((a.length : Int) > 100) := by omega
    go_enter Try.func3, Try.ntmps3
    go_wp2_with fail
    refine (HAW.out w).mono ?_
    rintro e w3 ⟨rfl, b4⟩
    go_wp2_with fail
    go_ret
    exact ⟨rfl, b4⟩
end Go.Proofs.Ytpaojmiemjndlaa
