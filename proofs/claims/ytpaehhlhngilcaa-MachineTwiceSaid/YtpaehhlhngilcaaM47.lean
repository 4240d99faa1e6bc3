import Derived.Test.YtpaehhlhngilcaaM35
import Derived.Deep.RegionHeld3
import Derived.Test.YtpaehhlhngilcaaM21
import Derived.BigQuiet
/- what is reached of it -/
namespace Go.Proofs.Ytpaehhlhngilcaa
open Go.RowKit Tx Vc Ct
set_option maxHeartbeats 16000000 in
set_option maxRecDepth 100000 in
theorem machineTwice_any (m : Mod) (z : Int) (w : World) : Calls Try.prog 5 #[agM m, .int .i64 z] w fun e w' => e = .returned (.bool true) ∧ Below w.heap.size w w' := by
  have HAW := Lib.hid (fun W => mawake_any W)
  obtain ⟨a, b, c, d, f⟩ := m
  rw [← agM_mk]
  obtain ⟨R, hR⟩ : ∃ R, rightM ⟨a, b, c, d, f⟩ = R := ⟨_, rfl⟩
  have HR := Lib.hid hR
  obtain ⟨W0, hW0⟩ : ∃ W, w.alloc (.cells #[.bool a, .bool b, .bool c, .bool d, .bool f] 23) = W := ⟨_, rfl⟩
  obtain ⟨p, hp⟩ : ∃ g, w.heap.size = g := ⟨_, rfl⟩
  have Kp_0 : Hid (Bk W0 p 23 #[.bool a, .bool b, .bool c, .bool d, .bool f]) := by rw [← hW0, ← hp]; exact Bk.new _ _ _
  have B_0 : Hid (Below w.heap.size w W0) := by rw [← hW0]; exact (Below.refl _ _).alloc (Nat.le_refl _) _
  have HLp : Hid (w.heap.size ≤ p) := by unfold Hid; omega
  have HW0 := Lib.hid hW0
  have HAp := Lib.hid hp
  clear hW0 hp
  have HRI := Lib.hid (rightM_any a b c d f W0)
  rw [hR] at HRI
  clear hR
  go_enter Try.func5, Try.ntmps5
  go_upto_region 1 with fail
  (try rw [HW0.out])
  (try rw [HAp.out])
  have cp0 : W0.cell? ⟨p, 0, none⟩ = some (.bool a) := Kp_0.out.cell 0
  have cp1 : W0.cell? ⟨p, 1, none⟩ = some (.bool b) := Kp_0.out.cell 1
  have cp2 : W0.cell? ⟨p, 2, none⟩ = some (.bool c) := Kp_0.out.cell 2
  have cp3 : W0.cell? ⟨p, 3, none⟩ = some (.bool d) := Kp_0.out.cell 3
  have cp4 : W0.cell? ⟨p, 4, none⟩ = some (.bool f) := Kp_0.out.cell 4
  go_wp2_with fail
  refine HRI.out.mono ?_
  rintro e v0 ⟨rfl, b0⟩
  clear cp0 cp1 cp2 cp3 cp4
  have Kp_1 : Hid (Bk v0 p 23 #[.bool a, .bool b, .bool c, .bool d, .bool f]) := Kp_0.out.below b0 Kp_0.out.lt
  have B_1 : Hid (Below w.heap.size w v0) := B_0.out.trans (b0.mono B_0.out.size)
  clear Kp_0 B_0
  clear b0 HRI
  cases R with
  | false =>
    go_wp2_with fail
    refine (HAW.out v0).mono ?_
    rintro e v1 ⟨rfl, b1⟩
    have B1 : Hid (Below w.heap.size w v1) := B_1.out.trans (b1.mono B_1.out.size)
    clear b1
    go_wp2_with fail
    go_ret
    exact ⟨rfl, B1.out⟩
  | true =>
    obtain ⟨ev, hev, hE⟩ := mod8_any z
    have HE := Lib.hid hE
    clear hE
    go_upto_region 4 with fail
    (try rw [hev])
    have hE := HE.out
    clear hev HE
    rcases hE with rfl | rfl | rfl | rfl | rfl | rfl | rfl | rfl
    · skip
      have hp : ∀ a b c d f : Bool, rightM ⟨a, b, c, d, f⟩ = true → stepM (stepM ⟨a, b, c, d, f⟩ 1) 1 = stepM ⟨a, b, c, d, f⟩ 1 ∧ (stepM ⟨a, b, c, d, f⟩ 1).fr = b ∧ (stepM ⟨a, b, c, d, f⟩ 1).inn = d ∧ (stepM ⟨a, b, c, d, f⟩ 1).app = f := by decide
      obtain ⟨hq, hx1, hx3, hx4⟩ := hp a b c d f HR.out
      clear hp
      obtain ⟨⟨x0, x1, x2, x3, x4⟩, hA⟩ : ∃ A, stepM ⟨a, b, c, d, f⟩ 1 = A := ⟨_, rfl⟩
      rw [hA] at hq hx1 hx3 hx4
      simp only at hx1 hx3 hx4
      obtain rfl := hx1.symm
      obtain rfl := hx3.symm
      obtain rfl := hx4.symm
      have HA := Lib.hid hA
      have HQ := Lib.hid hq
      clear hA hq
      have cp0 : v0.cell? ⟨p, 0, none⟩ = some (.bool a) := Kp_1.out.cell 0
      have cp1 : v0.cell? ⟨p, 1, none⟩ = some (.bool b) := Kp_1.out.cell 1
      have cp2 : v0.cell? ⟨p, 2, none⟩ = some (.bool c) := Kp_1.out.cell 2
      have cp3 : v0.cell? ⟨p, 3, none⟩ = some (.bool d) := Kp_1.out.cell 3
      have cp4 : v0.cell? ⟨p, 4, none⟩ = some (.bool f) := Kp_1.out.cell 4
      obtain ⟨r1, hr1⟩ : ∃ r, (!decide ((⟨x0, b, x2, d, f⟩ : Mod) = ⟨a, b, c, d, f⟩)) = r := ⟨_, rfl⟩
      have HS1 := Lib.hid (step_at ⟨a, b, c, d, f⟩ ⟨x0, b, x2, d, f⟩ (1) r1 (HA.out) hr1 v0)
      clear hr1
      go_wp2_with fail
      refine HS1.out.mono ?_
      rintro e v1 ⟨rfl, b1⟩
      clear cp0 cp1 cp2 cp3 cp4
      have Kp_2 : Hid (Bk v1 p 23 #[.bool a, .bool b, .bool c, .bool d, .bool f]) := Kp_1.out.below b1 Kp_1.out.lt
      have B_2 : Hid (Below w.heap.size w v1) := B_1.out.trans (b1.mono B_1.out.size)
      clear Kp_1 B_1
      clear b1
      obtain ⟨W3, hW3⟩ : ∃ W, v1.alloc (.cells #[.bool x0, .bool b, .bool x2, .bool d, .bool f] 23) = W := ⟨_, rfl⟩
      obtain ⟨q, hq⟩ : ∃ g, v1.heap.size = g := ⟨_, rfl⟩
      have Kp_3 : Hid (Bk W3 p 23 #[.bool a, .bool b, .bool c, .bool d, .bool f]) := by rw [← hW3]; exact Kp_2.out.alloc _
      have HNpq : Hid (p < q) := by have := Kp_2.out.lt; unfold Hid; omega
      have Kq_3 : Hid (Bk W3 q 23 #[.bool x0, .bool b, .bool x2, .bool d, .bool f]) := by rw [← hW3, ← hq]; exact Bk.new _ _ _
      have B_3 : Hid (Below w.heap.size w W3) := by rw [← hW3]; exact B_2.out.alloc B_2.out.size _
      have HLq : Hid (w.heap.size ≤ q) := by have := B_2.out.size; unfold Hid; omega
      have HW3 := Lib.hid hW3
      have HAq := Lib.hid hq
      clear hW3 hq
      clear Kp_2 B_2
      go_upto_region 5 with fail
      (try rw [HW3.out])
      (try rw [HAq.out])
      have cq0 : W3.cell? ⟨q, 0, none⟩ = some (.bool x0) := Kq_3.out.cell 0
      have cq1 : W3.cell? ⟨q, 1, none⟩ = some (.bool b) := Kq_3.out.cell 1
      have cq2 : W3.cell? ⟨q, 2, none⟩ = some (.bool x2) := Kq_3.out.cell 2
      have cq3 : W3.cell? ⟨q, 3, none⟩ = some (.bool d) := Kq_3.out.cell 3
      have cq4 : W3.cell? ⟨q, 4, none⟩ = some (.bool f) := Kq_3.out.cell 4
      have hr3 : (!decide ((⟨x0, b, x2, d, f⟩ : Mod) = ⟨x0, b, x2, d, f⟩)) = false := by simp
      have HS3 := Lib.hid (step_at ⟨x0, b, x2, d, f⟩ ⟨x0, b, x2, d, f⟩ (1) false (HQ.out) hr3 W3)
      clear hr3
      go_wp2_with fail
      refine HS3.out.mono ?_
      rintro e v3 ⟨rfl, b3⟩
      clear cq0 cq1 cq2 cq3 cq4
      have Kp_4 : Hid (Bk v3 p 23 #[.bool a, .bool b, .bool c, .bool d, .bool f]) := Kp_3.out.below b3 Kp_3.out.lt
      have Kq_4 : Hid (Bk v3 q 23 #[.bool x0, .bool b, .bool x2, .bool d, .bool f]) := Kq_3.out.below b3 Kq_3.out.lt
      have B_4 : Hid (Below w.heap.size w v3) := B_3.out.trans (b3.mono B_3.out.size)
      clear Kp_3 Kq_3 B_3
      clear b3
      obtain ⟨W5, hW5⟩ : ∃ W, v3.alloc (.cells #[.bool x0, .bool b, .bool x2, .bool d, .bool f] 23) = W := ⟨_, rfl⟩
      obtain ⟨r, hr⟩ : ∃ g, v3.heap.size = g := ⟨_, rfl⟩
      have Kp_5 : Hid (Bk W5 p 23 #[.bool a, .bool b, .bool c, .bool d, .bool f]) := by rw [← hW5]; exact Kp_4.out.alloc _
      have HNpr : Hid (p < r) := by have := Kp_4.out.lt; unfold Hid; omega
      have Kq_5 : Hid (Bk W5 q 23 #[.bool x0, .bool b, .bool x2, .bool d, .bool f]) := by rw [← hW5]; exact Kq_4.out.alloc _
      have HNqr : Hid (q < r) := by have := Kq_4.out.lt; unfold Hid; omega
      have Kr_5 : Hid (Bk W5 r 23 #[.bool x0, .bool b, .bool x2, .bool d, .bool f]) := by rw [← hW5, ← hr]; exact Bk.new _ _ _
      have B_5 : Hid (Below w.heap.size w W5) := by rw [← hW5]; exact B_4.out.alloc B_4.out.size _
      have HLr : Hid (w.heap.size ≤ r) := by have := B_4.out.size; unfold Hid; omega
      have HW5 := Lib.hid hW5
      have HAr := Lib.hid hr
      clear hW5 hr
      clear Kp_4 Kq_4 B_4
      go_upto_region 6 with fail
      (try rw [HW5.out])
      (try rw [HAr.out])
      have q1 := eqlM_at (m := ⟨x0, b, x2, d, f⟩) (n := ⟨x0, b, x2, d, f⟩) (r := true) (by simp)
      have q2 := eqgM_at .eql ⟨x0, b, x2, d, f⟩ ⟨x0, b, x2, d, f⟩
      have cp0 : W5.cell? ⟨p, 0, none⟩ = some (.bool a) := Kp_5.out.cell 0
      have cp1 : W5.cell? ⟨p, 1, none⟩ = some (.bool b) := Kp_5.out.cell 1
      have cp2 : W5.cell? ⟨p, 2, none⟩ = some (.bool c) := Kp_5.out.cell 2
      have cp3 : W5.cell? ⟨p, 3, none⟩ = some (.bool d) := Kp_5.out.cell 3
      have cp4 : W5.cell? ⟨p, 4, none⟩ = some (.bool f) := Kp_5.out.cell 4
      have cq0 : W5.cell? ⟨q, 0, none⟩ = some (.bool x0) := Kq_5.out.cell 0
      have cq1 : W5.cell? ⟨q, 1, none⟩ = some (.bool b) := Kq_5.out.cell 1
      have cq2 : W5.cell? ⟨q, 2, none⟩ = some (.bool x2) := Kq_5.out.cell 2
      have cq3 : W5.cell? ⟨q, 3, none⟩ = some (.bool d) := Kq_5.out.cell 3
      have cq4 : W5.cell? ⟨q, 4, none⟩ = some (.bool f) := Kq_5.out.cell 4
      go_wp2_with fail
      refine (HAW.out W5).mono ?_
      rintro e v5 ⟨rfl, b5⟩
      clear cp0 cp1 cp2 cp3 cp4 cq0 cq1 cq2 cq3 cq4
      have Kp_6 : Hid (Bk v5 p 23 #[.bool a, .bool b, .bool c, .bool d, .bool f]) := Kp_5.out.below b5 Kp_5.out.lt
      have Kq_6 : Hid (Bk v5 q 23 #[.bool x0, .bool b, .bool x2, .bool d, .bool f]) := Kq_5.out.below b5 Kq_5.out.lt
      have Kr_6 : Hid (Bk v5 r 23 #[.bool x0, .bool b, .bool x2, .bool d, .bool f]) := Kr_5.out.below b5 Kr_5.out.lt
      have B_6 : Hid (Below w.heap.size w v5) := B_5.out.trans (b5.mono B_5.out.size)
      clear Kp_5 Kq_5 Kr_5 B_5
      clear b5
      have cp0 : v5.cell? ⟨p, 0, none⟩ = some (.bool a) := Kp_6.out.cell 0
      have cp1 : v5.cell? ⟨p, 1, none⟩ = some (.bool b) := Kp_6.out.cell 1
      have cp2 : v5.cell? ⟨p, 2, none⟩ = some (.bool c) := Kp_6.out.cell 2
      have cp3 : v5.cell? ⟨p, 3, none⟩ = some (.bool d) := Kp_6.out.cell 3
      have cp4 : v5.cell? ⟨p, 4, none⟩ = some (.bool f) := Kp_6.out.cell 4
      have cq0 : v5.cell? ⟨q, 0, none⟩ = some (.bool x0) := Kq_6.out.cell 0
      have cq1 : v5.cell? ⟨q, 1, none⟩ = some (.bool b) := Kq_6.out.cell 1
      have cq2 : v5.cell? ⟨q, 2, none⟩ = some (.bool x2) := Kq_6.out.cell 2
      have cq3 : v5.cell? ⟨q, 3, none⟩ = some (.bool d) := Kq_6.out.cell 3
      have cq4 : v5.cell? ⟨q, 4, none⟩ = some (.bool f) := Kq_6.out.cell 4
      have cr0 : v5.cell? ⟨r, 0, none⟩ = some (.bool x0) := Kr_6.out.cell 0
      have cr1 : v5.cell? ⟨r, 1, none⟩ = some (.bool b) := Kr_6.out.cell 1
      have cr2 : v5.cell? ⟨r, 2, none⟩ = some (.bool x2) := Kr_6.out.cell 2
      have cr3 : v5.cell? ⟨r, 3, none⟩ = some (.bool d) := Kr_6.out.cell 3
      have cr4 : v5.cell? ⟨r, 4, none⟩ = some (.bool f) := Kr_6.out.cell 4
      go_wp2_with fail
      go_ret
      exact ⟨rfl, B_6.out⟩
    · skip
      have hp : ∀ a b c d f : Bool, rightM ⟨a, b, c, d, f⟩ = true → stepM (stepM ⟨a, b, c, d, f⟩ 2) 2 = stepM ⟨a, b, c, d, f⟩ 2 ∧ (stepM ⟨a, b, c, d, f⟩ 2).fr = b ∧ (stepM ⟨a, b, c, d, f⟩ 2).inn = d ∧ (stepM ⟨a, b, c, d, f⟩ 2).app = f := by decide
      obtain ⟨hq, hx1, hx3, hx4⟩ := hp a b c d f HR.out
      clear hp
      obtain ⟨⟨x0, x1, x2, x3, x4⟩, hA⟩ : ∃ A, stepM ⟨a, b, c, d, f⟩ 2 = A := ⟨_, rfl⟩
      rw [hA] at hq hx1 hx3 hx4
      simp only at hx1 hx3 hx4
      obtain rfl := hx1.symm
      obtain rfl := hx3.symm
      obtain rfl := hx4.symm
      have HA := Lib.hid hA
      have HQ := Lib.hid hq
      clear hA hq
      have cp0 : v0.cell? ⟨p, 0, none⟩ = some (.bool a) := Kp_1.out.cell 0
      have cp1 : v0.cell? ⟨p, 1, none⟩ = some (.bool b) := Kp_1.out.cell 1
      have cp2 : v0.cell? ⟨p, 2, none⟩ = some (.bool c) := Kp_1.out.cell 2
      have cp3 : v0.cell? ⟨p, 3, none⟩ = some (.bool d) := Kp_1.out.cell 3
      have cp4 : v0.cell? ⟨p, 4, none⟩ = some (.bool f) := Kp_1.out.cell 4
      obtain ⟨r1, hr1⟩ : ∃ r, (!decide ((⟨x0, b, x2, d, f⟩ : Mod) = ⟨a, b, c, d, f⟩)) = r := ⟨_, rfl⟩
      have HS1 := Lib.hid (step_at ⟨a, b, c, d, f⟩ ⟨x0, b, x2, d, f⟩ (2) r1 (HA.out) hr1 v0)
      clear hr1
      go_wp2_with fail
      refine HS1.out.mono ?_
      rintro e v1 ⟨rfl, b1⟩
      clear cp0 cp1 cp2 cp3 cp4
      have Kp_2 : Hid (Bk v1 p 23 #[.bool a, .bool b, .bool c, .bool d, .bool f]) := Kp_1.out.below b1 Kp_1.out.lt
      have B_2 : Hid (Below w.heap.size w v1) := B_1.out.trans (b1.mono B_1.out.size)
      clear Kp_1 B_1
      clear b1
      obtain ⟨W3, hW3⟩ : ∃ W, v1.alloc (.cells #[.bool x0, .bool b, .bool x2, .bool d, .bool f] 23) = W := ⟨_, rfl⟩
      obtain ⟨q, hq⟩ : ∃ g, v1.heap.size = g := ⟨_, rfl⟩
      have Kp_3 : Hid (Bk W3 p 23 #[.bool a, .bool b, .bool c, .bool d, .bool f]) := by rw [← hW3]; exact Kp_2.out.alloc _
      have HNpq : Hid (p < q) := by have := Kp_2.out.lt; unfold Hid; omega
      have Kq_3 : Hid (Bk W3 q 23 #[.bool x0, .bool b, .bool x2, .bool d, .bool f]) := by rw [← hW3, ← hq]; exact Bk.new _ _ _
      have B_3 : Hid (Below w.heap.size w W3) := by rw [← hW3]; exact B_2.out.alloc B_2.out.size _
      have HLq : Hid (w.heap.size ≤ q) := by have := B_2.out.size; unfold Hid; omega
      have HW3 := Lib.hid hW3
      have HAq := Lib.hid hq
      clear hW3 hq
      clear Kp_2 B_2
      go_upto_region 5 with fail
      (try rw [HW3.out])
      (try rw [HAq.out])
      have cq0 : W3.cell? ⟨q, 0, none⟩ = some (.bool x0) := Kq_3.out.cell 0
      have cq1 : W3.cell? ⟨q, 1, none⟩ = some (.bool b) := Kq_3.out.cell 1
      have cq2 : W3.cell? ⟨q, 2, none⟩ = some (.bool x2) := Kq_3.out.cell 2
      have cq3 : W3.cell? ⟨q, 3, none⟩ = some (.bool d) := Kq_3.out.cell 3
      have cq4 : W3.cell? ⟨q, 4, none⟩ = some (.bool f) := Kq_3.out.cell 4
      have hr3 : (!decide ((⟨x0, b, x2, d, f⟩ : Mod) = ⟨x0, b, x2, d, f⟩)) = false := by simp
      have HS3 := Lib.hid (step_at ⟨x0, b, x2, d, f⟩ ⟨x0, b, x2, d, f⟩ (2) false (HQ.out) hr3 W3)
      clear hr3
      go_wp2_with fail
      refine HS3.out.mono ?_
      rintro e v3 ⟨rfl, b3⟩
      clear cq0 cq1 cq2 cq3 cq4
      have Kp_4 : Hid (Bk v3 p 23 #[.bool a, .bool b, .bool c, .bool d, .bool f]) := Kp_3.out.below b3 Kp_3.out.lt
      have Kq_4 : Hid (Bk v3 q 23 #[.bool x0, .bool b, .bool x2, .bool d, .bool f]) := Kq_3.out.below b3 Kq_3.out.lt
      have B_4 : Hid (Below w.heap.size w v3) := B_3.out.trans (b3.mono B_3.out.size)
      clear Kp_3 Kq_3 B_3
      clear b3
      obtain ⟨W5, hW5⟩ : ∃ W, v3.alloc (.cells #[.bool x0, .bool b, .bool x2, .bool d, .bool f] 23) = W := ⟨_, rfl⟩
      obtain ⟨r, hr⟩ : ∃ g, v3.heap.size = g := ⟨_, rfl⟩
      have Kp_5 : Hid (Bk W5 p 23 #[.bool a, .bool b, .bool c, .bool d, .bool f]) := by rw [← hW5]; exact Kp_4.out.alloc _
      have HNpr : Hid (p < r) := by have := Kp_4.out.lt; unfold Hid; omega
      have Kq_5 : Hid (Bk W5 q 23 #[.bool x0, .bool b, .bool x2, .bool d, .bool f]) := by rw [← hW5]; exact Kq_4.out.alloc _
      have HNqr : Hid (q < r) := by have := Kq_4.out.lt; unfold Hid; omega
      have Kr_5 : Hid (Bk W5 r 23 #[.bool x0, .bool b, .bool x2, .bool d, .bool f]) := by rw [← hW5, ← hr]; exact Bk.new _ _ _
      have B_5 : Hid (Below w.heap.size w W5) := by rw [← hW5]; exact B_4.out.alloc B_4.out.size _
      have HLr : Hid (w.heap.size ≤ r) := by have := B_4.out.size; unfold Hid; omega
      have HW5 := Lib.hid hW5
      have HAr := Lib.hid hr
      clear hW5 hr
      clear Kp_4 Kq_4 B_4
      go_upto_region 6 with fail
      (try rw [HW5.out])
      (try rw [HAr.out])
      have q1 := eqlM_at (m := ⟨x0, b, x2, d, f⟩) (n := ⟨x0, b, x2, d, f⟩) (r := true) (by simp)
      have q2 := eqgM_at .eql ⟨x0, b, x2, d, f⟩ ⟨x0, b, x2, d, f⟩
      have cp0 : W5.cell? ⟨p, 0, none⟩ = some (.bool a) := Kp_5.out.cell 0
      have cp1 : W5.cell? ⟨p, 1, none⟩ = some (.bool b) := Kp_5.out.cell 1
      have cp2 : W5.cell? ⟨p, 2, none⟩ = some (.bool c) := Kp_5.out.cell 2
      have cp3 : W5.cell? ⟨p, 3, none⟩ = some (.bool d) := Kp_5.out.cell 3
      have cp4 : W5.cell? ⟨p, 4, none⟩ = some (.bool f) := Kp_5.out.cell 4
      have cq0 : W5.cell? ⟨q, 0, none⟩ = some (.bool x0) := Kq_5.out.cell 0
      have cq1 : W5.cell? ⟨q, 1, none⟩ = some (.bool b) := Kq_5.out.cell 1
      have cq2 : W5.cell? ⟨q, 2, none⟩ = some (.bool x2) := Kq_5.out.cell 2
      have cq3 : W5.cell? ⟨q, 3, none⟩ = some (.bool d) := Kq_5.out.cell 3
      have cq4 : W5.cell? ⟨q, 4, none⟩ = some (.bool f) := Kq_5.out.cell 4
      go_wp2_with fail
      refine (HAW.out W5).mono ?_
      rintro e v5 ⟨rfl, b5⟩
      clear cp0 cp1 cp2 cp3 cp4 cq0 cq1 cq2 cq3 cq4
      have Kp_6 : Hid (Bk v5 p 23 #[.bool a, .bool b, .bool c, .bool d, .bool f]) := Kp_5.out.below b5 Kp_5.out.lt
      have Kq_6 : Hid (Bk v5 q 23 #[.bool x0, .bool b, .bool x2, .bool d, .bool f]) := Kq_5.out.below b5 Kq_5.out.lt
      have Kr_6 : Hid (Bk v5 r 23 #[.bool x0, .bool b, .bool x2, .bool d, .bool f]) := Kr_5.out.below b5 Kr_5.out.lt
      have B_6 : Hid (Below w.heap.size w v5) := B_5.out.trans (b5.mono B_5.out.size)
      clear Kp_5 Kq_5 Kr_5 B_5
      clear b5
      have cp0 : v5.cell? ⟨p, 0, none⟩ = some (.bool a) := Kp_6.out.cell 0
      have cp1 : v5.cell? ⟨p, 1, none⟩ = some (.bool b) := Kp_6.out.cell 1
      have cp2 : v5.cell? ⟨p, 2, none⟩ = some (.bool c) := Kp_6.out.cell 2
      have cp3 : v5.cell? ⟨p, 3, none⟩ = some (.bool d) := Kp_6.out.cell 3
      have cp4 : v5.cell? ⟨p, 4, none⟩ = some (.bool f) := Kp_6.out.cell 4
      have cq0 : v5.cell? ⟨q, 0, none⟩ = some (.bool x0) := Kq_6.out.cell 0
      have cq1 : v5.cell? ⟨q, 1, none⟩ = some (.bool b) := Kq_6.out.cell 1
      have cq2 : v5.cell? ⟨q, 2, none⟩ = some (.bool x2) := Kq_6.out.cell 2
      have cq3 : v5.cell? ⟨q, 3, none⟩ = some (.bool d) := Kq_6.out.cell 3
      have cq4 : v5.cell? ⟨q, 4, none⟩ = some (.bool f) := Kq_6.out.cell 4
      have cr0 : v5.cell? ⟨r, 0, none⟩ = some (.bool x0) := Kr_6.out.cell 0
      have cr1 : v5.cell? ⟨r, 1, none⟩ = some (.bool b) := Kr_6.out.cell 1
      have cr2 : v5.cell? ⟨r, 2, none⟩ = some (.bool x2) := Kr_6.out.cell 2
      have cr3 : v5.cell? ⟨r, 3, none⟩ = some (.bool d) := Kr_6.out.cell 3
      have cr4 : v5.cell? ⟨r, 4, none⟩ = some (.bool f) := Kr_6.out.cell 4
      go_wp2_with fail
      go_ret
      exact ⟨rfl, B_6.out⟩
    · skip
      have hp : ∀ a b c d f : Bool, rightM ⟨a, b, c, d, f⟩ = true → stepM (stepM ⟨a, b, c, d, f⟩ 3) 3 = stepM ⟨a, b, c, d, f⟩ 3 ∧ (stepM ⟨a, b, c, d, f⟩ 3).to = a ∧ (stepM ⟨a, b, c, d, f⟩ 3).ask = c := by decide
      obtain ⟨hq, hx0, hx2⟩ := hp a b c d f HR.out
      clear hp
      obtain ⟨⟨x0, x1, x2, x3, x4⟩, hA⟩ : ∃ A, stepM ⟨a, b, c, d, f⟩ 3 = A := ⟨_, rfl⟩
      rw [hA] at hq hx0 hx2
      simp only at hx0 hx2
      obtain rfl := hx0.symm
      obtain rfl := hx2.symm
      have HA := Lib.hid hA
      have HQ := Lib.hid hq
      clear hA hq
      have cp0 : v0.cell? ⟨p, 0, none⟩ = some (.bool a) := Kp_1.out.cell 0
      have cp1 : v0.cell? ⟨p, 1, none⟩ = some (.bool b) := Kp_1.out.cell 1
      have cp2 : v0.cell? ⟨p, 2, none⟩ = some (.bool c) := Kp_1.out.cell 2
      have cp3 : v0.cell? ⟨p, 3, none⟩ = some (.bool d) := Kp_1.out.cell 3
      have cp4 : v0.cell? ⟨p, 4, none⟩ = some (.bool f) := Kp_1.out.cell 4
      obtain ⟨r1, hr1⟩ : ∃ r, (!decide ((⟨a, x1, c, x3, x4⟩ : Mod) = ⟨a, b, c, d, f⟩)) = r := ⟨_, rfl⟩
      have HS1 := Lib.hid (step_at ⟨a, b, c, d, f⟩ ⟨a, x1, c, x3, x4⟩ (3) r1 (HA.out) hr1 v0)
      clear hr1
      go_wp2_with fail
      refine HS1.out.mono ?_
      rintro e v1 ⟨rfl, b1⟩
      clear cp0 cp1 cp2 cp3 cp4
      have Kp_2 : Hid (Bk v1 p 23 #[.bool a, .bool b, .bool c, .bool d, .bool f]) := Kp_1.out.below b1 Kp_1.out.lt
      have B_2 : Hid (Below w.heap.size w v1) := B_1.out.trans (b1.mono B_1.out.size)
      clear Kp_1 B_1
      clear b1
      obtain ⟨W3, hW3⟩ : ∃ W, v1.alloc (.cells #[.bool a, .bool x1, .bool c, .bool x3, .bool x4] 23) = W := ⟨_, rfl⟩
      obtain ⟨q, hq⟩ : ∃ g, v1.heap.size = g := ⟨_, rfl⟩
      have Kp_3 : Hid (Bk W3 p 23 #[.bool a, .bool b, .bool c, .bool d, .bool f]) := by rw [← hW3]; exact Kp_2.out.alloc _
      have HNpq : Hid (p < q) := by have := Kp_2.out.lt; unfold Hid; omega
      have Kq_3 : Hid (Bk W3 q 23 #[.bool a, .bool x1, .bool c, .bool x3, .bool x4]) := by rw [← hW3, ← hq]; exact Bk.new _ _ _
      have B_3 : Hid (Below w.heap.size w W3) := by rw [← hW3]; exact B_2.out.alloc B_2.out.size _
      have HLq : Hid (w.heap.size ≤ q) := by have := B_2.out.size; unfold Hid; omega
      have HW3 := Lib.hid hW3
      have HAq := Lib.hid hq
      clear hW3 hq
      clear Kp_2 B_2
      go_upto_region 5 with fail
      (try rw [HW3.out])
      (try rw [HAq.out])
      have cq0 : W3.cell? ⟨q, 0, none⟩ = some (.bool a) := Kq_3.out.cell 0
      have cq1 : W3.cell? ⟨q, 1, none⟩ = some (.bool x1) := Kq_3.out.cell 1
      have cq2 : W3.cell? ⟨q, 2, none⟩ = some (.bool c) := Kq_3.out.cell 2
      have cq3 : W3.cell? ⟨q, 3, none⟩ = some (.bool x3) := Kq_3.out.cell 3
      have cq4 : W3.cell? ⟨q, 4, none⟩ = some (.bool x4) := Kq_3.out.cell 4
      have hr3 : (!decide ((⟨a, x1, c, x3, x4⟩ : Mod) = ⟨a, x1, c, x3, x4⟩)) = false := by simp
      have HS3 := Lib.hid (step_at ⟨a, x1, c, x3, x4⟩ ⟨a, x1, c, x3, x4⟩ (3) false (HQ.out) hr3 W3)
      clear hr3
      go_wp2_with fail
      refine HS3.out.mono ?_
      rintro e v3 ⟨rfl, b3⟩
      clear cq0 cq1 cq2 cq3 cq4
      have Kp_4 : Hid (Bk v3 p 23 #[.bool a, .bool b, .bool c, .bool d, .bool f]) := Kp_3.out.below b3 Kp_3.out.lt
      have Kq_4 : Hid (Bk v3 q 23 #[.bool a, .bool x1, .bool c, .bool x3, .bool x4]) := Kq_3.out.below b3 Kq_3.out.lt
      have B_4 : Hid (Below w.heap.size w v3) := B_3.out.trans (b3.mono B_3.out.size)
      clear Kp_3 Kq_3 B_3
      clear b3
      obtain ⟨W5, hW5⟩ : ∃ W, v3.alloc (.cells #[.bool a, .bool x1, .bool c, .bool x3, .bool x4] 23) = W := ⟨_, rfl⟩
      obtain ⟨r, hr⟩ : ∃ g, v3.heap.size = g := ⟨_, rfl⟩
      have Kp_5 : Hid (Bk W5 p 23 #[.bool a, .bool b, .bool c, .bool d, .bool f]) := by rw [← hW5]; exact Kp_4.out.alloc _
      have HNpr : Hid (p < r) := by have := Kp_4.out.lt; unfold Hid; omega
      have Kq_5 : Hid (Bk W5 q 23 #[.bool a, .bool x1, .bool c, .bool x3, .bool x4]) := by rw [← hW5]; exact Kq_4.out.alloc _
      have HNqr : Hid (q < r) := by have := Kq_4.out.lt; unfold Hid; omega
      have Kr_5 : Hid (Bk W5 r 23 #[.bool a, .bool x1, .bool c, .bool x3, .bool x4]) := by rw [← hW5, ← hr]; exact Bk.new _ _ _
      have B_5 : Hid (Below w.heap.size w W5) := by rw [← hW5]; exact B_4.out.alloc B_4.out.size _
      have HLr : Hid (w.heap.size ≤ r) := by have := B_4.out.size; unfold Hid; omega
      have HW5 := Lib.hid hW5
      have HAr := Lib.hid hr
      clear hW5 hr
      clear Kp_4 Kq_4 B_4
      go_upto_region 6 with fail
      (try rw [HW5.out])
      (try rw [HAr.out])
      have q1 := eqlM_at (m := ⟨a, x1, c, x3, x4⟩) (n := ⟨a, x1, c, x3, x4⟩) (r := true) (by simp)
      have q2 := eqgM_at .eql ⟨a, x1, c, x3, x4⟩ ⟨a, x1, c, x3, x4⟩
      have cp0 : W5.cell? ⟨p, 0, none⟩ = some (.bool a) := Kp_5.out.cell 0
      have cp1 : W5.cell? ⟨p, 1, none⟩ = some (.bool b) := Kp_5.out.cell 1
      have cp2 : W5.cell? ⟨p, 2, none⟩ = some (.bool c) := Kp_5.out.cell 2
      have cp3 : W5.cell? ⟨p, 3, none⟩ = some (.bool d) := Kp_5.out.cell 3
      have cp4 : W5.cell? ⟨p, 4, none⟩ = some (.bool f) := Kp_5.out.cell 4
      have cq0 : W5.cell? ⟨q, 0, none⟩ = some (.bool a) := Kq_5.out.cell 0
      have cq1 : W5.cell? ⟨q, 1, none⟩ = some (.bool x1) := Kq_5.out.cell 1
      have cq2 : W5.cell? ⟨q, 2, none⟩ = some (.bool c) := Kq_5.out.cell 2
      have cq3 : W5.cell? ⟨q, 3, none⟩ = some (.bool x3) := Kq_5.out.cell 3
      have cq4 : W5.cell? ⟨q, 4, none⟩ = some (.bool x4) := Kq_5.out.cell 4
      obtain ⟨p1, h1⟩ : ∃ r, (x1 == b) = r := ⟨_, rfl⟩
      obtain ⟨p2, h2⟩ : ∃ r, (x3 == d) = r := ⟨_, rfl⟩
      obtain ⟨p3, h3⟩ : ∃ r, (x4 == f) = r := ⟨_, rfl⟩
      cases p1 with
      | false =>
        go_wp2_with fail
        refine (HAW.out W5).mono ?_
        rintro e v5 ⟨rfl, b5⟩
        clear cp0 cp1 cp2 cp3 cp4 cq0 cq1 cq2 cq3 cq4
        have Kp_6 : Hid (Bk v5 p 23 #[.bool a, .bool b, .bool c, .bool d, .bool f]) := Kp_5.out.below b5 Kp_5.out.lt
        have Kq_6 : Hid (Bk v5 q 23 #[.bool a, .bool x1, .bool c, .bool x3, .bool x4]) := Kq_5.out.below b5 Kq_5.out.lt
        have Kr_6 : Hid (Bk v5 r 23 #[.bool a, .bool x1, .bool c, .bool x3, .bool x4]) := Kr_5.out.below b5 Kr_5.out.lt
        have B_6 : Hid (Below w.heap.size w v5) := B_5.out.trans (b5.mono B_5.out.size)
        clear Kp_5 Kq_5 Kr_5 B_5
        clear b5
        have cp0 : v5.cell? ⟨p, 0, none⟩ = some (.bool a) := Kp_6.out.cell 0
        have cp1 : v5.cell? ⟨p, 1, none⟩ = some (.bool b) := Kp_6.out.cell 1
        have cp2 : v5.cell? ⟨p, 2, none⟩ = some (.bool c) := Kp_6.out.cell 2
        have cp3 : v5.cell? ⟨p, 3, none⟩ = some (.bool d) := Kp_6.out.cell 3
        have cp4 : v5.cell? ⟨p, 4, none⟩ = some (.bool f) := Kp_6.out.cell 4
        have cq0 : v5.cell? ⟨q, 0, none⟩ = some (.bool a) := Kq_6.out.cell 0
        have cq1 : v5.cell? ⟨q, 1, none⟩ = some (.bool x1) := Kq_6.out.cell 1
        have cq2 : v5.cell? ⟨q, 2, none⟩ = some (.bool c) := Kq_6.out.cell 2
        have cq3 : v5.cell? ⟨q, 3, none⟩ = some (.bool x3) := Kq_6.out.cell 3
        have cq4 : v5.cell? ⟨q, 4, none⟩ = some (.bool x4) := Kq_6.out.cell 4
        have cr0 : v5.cell? ⟨r, 0, none⟩ = some (.bool a) := Kr_6.out.cell 0
        have cr1 : v5.cell? ⟨r, 1, none⟩ = some (.bool x1) := Kr_6.out.cell 1
        have cr2 : v5.cell? ⟨r, 2, none⟩ = some (.bool c) := Kr_6.out.cell 2
        have cr3 : v5.cell? ⟨r, 3, none⟩ = some (.bool x3) := Kr_6.out.cell 3
        have cr4 : v5.cell? ⟨r, 4, none⟩ = some (.bool x4) := Kr_6.out.cell 4
        go_wp2_with fail
        go_ret
        exact ⟨rfl, B_6.out⟩
      | true =>
        cases p2 with
        | false =>
          go_wp2_with fail
          refine (HAW.out W5).mono ?_
          rintro e v5 ⟨rfl, b5⟩
          clear cp0 cp1 cp2 cp3 cp4 cq0 cq1 cq2 cq3 cq4
          have Kp_6 : Hid (Bk v5 p 23 #[.bool a, .bool b, .bool c, .bool d, .bool f]) := Kp_5.out.below b5 Kp_5.out.lt
          have Kq_6 : Hid (Bk v5 q 23 #[.bool a, .bool x1, .bool c, .bool x3, .bool x4]) := Kq_5.out.below b5 Kq_5.out.lt
          have Kr_6 : Hid (Bk v5 r 23 #[.bool a, .bool x1, .bool c, .bool x3, .bool x4]) := Kr_5.out.below b5 Kr_5.out.lt
          have B_6 : Hid (Below w.heap.size w v5) := B_5.out.trans (b5.mono B_5.out.size)
          clear Kp_5 Kq_5 Kr_5 B_5
          clear b5
          have cp0 : v5.cell? ⟨p, 0, none⟩ = some (.bool a) := Kp_6.out.cell 0
          have cp1 : v5.cell? ⟨p, 1, none⟩ = some (.bool b) := Kp_6.out.cell 1
          have cp2 : v5.cell? ⟨p, 2, none⟩ = some (.bool c) := Kp_6.out.cell 2
          have cp3 : v5.cell? ⟨p, 3, none⟩ = some (.bool d) := Kp_6.out.cell 3
          have cp4 : v5.cell? ⟨p, 4, none⟩ = some (.bool f) := Kp_6.out.cell 4
          have cq0 : v5.cell? ⟨q, 0, none⟩ = some (.bool a) := Kq_6.out.cell 0
          have cq1 : v5.cell? ⟨q, 1, none⟩ = some (.bool x1) := Kq_6.out.cell 1
          have cq2 : v5.cell? ⟨q, 2, none⟩ = some (.bool c) := Kq_6.out.cell 2
          have cq3 : v5.cell? ⟨q, 3, none⟩ = some (.bool x3) := Kq_6.out.cell 3
          have cq4 : v5.cell? ⟨q, 4, none⟩ = some (.bool x4) := Kq_6.out.cell 4
          have cr0 : v5.cell? ⟨r, 0, none⟩ = some (.bool a) := Kr_6.out.cell 0
          have cr1 : v5.cell? ⟨r, 1, none⟩ = some (.bool x1) := Kr_6.out.cell 1
          have cr2 : v5.cell? ⟨r, 2, none⟩ = some (.bool c) := Kr_6.out.cell 2
          have cr3 : v5.cell? ⟨r, 3, none⟩ = some (.bool x3) := Kr_6.out.cell 3
          have cr4 : v5.cell? ⟨r, 4, none⟩ = some (.bool x4) := Kr_6.out.cell 4
          go_wp2_with fail
          go_ret
          exact ⟨rfl, B_6.out⟩
        | true =>
          cases p3 with
          | false =>
            go_wp2_with fail
            refine (HAW.out W5).mono ?_
            rintro e v5 ⟨rfl, b5⟩
            clear cp0 cp1 cp2 cp3 cp4 cq0 cq1 cq2 cq3 cq4
            have Kp_6 : Hid (Bk v5 p 23 #[.bool a, .bool b, .bool c, .bool d, .bool f]) := Kp_5.out.below b5 Kp_5.out.lt
            have Kq_6 : Hid (Bk v5 q 23 #[.bool a, .bool x1, .bool c, .bool x3, .bool x4]) := Kq_5.out.below b5 Kq_5.out.lt
            have Kr_6 : Hid (Bk v5 r 23 #[.bool a, .bool x1, .bool c, .bool x3, .bool x4]) := Kr_5.out.below b5 Kr_5.out.lt
            have B_6 : Hid (Below w.heap.size w v5) := B_5.out.trans (b5.mono B_5.out.size)
            clear Kp_5 Kq_5 Kr_5 B_5
            clear b5
            have cp0 : v5.cell? ⟨p, 0, none⟩ = some (.bool a) := Kp_6.out.cell 0
            have cp1 : v5.cell? ⟨p, 1, none⟩ = some (.bool b) := Kp_6.out.cell 1
            have cp2 : v5.cell? ⟨p, 2, none⟩ = some (.bool c) := Kp_6.out.cell 2
            have cp3 : v5.cell? ⟨p, 3, none⟩ = some (.bool d) := Kp_6.out.cell 3
            have cp4 : v5.cell? ⟨p, 4, none⟩ = some (.bool f) := Kp_6.out.cell 4
            have cq0 : v5.cell? ⟨q, 0, none⟩ = some (.bool a) := Kq_6.out.cell 0
            have cq1 : v5.cell? ⟨q, 1, none⟩ = some (.bool x1) := Kq_6.out.cell 1
            have cq2 : v5.cell? ⟨q, 2, none⟩ = some (.bool c) := Kq_6.out.cell 2
            have cq3 : v5.cell? ⟨q, 3, none⟩ = some (.bool x3) := Kq_6.out.cell 3
            have cq4 : v5.cell? ⟨q, 4, none⟩ = some (.bool x4) := Kq_6.out.cell 4
            have cr0 : v5.cell? ⟨r, 0, none⟩ = some (.bool a) := Kr_6.out.cell 0
            have cr1 : v5.cell? ⟨r, 1, none⟩ = some (.bool x1) := Kr_6.out.cell 1
            have cr2 : v5.cell? ⟨r, 2, none⟩ = some (.bool c) := Kr_6.out.cell 2
            have cr3 : v5.cell? ⟨r, 3, none⟩ = some (.bool x3) := Kr_6.out.cell 3
            have cr4 : v5.cell? ⟨r, 4, none⟩ = some (.bool x4) := Kr_6.out.cell 4
            go_wp2_with fail
            go_ret
            exact ⟨rfl, B_6.out⟩
          | true =>
            go_wp2_with fail
            refine (HAW.out W5).mono ?_
            rintro e v5 ⟨rfl, b5⟩
            clear cp0 cp1 cp2 cp3 cp4 cq0 cq1 cq2 cq3 cq4
            have Kp_6 : Hid (Bk v5 p 23 #[.bool a, .bool b, .bool c, .bool d, .bool f]) := Kp_5.out.below b5 Kp_5.out.lt
            have Kq_6 : Hid (Bk v5 q 23 #[.bool a, .bool x1, .bool c, .bool x3, .bool x4]) := Kq_5.out.below b5 Kq_5.out.lt
            have Kr_6 : Hid (Bk v5 r 23 #[.bool a, .bool x1, .bool c, .bool x3, .bool x4]) := Kr_5.out.below b5 Kr_5.out.lt
            have B_6 : Hid (Below w.heap.size w v5) := B_5.out.trans (b5.mono B_5.out.size)
            clear Kp_5 Kq_5 Kr_5 B_5
            clear b5
            have cp0 : v5.cell? ⟨p, 0, none⟩ = some (.bool a) := Kp_6.out.cell 0
            have cp1 : v5.cell? ⟨p, 1, none⟩ = some (.bool b) := Kp_6.out.cell 1
            have cp2 : v5.cell? ⟨p, 2, none⟩ = some (.bool c) := Kp_6.out.cell 2
            have cp3 : v5.cell? ⟨p, 3, none⟩ = some (.bool d) := Kp_6.out.cell 3
            have cp4 : v5.cell? ⟨p, 4, none⟩ = some (.bool f) := Kp_6.out.cell 4
            have cq0 : v5.cell? ⟨q, 0, none⟩ = some (.bool a) := Kq_6.out.cell 0
            have cq1 : v5.cell? ⟨q, 1, none⟩ = some (.bool x1) := Kq_6.out.cell 1
            have cq2 : v5.cell? ⟨q, 2, none⟩ = some (.bool c) := Kq_6.out.cell 2
            have cq3 : v5.cell? ⟨q, 3, none⟩ = some (.bool x3) := Kq_6.out.cell 3
            have cq4 : v5.cell? ⟨q, 4, none⟩ = some (.bool x4) := Kq_6.out.cell 4
            have cr0 : v5.cell? ⟨r, 0, none⟩ = some (.bool a) := Kr_6.out.cell 0
            have cr1 : v5.cell? ⟨r, 1, none⟩ = some (.bool x1) := Kr_6.out.cell 1
            have cr2 : v5.cell? ⟨r, 2, none⟩ = some (.bool c) := Kr_6.out.cell 2
            have cr3 : v5.cell? ⟨r, 3, none⟩ = some (.bool x3) := Kr_6.out.cell 3
            have cr4 : v5.cell? ⟨r, 4, none⟩ = some (.bool x4) := Kr_6.out.cell 4
            go_wp2_with fail
            go_ret
            exact ⟨rfl, B_6.out⟩
    · skip
      have hp : ∀ a b c d f : Bool, rightM ⟨a, b, c, d, f⟩ = true → stepM (stepM ⟨a, b, c, d, f⟩ 4) 4 = stepM ⟨a, b, c, d, f⟩ 4 ∧ (stepM ⟨a, b, c, d, f⟩ 4).to = a ∧ (stepM ⟨a, b, c, d, f⟩ 4).ask = c := by decide
      obtain ⟨hq, hx0, hx2⟩ := hp a b c d f HR.out
      clear hp
      obtain ⟨⟨x0, x1, x2, x3, x4⟩, hA⟩ : ∃ A, stepM ⟨a, b, c, d, f⟩ 4 = A := ⟨_, rfl⟩
      rw [hA] at hq hx0 hx2
      simp only at hx0 hx2
      obtain rfl := hx0.symm
      obtain rfl := hx2.symm
      have HA := Lib.hid hA
      have HQ := Lib.hid hq
      clear hA hq
      have cp0 : v0.cell? ⟨p, 0, none⟩ = some (.bool a) := Kp_1.out.cell 0
      have cp1 : v0.cell? ⟨p, 1, none⟩ = some (.bool b) := Kp_1.out.cell 1
      have cp2 : v0.cell? ⟨p, 2, none⟩ = some (.bool c) := Kp_1.out.cell 2
      have cp3 : v0.cell? ⟨p, 3, none⟩ = some (.bool d) := Kp_1.out.cell 3
      have cp4 : v0.cell? ⟨p, 4, none⟩ = some (.bool f) := Kp_1.out.cell 4
      obtain ⟨r1, hr1⟩ : ∃ r, (!decide ((⟨a, x1, c, x3, x4⟩ : Mod) = ⟨a, b, c, d, f⟩)) = r := ⟨_, rfl⟩
      have HS1 := Lib.hid (step_at ⟨a, b, c, d, f⟩ ⟨a, x1, c, x3, x4⟩ (4) r1 (HA.out) hr1 v0)
      clear hr1
      go_wp2_with fail
      refine HS1.out.mono ?_
      rintro e v1 ⟨rfl, b1⟩
      clear cp0 cp1 cp2 cp3 cp4
      have Kp_2 : Hid (Bk v1 p 23 #[.bool a, .bool b, .bool c, .bool d, .bool f]) := Kp_1.out.below b1 Kp_1.out.lt
      have B_2 : Hid (Below w.heap.size w v1) := B_1.out.trans (b1.mono B_1.out.size)
      clear Kp_1 B_1
      clear b1
      obtain ⟨W3, hW3⟩ : ∃ W, v1.alloc (.cells #[.bool a, .bool x1, .bool c, .bool x3, .bool x4] 23) = W := ⟨_, rfl⟩
      obtain ⟨q, hq⟩ : ∃ g, v1.heap.size = g := ⟨_, rfl⟩
      have Kp_3 : Hid (Bk W3 p 23 #[.bool a, .bool b, .bool c, .bool d, .bool f]) := by rw [← hW3]; exact Kp_2.out.alloc _
      have HNpq : Hid (p < q) := by have := Kp_2.out.lt; unfold Hid; omega
      have Kq_3 : Hid (Bk W3 q 23 #[.bool a, .bool x1, .bool c, .bool x3, .bool x4]) := by rw [← hW3, ← hq]; exact Bk.new _ _ _
      have B_3 : Hid (Below w.heap.size w W3) := by rw [← hW3]; exact B_2.out.alloc B_2.out.size _
      have HLq : Hid (w.heap.size ≤ q) := by have := B_2.out.size; unfold Hid; omega
      have HW3 := Lib.hid hW3
      have HAq := Lib.hid hq
      clear hW3 hq
      clear Kp_2 B_2
      go_upto_region 5 with fail
      (try rw [HW3.out])
      (try rw [HAq.out])
      have cq0 : W3.cell? ⟨q, 0, none⟩ = some (.bool a) := Kq_3.out.cell 0
      have cq1 : W3.cell? ⟨q, 1, none⟩ = some (.bool x1) := Kq_3.out.cell 1
      have cq2 : W3.cell? ⟨q, 2, none⟩ = some (.bool c) := Kq_3.out.cell 2
      have cq3 : W3.cell? ⟨q, 3, none⟩ = some (.bool x3) := Kq_3.out.cell 3
      have cq4 : W3.cell? ⟨q, 4, none⟩ = some (.bool x4) := Kq_3.out.cell 4
      have hr3 : (!decide ((⟨a, x1, c, x3, x4⟩ : Mod) = ⟨a, x1, c, x3, x4⟩)) = false := by simp
      have HS3 := Lib.hid (step_at ⟨a, x1, c, x3, x4⟩ ⟨a, x1, c, x3, x4⟩ (4) false (HQ.out) hr3 W3)
      clear hr3
      go_wp2_with fail
      refine HS3.out.mono ?_
      rintro e v3 ⟨rfl, b3⟩
      clear cq0 cq1 cq2 cq3 cq4
      have Kp_4 : Hid (Bk v3 p 23 #[.bool a, .bool b, .bool c, .bool d, .bool f]) := Kp_3.out.below b3 Kp_3.out.lt
      have Kq_4 : Hid (Bk v3 q 23 #[.bool a, .bool x1, .bool c, .bool x3, .bool x4]) := Kq_3.out.below b3 Kq_3.out.lt
      have B_4 : Hid (Below w.heap.size w v3) := B_3.out.trans (b3.mono B_3.out.size)
      clear Kp_3 Kq_3 B_3
      clear b3
      obtain ⟨W5, hW5⟩ : ∃ W, v3.alloc (.cells #[.bool a, .bool x1, .bool c, .bool x3, .bool x4] 23) = W := ⟨_, rfl⟩
      obtain ⟨r, hr⟩ : ∃ g, v3.heap.size = g := ⟨_, rfl⟩
      have Kp_5 : Hid (Bk W5 p 23 #[.bool a, .bool b, .bool c, .bool d, .bool f]) := by rw [← hW5]; exact Kp_4.out.alloc _
      have HNpr : Hid (p < r) := by have := Kp_4.out.lt; unfold Hid; omega
      have Kq_5 : Hid (Bk W5 q 23 #[.bool a, .bool x1, .bool c, .bool x3, .bool x4]) := by rw [← hW5]; exact Kq_4.out.alloc _
      have HNqr : Hid (q < r) := by have := Kq_4.out.lt; unfold Hid; omega
      have Kr_5 : Hid (Bk W5 r 23 #[.bool a, .bool x1, .bool c, .bool x3, .bool x4]) := by rw [← hW5, ← hr]; exact Bk.new _ _ _
      have B_5 : Hid (Below w.heap.size w W5) := by rw [← hW5]; exact B_4.out.alloc B_4.out.size _
      have HLr : Hid (w.heap.size ≤ r) := by have := B_4.out.size; unfold Hid; omega
      have HW5 := Lib.hid hW5
      have HAr := Lib.hid hr
      clear hW5 hr
      clear Kp_4 Kq_4 B_4
      go_upto_region 6 with fail
      (try rw [HW5.out])
      (try rw [HAr.out])
      have q1 := eqlM_at (m := ⟨a, x1, c, x3, x4⟩) (n := ⟨a, x1, c, x3, x4⟩) (r := true) (by simp)
      have q2 := eqgM_at .eql ⟨a, x1, c, x3, x4⟩ ⟨a, x1, c, x3, x4⟩
      have cp0 : W5.cell? ⟨p, 0, none⟩ = some (.bool a) := Kp_5.out.cell 0
      have cp1 : W5.cell? ⟨p, 1, none⟩ = some (.bool b) := Kp_5.out.cell 1
      have cp2 : W5.cell? ⟨p, 2, none⟩ = some (.bool c) := Kp_5.out.cell 2
      have cp3 : W5.cell? ⟨p, 3, none⟩ = some (.bool d) := Kp_5.out.cell 3
      have cp4 : W5.cell? ⟨p, 4, none⟩ = some (.bool f) := Kp_5.out.cell 4
      have cq0 : W5.cell? ⟨q, 0, none⟩ = some (.bool a) := Kq_5.out.cell 0
      have cq1 : W5.cell? ⟨q, 1, none⟩ = some (.bool x1) := Kq_5.out.cell 1
      have cq2 : W5.cell? ⟨q, 2, none⟩ = some (.bool c) := Kq_5.out.cell 2
      have cq3 : W5.cell? ⟨q, 3, none⟩ = some (.bool x3) := Kq_5.out.cell 3
      have cq4 : W5.cell? ⟨q, 4, none⟩ = some (.bool x4) := Kq_5.out.cell 4
      obtain ⟨p1, h1⟩ : ∃ r, (x1 == b) = r := ⟨_, rfl⟩
      obtain ⟨p2, h2⟩ : ∃ r, (x3 == d) = r := ⟨_, rfl⟩
      obtain ⟨p3, h3⟩ : ∃ r, (x4 == f) = r := ⟨_, rfl⟩
      cases p1 with
      | false =>
        go_wp2_with fail
        refine (HAW.out W5).mono ?_
        rintro e v5 ⟨rfl, b5⟩
        clear cp0 cp1 cp2 cp3 cp4 cq0 cq1 cq2 cq3 cq4
        have Kp_6 : Hid (Bk v5 p 23 #[.bool a, .bool b, .bool c, .bool d, .bool f]) := Kp_5.out.below b5 Kp_5.out.lt
        have Kq_6 : Hid (Bk v5 q 23 #[.bool a, .bool x1, .bool c, .bool x3, .bool x4]) := Kq_5.out.below b5 Kq_5.out.lt
        have Kr_6 : Hid (Bk v5 r 23 #[.bool a, .bool x1, .bool c, .bool x3, .bool x4]) := Kr_5.out.below b5 Kr_5.out.lt
        have B_6 : Hid (Below w.heap.size w v5) := B_5.out.trans (b5.mono B_5.out.size)
        clear Kp_5 Kq_5 Kr_5 B_5
        clear b5
        have cp0 : v5.cell? ⟨p, 0, none⟩ = some (.bool a) := Kp_6.out.cell 0
        have cp1 : v5.cell? ⟨p, 1, none⟩ = some (.bool b) := Kp_6.out.cell 1
        have cp2 : v5.cell? ⟨p, 2, none⟩ = some (.bool c) := Kp_6.out.cell 2
        have cp3 : v5.cell? ⟨p, 3, none⟩ = some (.bool d) := Kp_6.out.cell 3
        have cp4 : v5.cell? ⟨p, 4, none⟩ = some (.bool f) := Kp_6.out.cell 4
        have cq0 : v5.cell? ⟨q, 0, none⟩ = some (.bool a) := Kq_6.out.cell 0
        have cq1 : v5.cell? ⟨q, 1, none⟩ = some (.bool x1) := Kq_6.out.cell 1
        have cq2 : v5.cell? ⟨q, 2, none⟩ = some (.bool c) := Kq_6.out.cell 2
        have cq3 : v5.cell? ⟨q, 3, none⟩ = some (.bool x3) := Kq_6.out.cell 3
        have cq4 : v5.cell? ⟨q, 4, none⟩ = some (.bool x4) := Kq_6.out.cell 4
        have cr0 : v5.cell? ⟨r, 0, none⟩ = some (.bool a) := Kr_6.out.cell 0
        have cr1 : v5.cell? ⟨r, 1, none⟩ = some (.bool x1) := Kr_6.out.cell 1
        have cr2 : v5.cell? ⟨r, 2, none⟩ = some (.bool c) := Kr_6.out.cell 2
        have cr3 : v5.cell? ⟨r, 3, none⟩ = some (.bool x3) := Kr_6.out.cell 3
        have cr4 : v5.cell? ⟨r, 4, none⟩ = some (.bool x4) := Kr_6.out.cell 4
        go_wp2_with fail
        go_ret
        exact ⟨rfl, B_6.out⟩
      | true =>
        cases p2 with
        | false =>
          go_wp2_with fail
          refine (HAW.out W5).mono ?_
          rintro e v5 ⟨rfl, b5⟩
          clear cp0 cp1 cp2 cp3 cp4 cq0 cq1 cq2 cq3 cq4
          have Kp_6 : Hid (Bk v5 p 23 #[.bool a, .bool b, .bool c, .bool d, .bool f]) := Kp_5.out.below b5 Kp_5.out.lt
          have Kq_6 : Hid (Bk v5 q 23 #[.bool a, .bool x1, .bool c, .bool x3, .bool x4]) := Kq_5.out.below b5 Kq_5.out.lt
          have Kr_6 : Hid (Bk v5 r 23 #[.bool a, .bool x1, .bool c, .bool x3, .bool x4]) := Kr_5.out.below b5 Kr_5.out.lt
          have B_6 : Hid (Below w.heap.size w v5) := B_5.out.trans (b5.mono B_5.out.size)
          clear Kp_5 Kq_5 Kr_5 B_5
          clear b5
          have cp0 : v5.cell? ⟨p, 0, none⟩ = some (.bool a) := Kp_6.out.cell 0
          have cp1 : v5.cell? ⟨p, 1, none⟩ = some (.bool b) := Kp_6.out.cell 1
          have cp2 : v5.cell? ⟨p, 2, none⟩ = some (.bool c) := Kp_6.out.cell 2
          have cp3 : v5.cell? ⟨p, 3, none⟩ = some (.bool d) := Kp_6.out.cell 3
          have cp4 : v5.cell? ⟨p, 4, none⟩ = some (.bool f) := Kp_6.out.cell 4
          have cq0 : v5.cell? ⟨q, 0, none⟩ = some (.bool a) := Kq_6.out.cell 0
          have cq1 : v5.cell? ⟨q, 1, none⟩ = some (.bool x1) := Kq_6.out.cell 1
          have cq2 : v5.cell? ⟨q, 2, none⟩ = some (.bool c) := Kq_6.out.cell 2
          have cq3 : v5.cell? ⟨q, 3, none⟩ = some (.bool x3) := Kq_6.out.cell 3
          have cq4 : v5.cell? ⟨q, 4, none⟩ = some (.bool x4) := Kq_6.out.cell 4
          have cr0 : v5.cell? ⟨r, 0, none⟩ = some (.bool a) := Kr_6.out.cell 0
          have cr1 : v5.cell? ⟨r, 1, none⟩ = some (.bool x1) := Kr_6.out.cell 1
          have cr2 : v5.cell? ⟨r, 2, none⟩ = some (.bool c) := Kr_6.out.cell 2
          have cr3 : v5.cell? ⟨r, 3, none⟩ = some (.bool x3) := Kr_6.out.cell 3
          have cr4 : v5.cell? ⟨r, 4, none⟩ = some (.bool x4) := Kr_6.out.cell 4
          go_wp2_with fail
          go_ret
          exact ⟨rfl, B_6.out⟩
        | true =>
          cases p3 with
          | false =>
            go_wp2_with fail
            refine (HAW.out W5).mono ?_
            rintro e v5 ⟨rfl, b5⟩
            clear cp0 cp1 cp2 cp3 cp4 cq0 cq1 cq2 cq3 cq4
            have Kp_6 : Hid (Bk v5 p 23 #[.bool a, .bool b, .bool c, .bool d, .bool f]) := Kp_5.out.below b5 Kp_5.out.lt
            have Kq_6 : Hid (Bk v5 q 23 #[.bool a, .bool x1, .bool c, .bool x3, .bool x4]) := Kq_5.out.below b5 Kq_5.out.lt
            have Kr_6 : Hid (Bk v5 r 23 #[.bool a, .bool x1, .bool c, .bool x3, .bool x4]) := Kr_5.out.below b5 Kr_5.out.lt
            have B_6 : Hid (Below w.heap.size w v5) := B_5.out.trans (b5.mono B_5.out.size)
            clear Kp_5 Kq_5 Kr_5 B_5
            clear b5
            have cp0 : v5.cell? ⟨p, 0, none⟩ = some (.bool a) := Kp_6.out.cell 0
            have cp1 : v5.cell? ⟨p, 1, none⟩ = some (.bool b) := Kp_6.out.cell 1
            have cp2 : v5.cell? ⟨p, 2, none⟩ = some (.bool c) := Kp_6.out.cell 2
            have cp3 : v5.cell? ⟨p, 3, none⟩ = some (.bool d) := Kp_6.out.cell 3
            have cp4 : v5.cell? ⟨p, 4, none⟩ = some (.bool f) := Kp_6.out.cell 4
            have cq0 : v5.cell? ⟨q, 0, none⟩ = some (.bool a) := Kq_6.out.cell 0
            have cq1 : v5.cell? ⟨q, 1, none⟩ = some (.bool x1) := Kq_6.out.cell 1
            have cq2 : v5.cell? ⟨q, 2, none⟩ = some (.bool c) := Kq_6.out.cell 2
            have cq3 : v5.cell? ⟨q, 3, none⟩ = some (.bool x3) := Kq_6.out.cell 3
            have cq4 : v5.cell? ⟨q, 4, none⟩ = some (.bool x4) := Kq_6.out.cell 4
            have cr0 : v5.cell? ⟨r, 0, none⟩ = some (.bool a) := Kr_6.out.cell 0
            have cr1 : v5.cell? ⟨r, 1, none⟩ = some (.bool x1) := Kr_6.out.cell 1
            have cr2 : v5.cell? ⟨r, 2, none⟩ = some (.bool c) := Kr_6.out.cell 2
            have cr3 : v5.cell? ⟨r, 3, none⟩ = some (.bool x3) := Kr_6.out.cell 3
            have cr4 : v5.cell? ⟨r, 4, none⟩ = some (.bool x4) := Kr_6.out.cell 4
            go_wp2_with fail
            go_ret
            exact ⟨rfl, B_6.out⟩
          | true =>
            go_wp2_with fail
            refine (HAW.out W5).mono ?_
            rintro e v5 ⟨rfl, b5⟩
            clear cp0 cp1 cp2 cp3 cp4 cq0 cq1 cq2 cq3 cq4
            have Kp_6 : Hid (Bk v5 p 23 #[.bool a, .bool b, .bool c, .bool d, .bool f]) := Kp_5.out.below b5 Kp_5.out.lt
            have Kq_6 : Hid (Bk v5 q 23 #[.bool a, .bool x1, .bool c, .bool x3, .bool x4]) := Kq_5.out.below b5 Kq_5.out.lt
            have Kr_6 : Hid (Bk v5 r 23 #[.bool a, .bool x1, .bool c, .bool x3, .bool x4]) := Kr_5.out.below b5 Kr_5.out.lt
            have B_6 : Hid (Below w.heap.size w v5) := B_5.out.trans (b5.mono B_5.out.size)
            clear Kp_5 Kq_5 Kr_5 B_5
            clear b5
            have cp0 : v5.cell? ⟨p, 0, none⟩ = some (.bool a) := Kp_6.out.cell 0
            have cp1 : v5.cell? ⟨p, 1, none⟩ = some (.bool b) := Kp_6.out.cell 1
            have cp2 : v5.cell? ⟨p, 2, none⟩ = some (.bool c) := Kp_6.out.cell 2
            have cp3 : v5.cell? ⟨p, 3, none⟩ = some (.bool d) := Kp_6.out.cell 3
            have cp4 : v5.cell? ⟨p, 4, none⟩ = some (.bool f) := Kp_6.out.cell 4
            have cq0 : v5.cell? ⟨q, 0, none⟩ = some (.bool a) := Kq_6.out.cell 0
            have cq1 : v5.cell? ⟨q, 1, none⟩ = some (.bool x1) := Kq_6.out.cell 1
            have cq2 : v5.cell? ⟨q, 2, none⟩ = some (.bool c) := Kq_6.out.cell 2
            have cq3 : v5.cell? ⟨q, 3, none⟩ = some (.bool x3) := Kq_6.out.cell 3
            have cq4 : v5.cell? ⟨q, 4, none⟩ = some (.bool x4) := Kq_6.out.cell 4
            have cr0 : v5.cell? ⟨r, 0, none⟩ = some (.bool a) := Kr_6.out.cell 0
            have cr1 : v5.cell? ⟨r, 1, none⟩ = some (.bool x1) := Kr_6.out.cell 1
            have cr2 : v5.cell? ⟨r, 2, none⟩ = some (.bool c) := Kr_6.out.cell 2
            have cr3 : v5.cell? ⟨r, 3, none⟩ = some (.bool x3) := Kr_6.out.cell 3
            have cr4 : v5.cell? ⟨r, 4, none⟩ = some (.bool x4) := Kr_6.out.cell 4
            go_wp2_with fail
            go_ret
            exact ⟨rfl, B_6.out⟩
    · skip
      have hp : ∀ a b c d f : Bool, rightM ⟨a, b, c, d, f⟩ = true → stepM (stepM ⟨a, b, c, d, f⟩ 5) 5 = stepM ⟨a, b, c, d, f⟩ 5 ∧ (stepM ⟨a, b, c, d, f⟩ 5).to = a ∧ (stepM ⟨a, b, c, d, f⟩ 5).ask = c := by decide
      obtain ⟨hq, hx0, hx2⟩ := hp a b c d f HR.out
      clear hp
      obtain ⟨⟨x0, x1, x2, x3, x4⟩, hA⟩ : ∃ A, stepM ⟨a, b, c, d, f⟩ 5 = A := ⟨_, rfl⟩
      rw [hA] at hq hx0 hx2
      simp only at hx0 hx2
      obtain rfl := hx0.symm
      obtain rfl := hx2.symm
      have HA := Lib.hid hA
      have HQ := Lib.hid hq
      clear hA hq
      have cp0 : v0.cell? ⟨p, 0, none⟩ = some (.bool a) := Kp_1.out.cell 0
      have cp1 : v0.cell? ⟨p, 1, none⟩ = some (.bool b) := Kp_1.out.cell 1
      have cp2 : v0.cell? ⟨p, 2, none⟩ = some (.bool c) := Kp_1.out.cell 2
      have cp3 : v0.cell? ⟨p, 3, none⟩ = some (.bool d) := Kp_1.out.cell 3
      have cp4 : v0.cell? ⟨p, 4, none⟩ = some (.bool f) := Kp_1.out.cell 4
      obtain ⟨r1, hr1⟩ : ∃ r, (!decide ((⟨a, x1, c, x3, x4⟩ : Mod) = ⟨a, b, c, d, f⟩)) = r := ⟨_, rfl⟩
      have HS1 := Lib.hid (step_at ⟨a, b, c, d, f⟩ ⟨a, x1, c, x3, x4⟩ (5) r1 (HA.out) hr1 v0)
      clear hr1
      go_wp2_with fail
      refine HS1.out.mono ?_
      rintro e v1 ⟨rfl, b1⟩
      clear cp0 cp1 cp2 cp3 cp4
      have Kp_2 : Hid (Bk v1 p 23 #[.bool a, .bool b, .bool c, .bool d, .bool f]) := Kp_1.out.below b1 Kp_1.out.lt
      have B_2 : Hid (Below w.heap.size w v1) := B_1.out.trans (b1.mono B_1.out.size)
      clear Kp_1 B_1
      clear b1
      obtain ⟨W3, hW3⟩ : ∃ W, v1.alloc (.cells #[.bool a, .bool x1, .bool c, .bool x3, .bool x4] 23) = W := ⟨_, rfl⟩
      obtain ⟨q, hq⟩ : ∃ g, v1.heap.size = g := ⟨_, rfl⟩
      have Kp_3 : Hid (Bk W3 p 23 #[.bool a, .bool b, .bool c, .bool d, .bool f]) := by rw [← hW3]; exact Kp_2.out.alloc _
      have HNpq : Hid (p < q) := by have := Kp_2.out.lt; unfold Hid; omega
      have Kq_3 : Hid (Bk W3 q 23 #[.bool a, .bool x1, .bool c, .bool x3, .bool x4]) := by rw [← hW3, ← hq]; exact Bk.new _ _ _
      have B_3 : Hid (Below w.heap.size w W3) := by rw [← hW3]; exact B_2.out.alloc B_2.out.size _
      have HLq : Hid (w.heap.size ≤ q) := by have := B_2.out.size; unfold Hid; omega
      have HW3 := Lib.hid hW3
      have HAq := Lib.hid hq
      clear hW3 hq
      clear Kp_2 B_2
      go_upto_region 5 with fail
      (try rw [HW3.out])
      (try rw [HAq.out])
      have cq0 : W3.cell? ⟨q, 0, none⟩ = some (.bool a) := Kq_3.out.cell 0
      have cq1 : W3.cell? ⟨q, 1, none⟩ = some (.bool x1) := Kq_3.out.cell 1
      have cq2 : W3.cell? ⟨q, 2, none⟩ = some (.bool c) := Kq_3.out.cell 2
      have cq3 : W3.cell? ⟨q, 3, none⟩ = some (.bool x3) := Kq_3.out.cell 3
      have cq4 : W3.cell? ⟨q, 4, none⟩ = some (.bool x4) := Kq_3.out.cell 4
      have hr3 : (!decide ((⟨a, x1, c, x3, x4⟩ : Mod) = ⟨a, x1, c, x3, x4⟩)) = false := by simp
      have HS3 := Lib.hid (step_at ⟨a, x1, c, x3, x4⟩ ⟨a, x1, c, x3, x4⟩ (5) false (HQ.out) hr3 W3)
      clear hr3
      go_wp2_with fail
      refine HS3.out.mono ?_
      rintro e v3 ⟨rfl, b3⟩
      clear cq0 cq1 cq2 cq3 cq4
      have Kp_4 : Hid (Bk v3 p 23 #[.bool a, .bool b, .bool c, .bool d, .bool f]) := Kp_3.out.below b3 Kp_3.out.lt
      have Kq_4 : Hid (Bk v3 q 23 #[.bool a, .bool x1, .bool c, .bool x3, .bool x4]) := Kq_3.out.below b3 Kq_3.out.lt
      have B_4 : Hid (Below w.heap.size w v3) := B_3.out.trans (b3.mono B_3.out.size)
      clear Kp_3 Kq_3 B_3
      clear b3
      obtain ⟨W5, hW5⟩ : ∃ W, v3.alloc (.cells #[.bool a, .bool x1, .bool c, .bool x3, .bool x4] 23) = W := ⟨_, rfl⟩
      obtain ⟨r, hr⟩ : ∃ g, v3.heap.size = g := ⟨_, rfl⟩
      have Kp_5 : Hid (Bk W5 p 23 #[.bool a, .bool b, .bool c, .bool d, .bool f]) := by rw [← hW5]; exact Kp_4.out.alloc _
      have HNpr : Hid (p < r) := by have := Kp_4.out.lt; unfold Hid; omega
      have Kq_5 : Hid (Bk W5 q 23 #[.bool a, .bool x1, .bool c, .bool x3, .bool x4]) := by rw [← hW5]; exact Kq_4.out.alloc _
      have HNqr : Hid (q < r) := by have := Kq_4.out.lt; unfold Hid; omega
      have Kr_5 : Hid (Bk W5 r 23 #[.bool a, .bool x1, .bool c, .bool x3, .bool x4]) := by rw [← hW5, ← hr]; exact Bk.new _ _ _
      have B_5 : Hid (Below w.heap.size w W5) := by rw [← hW5]; exact B_4.out.alloc B_4.out.size _
      have HLr : Hid (w.heap.size ≤ r) := by have := B_4.out.size; unfold Hid; omega
      have HW5 := Lib.hid hW5
      have HAr := Lib.hid hr
      clear hW5 hr
      clear Kp_4 Kq_4 B_4
      go_upto_region 6 with fail
      (try rw [HW5.out])
      (try rw [HAr.out])
      have q1 := eqlM_at (m := ⟨a, x1, c, x3, x4⟩) (n := ⟨a, x1, c, x3, x4⟩) (r := true) (by simp)
      have q2 := eqgM_at .eql ⟨a, x1, c, x3, x4⟩ ⟨a, x1, c, x3, x4⟩
      have cp0 : W5.cell? ⟨p, 0, none⟩ = some (.bool a) := Kp_5.out.cell 0
      have cp1 : W5.cell? ⟨p, 1, none⟩ = some (.bool b) := Kp_5.out.cell 1
      have cp2 : W5.cell? ⟨p, 2, none⟩ = some (.bool c) := Kp_5.out.cell 2
      have cp3 : W5.cell? ⟨p, 3, none⟩ = some (.bool d) := Kp_5.out.cell 3
      have cp4 : W5.cell? ⟨p, 4, none⟩ = some (.bool f) := Kp_5.out.cell 4
      have cq0 : W5.cell? ⟨q, 0, none⟩ = some (.bool a) := Kq_5.out.cell 0
      have cq1 : W5.cell? ⟨q, 1, none⟩ = some (.bool x1) := Kq_5.out.cell 1
      have cq2 : W5.cell? ⟨q, 2, none⟩ = some (.bool c) := Kq_5.out.cell 2
      have cq3 : W5.cell? ⟨q, 3, none⟩ = some (.bool x3) := Kq_5.out.cell 3
      have cq4 : W5.cell? ⟨q, 4, none⟩ = some (.bool x4) := Kq_5.out.cell 4
      obtain ⟨p1, h1⟩ : ∃ r, (x1 == b) = r := ⟨_, rfl⟩
      obtain ⟨p2, h2⟩ : ∃ r, (x3 == d) = r := ⟨_, rfl⟩
      obtain ⟨p3, h3⟩ : ∃ r, (x4 == f) = r := ⟨_, rfl⟩
      cases p1 with
      | false =>
        go_wp2_with fail
        refine (HAW.out W5).mono ?_
        rintro e v5 ⟨rfl, b5⟩
        clear cp0 cp1 cp2 cp3 cp4 cq0 cq1 cq2 cq3 cq4
        have Kp_6 : Hid (Bk v5 p 23 #[.bool a, .bool b, .bool c, .bool d, .bool f]) := Kp_5.out.below b5 Kp_5.out.lt
        have Kq_6 : Hid (Bk v5 q 23 #[.bool a, .bool x1, .bool c, .bool x3, .bool x4]) := Kq_5.out.below b5 Kq_5.out.lt
        have Kr_6 : Hid (Bk v5 r 23 #[.bool a, .bool x1, .bool c, .bool x3, .bool x4]) := Kr_5.out.below b5 Kr_5.out.lt
        have B_6 : Hid (Below w.heap.size w v5) := B_5.out.trans (b5.mono B_5.out.size)
        clear Kp_5 Kq_5 Kr_5 B_5
        clear b5
        have cp0 : v5.cell? ⟨p, 0, none⟩ = some (.bool a) := Kp_6.out.cell 0
        have cp1 : v5.cell? ⟨p, 1, none⟩ = some (.bool b) := Kp_6.out.cell 1
        have cp2 : v5.cell? ⟨p, 2, none⟩ = some (.bool c) := Kp_6.out.cell 2
        have cp3 : v5.cell? ⟨p, 3, none⟩ = some (.bool d) := Kp_6.out.cell 3
        have cp4 : v5.cell? ⟨p, 4, none⟩ = some (.bool f) := Kp_6.out.cell 4
        have cq0 : v5.cell? ⟨q, 0, none⟩ = some (.bool a) := Kq_6.out.cell 0
        have cq1 : v5.cell? ⟨q, 1, none⟩ = some (.bool x1) := Kq_6.out.cell 1
        have cq2 : v5.cell? ⟨q, 2, none⟩ = some (.bool c) := Kq_6.out.cell 2
        have cq3 : v5.cell? ⟨q, 3, none⟩ = some (.bool x3) := Kq_6.out.cell 3
        have cq4 : v5.cell? ⟨q, 4, none⟩ = some (.bool x4) := Kq_6.out.cell 4
        have cr0 : v5.cell? ⟨r, 0, none⟩ = some (.bool a) := Kr_6.out.cell 0
        have cr1 : v5.cell? ⟨r, 1, none⟩ = some (.bool x1) := Kr_6.out.cell 1
        have cr2 : v5.cell? ⟨r, 2, none⟩ = some (.bool c) := Kr_6.out.cell 2
        have cr3 : v5.cell? ⟨r, 3, none⟩ = some (.bool x3) := Kr_6.out.cell 3
        have cr4 : v5.cell? ⟨r, 4, none⟩ = some (.bool x4) := Kr_6.out.cell 4
        go_wp2_with fail
        go_ret
        exact ⟨rfl, B_6.out⟩
      | true =>
        cases p2 with
        | false =>
          go_wp2_with fail
          refine (HAW.out W5).mono ?_
          rintro e v5 ⟨rfl, b5⟩
          clear cp0 cp1 cp2 cp3 cp4 cq0 cq1 cq2 cq3 cq4
          have Kp_6 : Hid (Bk v5 p 23 #[.bool a, .bool b, .bool c, .bool d, .bool f]) := Kp_5.out.below b5 Kp_5.out.lt
          have Kq_6 : Hid (Bk v5 q 23 #[.bool a, .bool x1, .bool c, .bool x3, .bool x4]) := Kq_5.out.below b5 Kq_5.out.lt
          have Kr_6 : Hid (Bk v5 r 23 #[.bool a, .bool x1, .bool c, .bool x3, .bool x4]) := Kr_5.out.below b5 Kr_5.out.lt
          have B_6 : Hid (Below w.heap.size w v5) := B_5.out.trans (b5.mono B_5.out.size)
          clear Kp_5 Kq_5 Kr_5 B_5
          clear b5
          have cp0 : v5.cell? ⟨p, 0, none⟩ = some (.bool a) := Kp_6.out.cell 0
          have cp1 : v5.cell? ⟨p, 1, none⟩ = some (.bool b) := Kp_6.out.cell 1
          have cp2 : v5.cell? ⟨p, 2, none⟩ = some (.bool c) := Kp_6.out.cell 2
          have cp3 : v5.cell? ⟨p, 3, none⟩ = some (.bool d) := Kp_6.out.cell 3
          have cp4 : v5.cell? ⟨p, 4, none⟩ = some (.bool f) := Kp_6.out.cell 4
          have cq0 : v5.cell? ⟨q, 0, none⟩ = some (.bool a) := Kq_6.out.cell 0
          have cq1 : v5.cell? ⟨q, 1, none⟩ = some (.bool x1) := Kq_6.out.cell 1
          have cq2 : v5.cell? ⟨q, 2, none⟩ = some (.bool c) := Kq_6.out.cell 2
          have cq3 : v5.cell? ⟨q, 3, none⟩ = some (.bool x3) := Kq_6.out.cell 3
          have cq4 : v5.cell? ⟨q, 4, none⟩ = some (.bool x4) := Kq_6.out.cell 4
          have cr0 : v5.cell? ⟨r, 0, none⟩ = some (.bool a) := Kr_6.out.cell 0
          have cr1 : v5.cell? ⟨r, 1, none⟩ = some (.bool x1) := Kr_6.out.cell 1
          have cr2 : v5.cell? ⟨r, 2, none⟩ = some (.bool c) := Kr_6.out.cell 2
          have cr3 : v5.cell? ⟨r, 3, none⟩ = some (.bool x3) := Kr_6.out.cell 3
          have cr4 : v5.cell? ⟨r, 4, none⟩ = some (.bool x4) := Kr_6.out.cell 4
          go_wp2_with fail
          go_ret
          exact ⟨rfl, B_6.out⟩
        | true =>
          cases p3 with
          | false =>
            go_wp2_with fail
            refine (HAW.out W5).mono ?_
            rintro e v5 ⟨rfl, b5⟩
            clear cp0 cp1 cp2 cp3 cp4 cq0 cq1 cq2 cq3 cq4
            have Kp_6 : Hid (Bk v5 p 23 #[.bool a, .bool b, .bool c, .bool d, .bool f]) := Kp_5.out.below b5 Kp_5.out.lt
            have Kq_6 : Hid (Bk v5 q 23 #[.bool a, .bool x1, .bool c, .bool x3, .bool x4]) := Kq_5.out.below b5 Kq_5.out.lt
            have Kr_6 : Hid (Bk v5 r 23 #[.bool a, .bool x1, .bool c, .bool x3, .bool x4]) := Kr_5.out.below b5 Kr_5.out.lt
            have B_6 : Hid (Below w.heap.size w v5) := B_5.out.trans (b5.mono B_5.out.size)
            clear Kp_5 Kq_5 Kr_5 B_5
            clear b5
            have cp0 : v5.cell? ⟨p, 0, none⟩ = some (.bool a) := Kp_6.out.cell 0
            have cp1 : v5.cell? ⟨p, 1, none⟩ = some (.bool b) := Kp_6.out.cell 1
            have cp2 : v5.cell? ⟨p, 2, none⟩ = some (.bool c) := Kp_6.out.cell 2
            have cp3 : v5.cell? ⟨p, 3, none⟩ = some (.bool d) := Kp_6.out.cell 3
            have cp4 : v5.cell? ⟨p, 4, none⟩ = some (.bool f) := Kp_6.out.cell 4
            have cq0 : v5.cell? ⟨q, 0, none⟩ = some (.bool a) := Kq_6.out.cell 0
            have cq1 : v5.cell? ⟨q, 1, none⟩ = some (.bool x1) := Kq_6.out.cell 1
            have cq2 : v5.cell? ⟨q, 2, none⟩ = some (.bool c) := Kq_6.out.cell 2
            have cq3 : v5.cell? ⟨q, 3, none⟩ = some (.bool x3) := Kq_6.out.cell 3
            have cq4 : v5.cell? ⟨q, 4, none⟩ = some (.bool x4) := Kq_6.out.cell 4
            have cr0 : v5.cell? ⟨r, 0, none⟩ = some (.bool a) := Kr_6.out.cell 0
            have cr1 : v5.cell? ⟨r, 1, none⟩ = some (.bool x1) := Kr_6.out.cell 1
            have cr2 : v5.cell? ⟨r, 2, none⟩ = some (.bool c) := Kr_6.out.cell 2
            have cr3 : v5.cell? ⟨r, 3, none⟩ = some (.bool x3) := Kr_6.out.cell 3
            have cr4 : v5.cell? ⟨r, 4, none⟩ = some (.bool x4) := Kr_6.out.cell 4
            go_wp2_with fail
            go_ret
            exact ⟨rfl, B_6.out⟩
          | true =>
            go_wp2_with fail
            refine (HAW.out W5).mono ?_
            rintro e v5 ⟨rfl, b5⟩
            clear cp0 cp1 cp2 cp3 cp4 cq0 cq1 cq2 cq3 cq4
            have Kp_6 : Hid (Bk v5 p 23 #[.bool a, .bool b, .bool c, .bool d, .bool f]) := Kp_5.out.below b5 Kp_5.out.lt
            have Kq_6 : Hid (Bk v5 q 23 #[.bool a, .bool x1, .bool c, .bool x3, .bool x4]) := Kq_5.out.below b5 Kq_5.out.lt
            have Kr_6 : Hid (Bk v5 r 23 #[.bool a, .bool x1, .bool c, .bool x3, .bool x4]) := Kr_5.out.below b5 Kr_5.out.lt
            have B_6 : Hid (Below w.heap.size w v5) := B_5.out.trans (b5.mono B_5.out.size)
            clear Kp_5 Kq_5 Kr_5 B_5
            clear b5
            have cp0 : v5.cell? ⟨p, 0, none⟩ = some (.bool a) := Kp_6.out.cell 0
            have cp1 : v5.cell? ⟨p, 1, none⟩ = some (.bool b) := Kp_6.out.cell 1
            have cp2 : v5.cell? ⟨p, 2, none⟩ = some (.bool c) := Kp_6.out.cell 2
            have cp3 : v5.cell? ⟨p, 3, none⟩ = some (.bool d) := Kp_6.out.cell 3
            have cp4 : v5.cell? ⟨p, 4, none⟩ = some (.bool f) := Kp_6.out.cell 4
            have cq0 : v5.cell? ⟨q, 0, none⟩ = some (.bool a) := Kq_6.out.cell 0
            have cq1 : v5.cell? ⟨q, 1, none⟩ = some (.bool x1) := Kq_6.out.cell 1
            have cq2 : v5.cell? ⟨q, 2, none⟩ = some (.bool c) := Kq_6.out.cell 2
            have cq3 : v5.cell? ⟨q, 3, none⟩ = some (.bool x3) := Kq_6.out.cell 3
            have cq4 : v5.cell? ⟨q, 4, none⟩ = some (.bool x4) := Kq_6.out.cell 4
            have cr0 : v5.cell? ⟨r, 0, none⟩ = some (.bool a) := Kr_6.out.cell 0
            have cr1 : v5.cell? ⟨r, 1, none⟩ = some (.bool x1) := Kr_6.out.cell 1
            have cr2 : v5.cell? ⟨r, 2, none⟩ = some (.bool c) := Kr_6.out.cell 2
            have cr3 : v5.cell? ⟨r, 3, none⟩ = some (.bool x3) := Kr_6.out.cell 3
            have cr4 : v5.cell? ⟨r, 4, none⟩ = some (.bool x4) := Kr_6.out.cell 4
            go_wp2_with fail
            go_ret
            exact ⟨rfl, B_6.out⟩
    · skip
      have hp : ∀ a b c d f : Bool, rightM ⟨a, b, c, d, f⟩ = true → stepM (stepM ⟨a, b, c, d, f⟩ 6) 6 = stepM ⟨a, b, c, d, f⟩ 6 ∧ (stepM ⟨a, b, c, d, f⟩ 6).to = a ∧ (stepM ⟨a, b, c, d, f⟩ 6).ask = c := by decide
      obtain ⟨hq, hx0, hx2⟩ := hp a b c d f HR.out
      clear hp
      obtain ⟨⟨x0, x1, x2, x3, x4⟩, hA⟩ : ∃ A, stepM ⟨a, b, c, d, f⟩ 6 = A := ⟨_, rfl⟩
      rw [hA] at hq hx0 hx2
      simp only at hx0 hx2
      obtain rfl := hx0.symm
      obtain rfl := hx2.symm
      have HA := Lib.hid hA
      have HQ := Lib.hid hq
      clear hA hq
      have cp0 : v0.cell? ⟨p, 0, none⟩ = some (.bool a) := Kp_1.out.cell 0
      have cp1 : v0.cell? ⟨p, 1, none⟩ = some (.bool b) := Kp_1.out.cell 1
      have cp2 : v0.cell? ⟨p, 2, none⟩ = some (.bool c) := Kp_1.out.cell 2
      have cp3 : v0.cell? ⟨p, 3, none⟩ = some (.bool d) := Kp_1.out.cell 3
      have cp4 : v0.cell? ⟨p, 4, none⟩ = some (.bool f) := Kp_1.out.cell 4
      obtain ⟨r1, hr1⟩ : ∃ r, (!decide ((⟨a, x1, c, x3, x4⟩ : Mod) = ⟨a, b, c, d, f⟩)) = r := ⟨_, rfl⟩
      have HS1 := Lib.hid (step_at ⟨a, b, c, d, f⟩ ⟨a, x1, c, x3, x4⟩ (6) r1 (HA.out) hr1 v0)
      clear hr1
      go_wp2_with fail
      refine HS1.out.mono ?_
      rintro e v1 ⟨rfl, b1⟩
      clear cp0 cp1 cp2 cp3 cp4
      have Kp_2 : Hid (Bk v1 p 23 #[.bool a, .bool b, .bool c, .bool d, .bool f]) := Kp_1.out.below b1 Kp_1.out.lt
      have B_2 : Hid (Below w.heap.size w v1) := B_1.out.trans (b1.mono B_1.out.size)
      clear Kp_1 B_1
      clear b1
      obtain ⟨W3, hW3⟩ : ∃ W, v1.alloc (.cells #[.bool a, .bool x1, .bool c, .bool x3, .bool x4] 23) = W := ⟨_, rfl⟩
      obtain ⟨q, hq⟩ : ∃ g, v1.heap.size = g := ⟨_, rfl⟩
      have Kp_3 : Hid (Bk W3 p 23 #[.bool a, .bool b, .bool c, .bool d, .bool f]) := by rw [← hW3]; exact Kp_2.out.alloc _
      have HNpq : Hid (p < q) := by have := Kp_2.out.lt; unfold Hid; omega
      have Kq_3 : Hid (Bk W3 q 23 #[.bool a, .bool x1, .bool c, .bool x3, .bool x4]) := by rw [← hW3, ← hq]; exact Bk.new _ _ _
      have B_3 : Hid (Below w.heap.size w W3) := by rw [← hW3]; exact B_2.out.alloc B_2.out.size _
      have HLq : Hid (w.heap.size ≤ q) := by have := B_2.out.size; unfold Hid; omega
      have HW3 := Lib.hid hW3
      have HAq := Lib.hid hq
      clear hW3 hq
      clear Kp_2 B_2
      go_upto_region 5 with fail
      (try rw [HW3.out])
      (try rw [HAq.out])
      have cq0 : W3.cell? ⟨q, 0, none⟩ = some (.bool a) := Kq_3.out.cell 0
      have cq1 : W3.cell? ⟨q, 1, none⟩ = some (.bool x1) := Kq_3.out.cell 1
      have cq2 : W3.cell? ⟨q, 2, none⟩ = some (.bool c) := Kq_3.out.cell 2
      have cq3 : W3.cell? ⟨q, 3, none⟩ = some (.bool x3) := Kq_3.out.cell 3
      have cq4 : W3.cell? ⟨q, 4, none⟩ = some (.bool x4) := Kq_3.out.cell 4
      have hr3 : (!decide ((⟨a, x1, c, x3, x4⟩ : Mod) = ⟨a, x1, c, x3, x4⟩)) = false := by simp
      have HS3 := Lib.hid (step_at ⟨a, x1, c, x3, x4⟩ ⟨a, x1, c, x3, x4⟩ (6) false (HQ.out) hr3 W3)
      clear hr3
      go_wp2_with fail
      refine HS3.out.mono ?_
      rintro e v3 ⟨rfl, b3⟩
      clear cq0 cq1 cq2 cq3 cq4
      have Kp_4 : Hid (Bk v3 p 23 #[.bool a, .bool b, .bool c, .bool d, .bool f]) := Kp_3.out.below b3 Kp_3.out.lt
      have Kq_4 : Hid (Bk v3 q 23 #[.bool a, .bool x1, .bool c, .bool x3, .bool x4]) := Kq_3.out.below b3 Kq_3.out.lt
      have B_4 : Hid (Below w.heap.size w v3) := B_3.out.trans (b3.mono B_3.out.size)
      clear Kp_3 Kq_3 B_3
      clear b3
      obtain ⟨W5, hW5⟩ : ∃ W, v3.alloc (.cells #[.bool a, .bool x1, .bool c, .bool x3, .bool x4] 23) = W := ⟨_, rfl⟩
      obtain ⟨r, hr⟩ : ∃ g, v3.heap.size = g := ⟨_, rfl⟩
      have Kp_5 : Hid (Bk W5 p 23 #[.bool a, .bool b, .bool c, .bool d, .bool f]) := by rw [← hW5]; exact Kp_4.out.alloc _
      have HNpr : Hid (p < r) := by have := Kp_4.out.lt; unfold Hid; omega
      have Kq_5 : Hid (Bk W5 q 23 #[.bool a, .bool x1, .bool c, .bool x3, .bool x4]) := by rw [← hW5]; exact Kq_4.out.alloc _
      have HNqr : Hid (q < r) := by have := Kq_4.out.lt; unfold Hid; omega
      have Kr_5 : Hid (Bk W5 r 23 #[.bool a, .bool x1, .bool c, .bool x3, .bool x4]) := by rw [← hW5, ← hr]; exact Bk.new _ _ _
      have B_5 : Hid (Below w.heap.size w W5) := by rw [← hW5]; exact B_4.out.alloc B_4.out.size _
      have HLr : Hid (w.heap.size ≤ r) := by have := B_4.out.size; unfold Hid; omega
      have HW5 := Lib.hid hW5
      have HAr := Lib.hid hr
      clear hW5 hr
      clear Kp_4 Kq_4 B_4
      go_upto_region 6 with fail
      (try rw [HW5.out])
      (try rw [HAr.out])
      have q1 := eqlM_at (m := ⟨a, x1, c, x3, x4⟩) (n := ⟨a, x1, c, x3, x4⟩) (r := true) (by simp)
      have q2 := eqgM_at .eql ⟨a, x1, c, x3, x4⟩ ⟨a, x1, c, x3, x4⟩
      have cp0 : W5.cell? ⟨p, 0, none⟩ = some (.bool a) := Kp_5.out.cell 0
      have cp1 : W5.cell? ⟨p, 1, none⟩ = some (.bool b) := Kp_5.out.cell 1
      have cp2 : W5.cell? ⟨p, 2, none⟩ = some (.bool c) := Kp_5.out.cell 2
      have cp3 : W5.cell? ⟨p, 3, none⟩ = some (.bool d) := Kp_5.out.cell 3
      have cp4 : W5.cell? ⟨p, 4, none⟩ = some (.bool f) := Kp_5.out.cell 4
      have cq0 : W5.cell? ⟨q, 0, none⟩ = some (.bool a) := Kq_5.out.cell 0
      have cq1 : W5.cell? ⟨q, 1, none⟩ = some (.bool x1) := Kq_5.out.cell 1
      have cq2 : W5.cell? ⟨q, 2, none⟩ = some (.bool c) := Kq_5.out.cell 2
      have cq3 : W5.cell? ⟨q, 3, none⟩ = some (.bool x3) := Kq_5.out.cell 3
      have cq4 : W5.cell? ⟨q, 4, none⟩ = some (.bool x4) := Kq_5.out.cell 4
      obtain ⟨p1, h1⟩ : ∃ r, (x1 == b) = r := ⟨_, rfl⟩
      obtain ⟨p2, h2⟩ : ∃ r, (x3 == d) = r := ⟨_, rfl⟩
      obtain ⟨p3, h3⟩ : ∃ r, (x4 == f) = r := ⟨_, rfl⟩
      cases p1 with
      | false =>
        go_wp2_with fail
        refine (HAW.out W5).mono ?_
        rintro e v5 ⟨rfl, b5⟩
        clear cp0 cp1 cp2 cp3 cp4 cq0 cq1 cq2 cq3 cq4
        have Kp_6 : Hid (Bk v5 p 23 #[.bool a, .bool b, .bool c, .bool d, .bool f]) := Kp_5.out.below b5 Kp_5.out.lt
        have Kq_6 : Hid (Bk v5 q 23 #[.bool a, .bool x1, .bool c, .bool x3, .bool x4]) := Kq_5.out.below b5 Kq_5.out.lt
        have Kr_6 : Hid (Bk v5 r 23 #[.bool a, .bool x1, .bool c, .bool x3, .bool x4]) := Kr_5.out.below b5 Kr_5.out.lt
        have B_6 : Hid (Below w.heap.size w v5) := B_5.out.trans (b5.mono B_5.out.size)
        clear Kp_5 Kq_5 Kr_5 B_5
        clear b5
        have cp0 : v5.cell? ⟨p, 0, none⟩ = some (.bool a) := Kp_6.out.cell 0
        have cp1 : v5.cell? ⟨p, 1, none⟩ = some (.bool b) := Kp_6.out.cell 1
        have cp2 : v5.cell? ⟨p, 2, none⟩ = some (.bool c) := Kp_6.out.cell 2
        have cp3 : v5.cell? ⟨p, 3, none⟩ = some (.bool d) := Kp_6.out.cell 3
        have cp4 : v5.cell? ⟨p, 4, none⟩ = some (.bool f) := Kp_6.out.cell 4
        have cq0 : v5.cell? ⟨q, 0, none⟩ = some (.bool a) := Kq_6.out.cell 0
        have cq1 : v5.cell? ⟨q, 1, none⟩ = some (.bool x1) := Kq_6.out.cell 1
        have cq2 : v5.cell? ⟨q, 2, none⟩ = some (.bool c) := Kq_6.out.cell 2
        have cq3 : v5.cell? ⟨q, 3, none⟩ = some (.bool x3) := Kq_6.out.cell 3
        have cq4 : v5.cell? ⟨q, 4, none⟩ = some (.bool x4) := Kq_6.out.cell 4
        have cr0 : v5.cell? ⟨r, 0, none⟩ = some (.bool a) := Kr_6.out.cell 0
        have cr1 : v5.cell? ⟨r, 1, none⟩ = some (.bool x1) := Kr_6.out.cell 1
        have cr2 : v5.cell? ⟨r, 2, none⟩ = some (.bool c) := Kr_6.out.cell 2
        have cr3 : v5.cell? ⟨r, 3, none⟩ = some (.bool x3) := Kr_6.out.cell 3
        have cr4 : v5.cell? ⟨r, 4, none⟩ = some (.bool x4) := Kr_6.out.cell 4
        go_wp2_with fail
        go_ret
        exact ⟨rfl, B_6.out⟩
      | true =>
        cases p2 with
        | false =>
          go_wp2_with fail
          refine (HAW.out W5).mono ?_
          rintro e v5 ⟨rfl, b5⟩
          clear cp0 cp1 cp2 cp3 cp4 cq0 cq1 cq2 cq3 cq4
          have Kp_6 : Hid (Bk v5 p 23 #[.bool a, .bool b, .bool c, .bool d, .bool f]) := Kp_5.out.below b5 Kp_5.out.lt
          have Kq_6 : Hid (Bk v5 q 23 #[.bool a, .bool x1, .bool c, .bool x3, .bool x4]) := Kq_5.out.below b5 Kq_5.out.lt
          have Kr_6 : Hid (Bk v5 r 23 #[.bool a, .bool x1, .bool c, .bool x3, .bool x4]) := Kr_5.out.below b5 Kr_5.out.lt
          have B_6 : Hid (Below w.heap.size w v5) := B_5.out.trans (b5.mono B_5.out.size)
          clear Kp_5 Kq_5 Kr_5 B_5
          clear b5
          have cp0 : v5.cell? ⟨p, 0, none⟩ = some (.bool a) := Kp_6.out.cell 0
          have cp1 : v5.cell? ⟨p, 1, none⟩ = some (.bool b) := Kp_6.out.cell 1
          have cp2 : v5.cell? ⟨p, 2, none⟩ = some (.bool c) := Kp_6.out.cell 2
          have cp3 : v5.cell? ⟨p, 3, none⟩ = some (.bool d) := Kp_6.out.cell 3
          have cp4 : v5.cell? ⟨p, 4, none⟩ = some (.bool f) := Kp_6.out.cell 4
          have cq0 : v5.cell? ⟨q, 0, none⟩ = some (.bool a) := Kq_6.out.cell 0
          have cq1 : v5.cell? ⟨q, 1, none⟩ = some (.bool x1) := Kq_6.out.cell 1
          have cq2 : v5.cell? ⟨q, 2, none⟩ = some (.bool c) := Kq_6.out.cell 2
          have cq3 : v5.cell? ⟨q, 3, none⟩ = some (.bool x3) := Kq_6.out.cell 3
          have cq4 : v5.cell? ⟨q, 4, none⟩ = some (.bool x4) := Kq_6.out.cell 4
          have cr0 : v5.cell? ⟨r, 0, none⟩ = some (.bool a) := Kr_6.out.cell 0
          have cr1 : v5.cell? ⟨r, 1, none⟩ = some (.bool x1) := Kr_6.out.cell 1
          have cr2 : v5.cell? ⟨r, 2, none⟩ = some (.bool c) := Kr_6.out.cell 2
          have cr3 : v5.cell? ⟨r, 3, none⟩ = some (.bool x3) := Kr_6.out.cell 3
          have cr4 : v5.cell? ⟨r, 4, none⟩ = some (.bool x4) := Kr_6.out.cell 4
          go_wp2_with fail
          go_ret
          exact ⟨rfl, B_6.out⟩
        | true =>
          cases p3 with
          | false =>
            go_wp2_with fail
            refine (HAW.out W5).mono ?_
            rintro e v5 ⟨rfl, b5⟩
            clear cp0 cp1 cp2 cp3 cp4 cq0 cq1 cq2 cq3 cq4
            have Kp_6 : Hid (Bk v5 p 23 #[.bool a, .bool b, .bool c, .bool d, .bool f]) := Kp_5.out.below b5 Kp_5.out.lt
            have Kq_6 : Hid (Bk v5 q 23 #[.bool a, .bool x1, .bool c, .bool x3, .bool x4]) := Kq_5.out.below b5 Kq_5.out.lt
            have Kr_6 : Hid (Bk v5 r 23 #[.bool a, .bool x1, .bool c, .bool x3, .bool x4]) := Kr_5.out.below b5 Kr_5.out.lt
            have B_6 : Hid (Below w.heap.size w v5) := B_5.out.trans (b5.mono B_5.out.size)
            clear Kp_5 Kq_5 Kr_5 B_5
            clear b5
            have cp0 : v5.cell? ⟨p, 0, none⟩ = some (.bool a) := Kp_6.out.cell 0
            have cp1 : v5.cell? ⟨p, 1, none⟩ = some (.bool b) := Kp_6.out.cell 1
            have cp2 : v5.cell? ⟨p, 2, none⟩ = some (.bool c) := Kp_6.out.cell 2
            have cp3 : v5.cell? ⟨p, 3, none⟩ = some (.bool d) := Kp_6.out.cell 3
            have cp4 : v5.cell? ⟨p, 4, none⟩ = some (.bool f) := Kp_6.out.cell 4
            have cq0 : v5.cell? ⟨q, 0, none⟩ = some (.bool a) := Kq_6.out.cell 0
            have cq1 : v5.cell? ⟨q, 1, none⟩ = some (.bool x1) := Kq_6.out.cell 1
            have cq2 : v5.cell? ⟨q, 2, none⟩ = some (.bool c) := Kq_6.out.cell 2
            have cq3 : v5.cell? ⟨q, 3, none⟩ = some (.bool x3) := Kq_6.out.cell 3
            have cq4 : v5.cell? ⟨q, 4, none⟩ = some (.bool x4) := Kq_6.out.cell 4
            have cr0 : v5.cell? ⟨r, 0, none⟩ = some (.bool a) := Kr_6.out.cell 0
            have cr1 : v5.cell? ⟨r, 1, none⟩ = some (.bool x1) := Kr_6.out.cell 1
            have cr2 : v5.cell? ⟨r, 2, none⟩ = some (.bool c) := Kr_6.out.cell 2
            have cr3 : v5.cell? ⟨r, 3, none⟩ = some (.bool x3) := Kr_6.out.cell 3
            have cr4 : v5.cell? ⟨r, 4, none⟩ = some (.bool x4) := Kr_6.out.cell 4
            go_wp2_with fail
            go_ret
            exact ⟨rfl, B_6.out⟩
          | true =>
            go_wp2_with fail
            refine (HAW.out W5).mono ?_
            rintro e v5 ⟨rfl, b5⟩
            clear cp0 cp1 cp2 cp3 cp4 cq0 cq1 cq2 cq3 cq4
            have Kp_6 : Hid (Bk v5 p 23 #[.bool a, .bool b, .bool c, .bool d, .bool f]) := Kp_5.out.below b5 Kp_5.out.lt
            have Kq_6 : Hid (Bk v5 q 23 #[.bool a, .bool x1, .bool c, .bool x3, .bool x4]) := Kq_5.out.below b5 Kq_5.out.lt
            have Kr_6 : Hid (Bk v5 r 23 #[.bool a, .bool x1, .bool c, .bool x3, .bool x4]) := Kr_5.out.below b5 Kr_5.out.lt
            have B_6 : Hid (Below w.heap.size w v5) := B_5.out.trans (b5.mono B_5.out.size)
            clear Kp_5 Kq_5 Kr_5 B_5
            clear b5
            have cp0 : v5.cell? ⟨p, 0, none⟩ = some (.bool a) := Kp_6.out.cell 0
            have cp1 : v5.cell? ⟨p, 1, none⟩ = some (.bool b) := Kp_6.out.cell 1
            have cp2 : v5.cell? ⟨p, 2, none⟩ = some (.bool c) := Kp_6.out.cell 2
            have cp3 : v5.cell? ⟨p, 3, none⟩ = some (.bool d) := Kp_6.out.cell 3
            have cp4 : v5.cell? ⟨p, 4, none⟩ = some (.bool f) := Kp_6.out.cell 4
            have cq0 : v5.cell? ⟨q, 0, none⟩ = some (.bool a) := Kq_6.out.cell 0
            have cq1 : v5.cell? ⟨q, 1, none⟩ = some (.bool x1) := Kq_6.out.cell 1
            have cq2 : v5.cell? ⟨q, 2, none⟩ = some (.bool c) := Kq_6.out.cell 2
            have cq3 : v5.cell? ⟨q, 3, none⟩ = some (.bool x3) := Kq_6.out.cell 3
            have cq4 : v5.cell? ⟨q, 4, none⟩ = some (.bool x4) := Kq_6.out.cell 4
            have cr0 : v5.cell? ⟨r, 0, none⟩ = some (.bool a) := Kr_6.out.cell 0
            have cr1 : v5.cell? ⟨r, 1, none⟩ = some (.bool x1) := Kr_6.out.cell 1
            have cr2 : v5.cell? ⟨r, 2, none⟩ = some (.bool c) := Kr_6.out.cell 2
            have cr3 : v5.cell? ⟨r, 3, none⟩ = some (.bool x3) := Kr_6.out.cell 3
            have cr4 : v5.cell? ⟨r, 4, none⟩ = some (.bool x4) := Kr_6.out.cell 4
            go_wp2_with fail
            go_ret
            exact ⟨rfl, B_6.out⟩
    · skip
      have hp : ∀ a b c d f : Bool, rightM ⟨a, b, c, d, f⟩ = true → stepM (stepM ⟨a, b, c, d, f⟩ 7) 7 = stepM ⟨a, b, c, d, f⟩ 7 ∧ (stepM ⟨a, b, c, d, f⟩ 7).fr = b ∧ (stepM ⟨a, b, c, d, f⟩ 7).inn = d ∧ (stepM ⟨a, b, c, d, f⟩ 7).app = f := by decide
      obtain ⟨hq, hx1, hx3, hx4⟩ := hp a b c d f HR.out
      clear hp
      obtain ⟨⟨x0, x1, x2, x3, x4⟩, hA⟩ : ∃ A, stepM ⟨a, b, c, d, f⟩ 7 = A := ⟨_, rfl⟩
      rw [hA] at hq hx1 hx3 hx4
      simp only at hx1 hx3 hx4
      obtain rfl := hx1.symm
      obtain rfl := hx3.symm
      obtain rfl := hx4.symm
      have HA := Lib.hid hA
      have HQ := Lib.hid hq
      clear hA hq
      have cp0 : v0.cell? ⟨p, 0, none⟩ = some (.bool a) := Kp_1.out.cell 0
      have cp1 : v0.cell? ⟨p, 1, none⟩ = some (.bool b) := Kp_1.out.cell 1
      have cp2 : v0.cell? ⟨p, 2, none⟩ = some (.bool c) := Kp_1.out.cell 2
      have cp3 : v0.cell? ⟨p, 3, none⟩ = some (.bool d) := Kp_1.out.cell 3
      have cp4 : v0.cell? ⟨p, 4, none⟩ = some (.bool f) := Kp_1.out.cell 4
      obtain ⟨r1, hr1⟩ : ∃ r, (!decide ((⟨x0, b, x2, d, f⟩ : Mod) = ⟨a, b, c, d, f⟩)) = r := ⟨_, rfl⟩
      have HS1 := Lib.hid (step_at ⟨a, b, c, d, f⟩ ⟨x0, b, x2, d, f⟩ (7) r1 (HA.out) hr1 v0)
      clear hr1
      go_wp2_with fail
      refine HS1.out.mono ?_
      rintro e v1 ⟨rfl, b1⟩
      clear cp0 cp1 cp2 cp3 cp4
      have Kp_2 : Hid (Bk v1 p 23 #[.bool a, .bool b, .bool c, .bool d, .bool f]) := Kp_1.out.below b1 Kp_1.out.lt
      have B_2 : Hid (Below w.heap.size w v1) := B_1.out.trans (b1.mono B_1.out.size)
      clear Kp_1 B_1
      clear b1
      obtain ⟨W3, hW3⟩ : ∃ W, v1.alloc (.cells #[.bool x0, .bool b, .bool x2, .bool d, .bool f] 23) = W := ⟨_, rfl⟩
      obtain ⟨q, hq⟩ : ∃ g, v1.heap.size = g := ⟨_, rfl⟩
      have Kp_3 : Hid (Bk W3 p 23 #[.bool a, .bool b, .bool c, .bool d, .bool f]) := by rw [← hW3]; exact Kp_2.out.alloc _
      have HNpq : Hid (p < q) := by have := Kp_2.out.lt; unfold Hid; omega
      have Kq_3 : Hid (Bk W3 q 23 #[.bool x0, .bool b, .bool x2, .bool d, .bool f]) := by rw [← hW3, ← hq]; exact Bk.new _ _ _
      have B_3 : Hid (Below w.heap.size w W3) := by rw [← hW3]; exact B_2.out.alloc B_2.out.size _
      have HLq : Hid (w.heap.size ≤ q) := by have := B_2.out.size; unfold Hid; omega
      have HW3 := Lib.hid hW3
      have HAq := Lib.hid hq
      clear hW3 hq
      clear Kp_2 B_2
      go_upto_region 5 with fail
      (try rw [HW3.out])
      (try rw [HAq.out])
      have cq0 : W3.cell? ⟨q, 0, none⟩ = some (.bool x0) := Kq_3.out.cell 0
      have cq1 : W3.cell? ⟨q, 1, none⟩ = some (.bool b) := Kq_3.out.cell 1
      have cq2 : W3.cell? ⟨q, 2, none⟩ = some (.bool x2) := Kq_3.out.cell 2
      have cq3 : W3.cell? ⟨q, 3, none⟩ = some (.bool d) := Kq_3.out.cell 3
      have cq4 : W3.cell? ⟨q, 4, none⟩ = some (.bool f) := Kq_3.out.cell 4
      have hr3 : (!decide ((⟨x0, b, x2, d, f⟩ : Mod) = ⟨x0, b, x2, d, f⟩)) = false := by simp
      have HS3 := Lib.hid (step_at ⟨x0, b, x2, d, f⟩ ⟨x0, b, x2, d, f⟩ (7) false (HQ.out) hr3 W3)
      clear hr3
      go_wp2_with fail
      refine HS3.out.mono ?_
      rintro e v3 ⟨rfl, b3⟩
      clear cq0 cq1 cq2 cq3 cq4
      have Kp_4 : Hid (Bk v3 p 23 #[.bool a, .bool b, .bool c, .bool d, .bool f]) := Kp_3.out.below b3 Kp_3.out.lt
      have Kq_4 : Hid (Bk v3 q 23 #[.bool x0, .bool b, .bool x2, .bool d, .bool f]) := Kq_3.out.below b3 Kq_3.out.lt
      have B_4 : Hid (Below w.heap.size w v3) := B_3.out.trans (b3.mono B_3.out.size)
      clear Kp_3 Kq_3 B_3
      clear b3
      obtain ⟨W5, hW5⟩ : ∃ W, v3.alloc (.cells #[.bool x0, .bool b, .bool x2, .bool d, .bool f] 23) = W := ⟨_, rfl⟩
      obtain ⟨r, hr⟩ : ∃ g, v3.heap.size = g := ⟨_, rfl⟩
      have Kp_5 : Hid (Bk W5 p 23 #[.bool a, .bool b, .bool c, .bool d, .bool f]) := by rw [← hW5]; exact Kp_4.out.alloc _
      have HNpr : Hid (p < r) := by have := Kp_4.out.lt; unfold Hid; omega
      have Kq_5 : Hid (Bk W5 q 23 #[.bool x0, .bool b, .bool x2, .bool d, .bool f]) := by rw [← hW5]; exact Kq_4.out.alloc _
      have HNqr : Hid (q < r) := by have := Kq_4.out.lt; unfold Hid; omega
      have Kr_5 : Hid (Bk W5 r 23 #[.bool x0, .bool b, .bool x2, .bool d, .bool f]) := by rw [← hW5, ← hr]; exact Bk.new _ _ _
      have B_5 : Hid (Below w.heap.size w W5) := by rw [← hW5]; exact B_4.out.alloc B_4.out.size _
      have HLr : Hid (w.heap.size ≤ r) := by have := B_4.out.size; unfold Hid; omega
      have HW5 := Lib.hid hW5
      have HAr := Lib.hid hr
      clear hW5 hr
      clear Kp_4 Kq_4 B_4
      go_upto_region 6 with fail
      (try rw [HW5.out])
      (try rw [HAr.out])
      have q1 := eqlM_at (m := ⟨x0, b, x2, d, f⟩) (n := ⟨x0, b, x2, d, f⟩) (r := true) (by simp)
      have q2 := eqgM_at .eql ⟨x0, b, x2, d, f⟩ ⟨x0, b, x2, d, f⟩
      have cp0 : W5.cell? ⟨p, 0, none⟩ = some (.bool a) := Kp_5.out.cell 0
      have cp1 : W5.cell? ⟨p, 1, none⟩ = some (.bool b) := Kp_5.out.cell 1
      have cp2 : W5.cell? ⟨p, 2, none⟩ = some (.bool c) := Kp_5.out.cell 2
      have cp3 : W5.cell? ⟨p, 3, none⟩ = some (.bool d) := Kp_5.out.cell 3
      have cp4 : W5.cell? ⟨p, 4, none⟩ = some (.bool f) := Kp_5.out.cell 4
      have cq0 : W5.cell? ⟨q, 0, none⟩ = some (.bool x0) := Kq_5.out.cell 0
      have cq1 : W5.cell? ⟨q, 1, none⟩ = some (.bool b) := Kq_5.out.cell 1
      have cq2 : W5.cell? ⟨q, 2, none⟩ = some (.bool x2) := Kq_5.out.cell 2
      have cq3 : W5.cell? ⟨q, 3, none⟩ = some (.bool d) := Kq_5.out.cell 3
      have cq4 : W5.cell? ⟨q, 4, none⟩ = some (.bool f) := Kq_5.out.cell 4
      go_wp2_with fail
      refine (HAW.out W5).mono ?_
      rintro e v5 ⟨rfl, b5⟩
      clear cp0 cp1 cp2 cp3 cp4 cq0 cq1 cq2 cq3 cq4
      have Kp_6 : Hid (Bk v5 p 23 #[.bool a, .bool b, .bool c, .bool d, .bool f]) := Kp_5.out.below b5 Kp_5.out.lt
      have Kq_6 : Hid (Bk v5 q 23 #[.bool x0, .bool b, .bool x2, .bool d, .bool f]) := Kq_5.out.below b5 Kq_5.out.lt
      have Kr_6 : Hid (Bk v5 r 23 #[.bool x0, .bool b, .bool x2, .bool d, .bool f]) := Kr_5.out.below b5 Kr_5.out.lt
      have B_6 : Hid (Below w.heap.size w v5) := B_5.out.trans (b5.mono B_5.out.size)
      clear Kp_5 Kq_5 Kr_5 B_5
      clear b5
      have cp0 : v5.cell? ⟨p, 0, none⟩ = some (.bool a) := Kp_6.out.cell 0
      have cp1 : v5.cell? ⟨p, 1, none⟩ = some (.bool b) := Kp_6.out.cell 1
      have cp2 : v5.cell? ⟨p, 2, none⟩ = some (.bool c) := Kp_6.out.cell 2
      have cp3 : v5.cell? ⟨p, 3, none⟩ = some (.bool d) := Kp_6.out.cell 3
      have cp4 : v5.cell? ⟨p, 4, none⟩ = some (.bool f) := Kp_6.out.cell 4
      have cq0 : v5.cell? ⟨q, 0, none⟩ = some (.bool x0) := Kq_6.out.cell 0
      have cq1 : v5.cell? ⟨q, 1, none⟩ = some (.bool b) := Kq_6.out.cell 1
      have cq2 : v5.cell? ⟨q, 2, none⟩ = some (.bool x2) := Kq_6.out.cell 2
      have cq3 : v5.cell? ⟨q, 3, none⟩ = some (.bool d) := Kq_6.out.cell 3
      have cq4 : v5.cell? ⟨q, 4, none⟩ = some (.bool f) := Kq_6.out.cell 4
      have cr0 : v5.cell? ⟨r, 0, none⟩ = some (.bool x0) := Kr_6.out.cell 0
      have cr1 : v5.cell? ⟨r, 1, none⟩ = some (.bool b) := Kr_6.out.cell 1
      have cr2 : v5.cell? ⟨r, 2, none⟩ = some (.bool x2) := Kr_6.out.cell 2
      have cr3 : v5.cell? ⟨r, 3, none⟩ = some (.bool d) := Kr_6.out.cell 3
      have cr4 : v5.cell? ⟨r, 4, none⟩ = some (.bool f) := Kr_6.out.cell 4
      go_wp2_with fail
      go_ret
      exact ⟨rfl, B_6.out⟩
    · skip
      have hp : ∀ a b c d f : Bool, rightM ⟨a, b, c, d, f⟩ = true → stepM (stepM ⟨a, b, c, d, f⟩ 8) 8 = stepM ⟨a, b, c, d, f⟩ 8 ∧ (stepM ⟨a, b, c, d, f⟩ 8).fr = b ∧ (stepM ⟨a, b, c, d, f⟩ 8).inn = d ∧ (stepM ⟨a, b, c, d, f⟩ 8).app = f := by decide
      obtain ⟨hq, hx1, hx3, hx4⟩ := hp a b c d f HR.out
      clear hp
      obtain ⟨⟨x0, x1, x2, x3, x4⟩, hA⟩ : ∃ A, stepM ⟨a, b, c, d, f⟩ 8 = A := ⟨_, rfl⟩
      rw [hA] at hq hx1 hx3 hx4
      simp only at hx1 hx3 hx4
      obtain rfl := hx1.symm
      obtain rfl := hx3.symm
      obtain rfl := hx4.symm
      have HA := Lib.hid hA
      have HQ := Lib.hid hq
      clear hA hq
      have cp0 : v0.cell? ⟨p, 0, none⟩ = some (.bool a) := Kp_1.out.cell 0
      have cp1 : v0.cell? ⟨p, 1, none⟩ = some (.bool b) := Kp_1.out.cell 1
      have cp2 : v0.cell? ⟨p, 2, none⟩ = some (.bool c) := Kp_1.out.cell 2
      have cp3 : v0.cell? ⟨p, 3, none⟩ = some (.bool d) := Kp_1.out.cell 3
      have cp4 : v0.cell? ⟨p, 4, none⟩ = some (.bool f) := Kp_1.out.cell 4
      obtain ⟨r1, hr1⟩ : ∃ r, (!decide ((⟨x0, b, x2, d, f⟩ : Mod) = ⟨a, b, c, d, f⟩)) = r := ⟨_, rfl⟩
      have HS1 := Lib.hid (step_at ⟨a, b, c, d, f⟩ ⟨x0, b, x2, d, f⟩ (8) r1 (HA.out) hr1 v0)
      clear hr1
      go_wp2_with fail
      refine HS1.out.mono ?_
      rintro e v1 ⟨rfl, b1⟩
      clear cp0 cp1 cp2 cp3 cp4
      have Kp_2 : Hid (Bk v1 p 23 #[.bool a, .bool b, .bool c, .bool d, .bool f]) := Kp_1.out.below b1 Kp_1.out.lt
      have B_2 : Hid (Below w.heap.size w v1) := B_1.out.trans (b1.mono B_1.out.size)
      clear Kp_1 B_1
      clear b1
      obtain ⟨W3, hW3⟩ : ∃ W, v1.alloc (.cells #[.bool x0, .bool b, .bool x2, .bool d, .bool f] 23) = W := ⟨_, rfl⟩
      obtain ⟨q, hq⟩ : ∃ g, v1.heap.size = g := ⟨_, rfl⟩
      have Kp_3 : Hid (Bk W3 p 23 #[.bool a, .bool b, .bool c, .bool d, .bool f]) := by rw [← hW3]; exact Kp_2.out.alloc _
      have HNpq : Hid (p < q) := by have := Kp_2.out.lt; unfold Hid; omega
      have Kq_3 : Hid (Bk W3 q 23 #[.bool x0, .bool b, .bool x2, .bool d, .bool f]) := by rw [← hW3, ← hq]; exact Bk.new _ _ _
      have B_3 : Hid (Below w.heap.size w W3) := by rw [← hW3]; exact B_2.out.alloc B_2.out.size _
      have HLq : Hid (w.heap.size ≤ q) := by have := B_2.out.size; unfold Hid; omega
      have HW3 := Lib.hid hW3
      have HAq := Lib.hid hq
      clear hW3 hq
      clear Kp_2 B_2
      go_upto_region 5 with fail
      (try rw [HW3.out])
      (try rw [HAq.out])
      have cq0 : W3.cell? ⟨q, 0, none⟩ = some (.bool x0) := Kq_3.out.cell 0
      have cq1 : W3.cell? ⟨q, 1, none⟩ = some (.bool b) := Kq_3.out.cell 1
      have cq2 : W3.cell? ⟨q, 2, none⟩ = some (.bool x2) := Kq_3.out.cell 2
      have cq3 : W3.cell? ⟨q, 3, none⟩ = some (.bool d) := Kq_3.out.cell 3
      have cq4 : W3.cell? ⟨q, 4, none⟩ = some (.bool f) := Kq_3.out.cell 4
      have hr3 : (!decide ((⟨x0, b, x2, d, f⟩ : Mod) = ⟨x0, b, x2, d, f⟩)) = false := by simp
      have HS3 := Lib.hid (step_at ⟨x0, b, x2, d, f⟩ ⟨x0, b, x2, d, f⟩ (8) false (HQ.out) hr3 W3)
      clear hr3
      go_wp2_with fail
      refine HS3.out.mono ?_
      rintro e v3 ⟨rfl, b3⟩
      clear cq0 cq1 cq2 cq3 cq4
      have Kp_4 : Hid (Bk v3 p 23 #[.bool a, .bool b, .bool c, .bool d, .bool f]) := Kp_3.out.below b3 Kp_3.out.lt
      have Kq_4 : Hid (Bk v3 q 23 #[.bool x0, .bool b, .bool x2, .bool d, .bool f]) := Kq_3.out.below b3 Kq_3.out.lt
      have B_4 : Hid (Below w.heap.size w v3) := B_3.out.trans (b3.mono B_3.out.size)
      clear Kp_3 Kq_3 B_3
      clear b3
      obtain ⟨W5, hW5⟩ : ∃ W, v3.alloc (.cells #[.bool x0, .bool b, .bool x2, .bool d, .bool f] 23) = W := ⟨_, rfl⟩
      obtain ⟨r, hr⟩ : ∃ g, v3.heap.size = g := ⟨_, rfl⟩
      have Kp_5 : Hid (Bk W5 p 23 #[.bool a, .bool b, .bool c, .bool d, .bool f]) := by rw [← hW5]; exact Kp_4.out.alloc _
      have HNpr : Hid (p < r) := by have := Kp_4.out.lt; unfold Hid; omega
      have Kq_5 : Hid (Bk W5 q 23 #[.bool x0, .bool b, .bool x2, .bool d, .bool f]) := by rw [← hW5]; exact Kq_4.out.alloc _
      have HNqr : Hid (q < r) := by have := Kq_4.out.lt; unfold Hid; omega
      have Kr_5 : Hid (Bk W5 r 23 #[.bool x0, .bool b, .bool x2, .bool d, .bool f]) := by rw [← hW5, ← hr]; exact Bk.new _ _ _
      have B_5 : Hid (Below w.heap.size w W5) := by rw [← hW5]; exact B_4.out.alloc B_4.out.size _
      have HLr : Hid (w.heap.size ≤ r) := by have := B_4.out.size; unfold Hid; omega
      have HW5 := Lib.hid hW5
      have HAr := Lib.hid hr
      clear hW5 hr
      clear Kp_4 Kq_4 B_4
      go_upto_region 6 with fail
      (try rw [HW5.out])
      (try rw [HAr.out])
      have q1 := eqlM_at (m := ⟨x0, b, x2, d, f⟩) (n := ⟨x0, b, x2, d, f⟩) (r := true) (by simp)
      have q2 := eqgM_at .eql ⟨x0, b, x2, d, f⟩ ⟨x0, b, x2, d, f⟩
      have cp0 : W5.cell? ⟨p, 0, none⟩ = some (.bool a) := Kp_5.out.cell 0
      have cp1 : W5.cell? ⟨p, 1, none⟩ = some (.bool b) := Kp_5.out.cell 1
      have cp2 : W5.cell? ⟨p, 2, none⟩ = some (.bool c) := Kp_5.out.cell 2
      have cp3 : W5.cell? ⟨p, 3, none⟩ = some (.bool d) := Kp_5.out.cell 3
      have cp4 : W5.cell? ⟨p, 4, none⟩ = some (.bool f) := Kp_5.out.cell 4
      have cq0 : W5.cell? ⟨q, 0, none⟩ = some (.bool x0) := Kq_5.out.cell 0
      have cq1 : W5.cell? ⟨q, 1, none⟩ = some (.bool b) := Kq_5.out.cell 1
      have cq2 : W5.cell? ⟨q, 2, none⟩ = some (.bool x2) := Kq_5.out.cell 2
      have cq3 : W5.cell? ⟨q, 3, none⟩ = some (.bool d) := Kq_5.out.cell 3
      have cq4 : W5.cell? ⟨q, 4, none⟩ = some (.bool f) := Kq_5.out.cell 4
      go_wp2_with fail
      refine (HAW.out W5).mono ?_
      rintro e v5 ⟨rfl, b5⟩
      clear cp0 cp1 cp2 cp3 cp4 cq0 cq1 cq2 cq3 cq4
      have Kp_6 : Hid (Bk v5 p 23 #[.bool a, .bool b, .bool c, .bool d, .bool f]) := Kp_5.out.below b5 Kp_5.out.lt
      have Kq_6 : Hid (Bk v5 q 23 #[.bool x0, .bool b, .bool x2, .bool d, .bool f]) := Kq_5.out.below b5 Kq_5.out.lt
      have Kr_6 : Hid (Bk v5 r 23 #[.bool x0, .bool b, .bool x2, .bool d, .bool f]) := Kr_5.out.below b5 Kr_5.out.lt
      have B_6 : Hid (Below w.heap.size w v5) := B_5.out.trans (b5.mono B_5.out.size)
      clear Kp_5 Kq_5 Kr_5 B_5
      clear b5
      have cp0 : v5.cell? ⟨p, 0, none⟩ = some (.bool a) := Kp_6.out.cell 0
      have cp1 : v5.cell? ⟨p, 1, none⟩ = some (.bool b) := Kp_6.out.cell 1
      have cp2 : v5.cell? ⟨p, 2, none⟩ = some (.bool c) := Kp_6.out.cell 2
      have cp3 : v5.cell? ⟨p, 3, none⟩ = some (.bool d) := Kp_6.out.cell 3
      have cp4 : v5.cell? ⟨p, 4, none⟩ = some (.bool f) := Kp_6.out.cell 4
      have cq0 : v5.cell? ⟨q, 0, none⟩ = some (.bool x0) := Kq_6.out.cell 0
      have cq1 : v5.cell? ⟨q, 1, none⟩ = some (.bool b) := Kq_6.out.cell 1
      have cq2 : v5.cell? ⟨q, 2, none⟩ = some (.bool x2) := Kq_6.out.cell 2
      have cq3 : v5.cell? ⟨q, 3, none⟩ = some (.bool d) := Kq_6.out.cell 3
      have cq4 : v5.cell? ⟨q, 4, none⟩ = some (.bool f) := Kq_6.out.cell 4
      have cr0 : v5.cell? ⟨r, 0, none⟩ = some (.bool x0) := Kr_6.out.cell 0
      have cr1 : v5.cell? ⟨r, 1, none⟩ = some (.bool b) := Kr_6.out.cell 1
      have cr2 : v5.cell? ⟨r, 2, none⟩ = some (.bool x2) := Kr_6.out.cell 2
      have cr3 : v5.cell? ⟨r, 3, none⟩ = some (.bool d) := Kr_6.out.cell 3
      have cr4 : v5.cell? ⟨r, 4, none⟩ = some (.bool f) := Kr_6.out.cell 4
      go_wp2_with fail
      go_ret
      exact ⟨rfl, B_6.out⟩
end Go.Proofs.Ytpaehhlhngilcaa
