import Derived.Test.YtpaehhlhngilcaaM35
import Derived.Deep.RegionHeld3
import Derived.Test.YtpaehhlhngilcaaM21
import Derived.BigQuiet
/- what is reached of it -/
namespace Go.Proofs.Ytpaehhlhngilcaa
open Go.RowKit Tx Vc Ct
set_option maxHeartbeats 16000000 in
set_option maxRecDepth 100000 in
theorem machineRounds_any (m : Mod) (ahead : Bool) (w : World) : Calls Try.prog 6 #[agM m, .bool ahead] w fun e w' => e = .returned (.bool true) ∧ Below w.heap.size w w' := by
  have HAW := Lib.hid (fun W => mawake_any W)
  obtain ⟨a, b, c, d, f⟩ := m
  rw [← agM_mk]
  obtain ⟨R, hR⟩ : ∃ R, rightM ⟨a, b, c, d, f⟩ = R := ⟨_, rfl⟩
  have HR := Lib.hid hR
  obtain ⟨W0, hW0⟩ : ∃ W, w.alloc (.cells #[.bool a, .bool b, .bool c, .bool d, .bool f] 23) = W := ⟨_, rfl⟩
  obtain ⟨p, hp⟩ : ∃ g, w.heap.size = g := ⟨_, rfl⟩
  have Kp_0 : Hid (Bk W0 p 23 #[.bool a, .bool b, .bool c, .bool d, .bool f]) := by rw [← hW0, ← hp]; exact Bk.new _ _ _
  have B_0 : Hid (Below w.heap.size w W0) := by rw [← hW0]; exact (Below.refl _ _).alloc (Nat.le_refl _) _
  have HLp : Hid (w.heap.size ≤ p) := by unfold Hid; omega
  have HW0 := Lib.hid hW0
  have HAp := Lib.hid hp
  clear hW0 hp
  have HRI := Lib.hid (rightM_any a b c d f W0)
  rw [hR] at HRI
  clear hR
  go_enter Try.func6, Try.ntmps6
  go_upto_region 1 with fail
  (try rw [HW0.out])
  (try rw [HAp.out])
  have cp0 : W0.cell? ⟨p, 0, none⟩ = some (.bool a) := Kp_0.out.cell 0
  have cp1 : W0.cell? ⟨p, 1, none⟩ = some (.bool b) := Kp_0.out.cell 1
  have cp2 : W0.cell? ⟨p, 2, none⟩ = some (.bool c) := Kp_0.out.cell 2
  have cp3 : W0.cell? ⟨p, 3, none⟩ = some (.bool d) := Kp_0.out.cell 3
  have cp4 : W0.cell? ⟨p, 4, none⟩ = some (.bool f) := Kp_0.out.cell 4
  go_wp2_with fail
  refine HRI.out.mono ?_
  rintro e v0 ⟨rfl, b0⟩
  clear cp0 cp1 cp2 cp3 cp4
  have Kp_1 : Hid (Bk v0 p 23 #[.bool a, .bool b, .bool c, .bool d, .bool f]) := Kp_0.out.below b0 Kp_0.out.lt
  have B_1 : Hid (Below w.heap.size w v0) := B_0.out.trans (b0.mono B_0.out.size)
  clear Kp_0 B_0
  clear b0 HRI
  cases R with
  | false =>
    go_wp2_with fail
    refine (HAW.out v0).mono ?_
    rintro e v1 ⟨rfl, b1⟩
    have B1 : Hid (Below w.heap.size w v1) := B_1.out.trans (b1.mono B_1.out.size)
    clear b1
    go_wp2_with fail
    go_ret
    exact ⟨rfl, B1.out⟩
  | true =>
    clear HR
    have cp0 : v0.cell? ⟨p, 0, none⟩ = some (.bool a) := Kp_1.out.cell 0
    have cp1 : v0.cell? ⟨p, 1, none⟩ = some (.bool b) := Kp_1.out.cell 1
    have cp2 : v0.cell? ⟨p, 2, none⟩ = some (.bool c) := Kp_1.out.cell 2
    have cp3 : v0.cell? ⟨p, 3, none⟩ = some (.bool d) := Kp_1.out.cell 3
    have cp4 : v0.cell? ⟨p, 4, none⟩ = some (.bool f) := Kp_1.out.cell 4
    obtain ⟨r1, hr1⟩ : ∃ r, (!decide ((⟨false, b, false, d, f⟩ : Mod) = ⟨a, b, c, d, f⟩)) = r := ⟨_, rfl⟩
    have HS1 := Lib.hid (step_at ⟨a, b, c, d, f⟩ ⟨false, b, false, d, f⟩ (2) r1 (rfl) hr1 v0)
    clear hr1
    go_wp2_with fail
    refine HS1.out.mono ?_
    rintro e v1 ⟨rfl, b1⟩
    clear cp0 cp1 cp2 cp3 cp4
    have Kp_2 : Hid (Bk v1 p 23 #[.bool a, .bool b, .bool c, .bool d, .bool f]) := Kp_1.out.below b1 Kp_1.out.lt
    have B_2 : Hid (Below w.heap.size w v1) := B_1.out.trans (b1.mono B_1.out.size)
    clear Kp_1 B_1
    clear b1
    obtain ⟨W3, hW3⟩ : ∃ W, v1.alloc (.cells #[.bool false, .bool b, .bool false, .bool d, .bool f] 23) = W := ⟨_, rfl⟩
    obtain ⟨q, hq⟩ : ∃ g, v1.heap.size = g := ⟨_, rfl⟩
    have Kp_3 : Hid (Bk W3 p 23 #[.bool a, .bool b, .bool c, .bool d, .bool f]) := by rw [← hW3]; exact Kp_2.out.alloc _
    have HNpq : Hid (p < q) := by have := Kp_2.out.lt; unfold Hid; omega
    have Kq_3 : Hid (Bk W3 q 23 #[.bool false, .bool b, .bool false, .bool d, .bool f]) := by rw [← hW3, ← hq]; exact Bk.new _ _ _
    have B_3 : Hid (Below w.heap.size w W3) := by rw [← hW3]; exact B_2.out.alloc B_2.out.size _
    have HLq : Hid (w.heap.size ≤ q) := by have := B_2.out.size; unfold Hid; omega
    have HW3 := Lib.hid hW3
    have HAq := Lib.hid hq
    clear hW3 hq
    clear Kp_2 B_2
    go_upto_region 4 with fail
    (try rw [HW3.out])
    (try rw [HAq.out])
    have cq0 : W3.cell? ⟨q, 0, none⟩ = some (.bool false) := Kq_3.out.cell 0
    have cq1 : W3.cell? ⟨q, 1, none⟩ = some (.bool b) := Kq_3.out.cell 1
    have cq2 : W3.cell? ⟨q, 2, none⟩ = some (.bool false) := Kq_3.out.cell 2
    have cq3 : W3.cell? ⟨q, 3, none⟩ = some (.bool d) := Kq_3.out.cell 3
    have cq4 : W3.cell? ⟨q, 4, none⟩ = some (.bool f) := Kq_3.out.cell 4
    obtain ⟨r3, hr3⟩ : ∃ r, (!decide ((⟨false, b, true, d, f⟩ : Mod) = ⟨false, b, false, d, f⟩)) = r := ⟨_, rfl⟩
    have HS3 := Lib.hid (step_at ⟨false, b, false, d, f⟩ ⟨false, b, true, d, f⟩ (1) r3 (rfl) hr3 W3)
    clear hr3
    go_wp2_with fail
    refine HS3.out.mono ?_
    rintro e v3 ⟨rfl, b3⟩
    clear cq0 cq1 cq2 cq3 cq4
    have Kp_4 : Hid (Bk v3 p 23 #[.bool a, .bool b, .bool c, .bool d, .bool f]) := Kp_3.out.below b3 Kp_3.out.lt
    have Kq_4 : Hid (Bk v3 q 23 #[.bool false, .bool b, .bool false, .bool d, .bool f]) := Kq_3.out.below b3 Kq_3.out.lt
    have B_4 : Hid (Below w.heap.size w v3) := B_3.out.trans (b3.mono B_3.out.size)
    clear Kp_3 Kq_3 B_3
    clear b3
    have cq0 : v3.cell? ⟨q, 0, none⟩ = some (.bool false) := Kq_4.out.cell 0
    have cgq0 : v3.frozen? ⟨q, 0, none⟩ = false := Kq_4.out.free 0
    have cq1 : v3.cell? ⟨q, 1, none⟩ = some (.bool b) := Kq_4.out.cell 1
    have cgq1 : v3.frozen? ⟨q, 1, none⟩ = false := Kq_4.out.free 1
    have cq2 : v3.cell? ⟨q, 2, none⟩ = some (.bool false) := Kq_4.out.cell 2
    have cgq2 : v3.frozen? ⟨q, 2, none⟩ = false := Kq_4.out.free 2
    have cq3 : v3.cell? ⟨q, 3, none⟩ = some (.bool d) := Kq_4.out.cell 3
    have cgq3 : v3.frozen? ⟨q, 3, none⟩ = false := Kq_4.out.free 3
    have cq4 : v3.cell? ⟨q, 4, none⟩ = some (.bool f) := Kq_4.out.cell 4
    have cgq4 : v3.frozen? ⟨q, 4, none⟩ = false := Kq_4.out.free 4
    obtain ⟨W5, hW5⟩ : ∃ z, laid5 v3 q (.bool false) (.bool b) (.bool true) (.bool d) (.bool f) = z := ⟨_, rfl⟩
    have Kp_5 : Hid (Bk W5 p 23 #[.bool a, .bool b, .bool c, .bool d, .bool f]) := by rw [← hW5]; exact laid5_far Kp_4.out (by have := HNpq.out; omega) (.bool false) (.bool b) (.bool true) (.bool d) (.bool f)
    have Kq_5 : Hid (Bk W5 q 23 #[.bool false, .bool b, .bool true, .bool d, .bool f]) := by rw [← hW5]; exact laid5_bk Kq_4.out (.bool false) (.bool b) (.bool true) (.bool d) (.bool f)
    have B_5 : Hid (Below w.heap.size w W5) := by rw [← hW5]; exact laid5_below B_4.out HLq.out (.bool false) (.bool b) (.bool true) (.bool d) (.bool f)
    clear Kp_4 Kq_4 B_4
    go_upto_region 5 with fail
    clear cq0 cgq0 cq1 cgq1 cq2 cgq2 cq3 cgq3 cq4 cgq4
    clear hW5
    have cq0 : W5.cell? ⟨q, 0, none⟩ = some (.bool false) := Kq_5.out.cell 0
    have cq1 : W5.cell? ⟨q, 1, none⟩ = some (.bool b) := Kq_5.out.cell 1
    have cq2 : W5.cell? ⟨q, 2, none⟩ = some (.bool true) := Kq_5.out.cell 2
    have cq3 : W5.cell? ⟨q, 3, none⟩ = some (.bool d) := Kq_5.out.cell 3
    have cq4 : W5.cell? ⟨q, 4, none⟩ = some (.bool f) := Kq_5.out.cell 4
    obtain ⟨r5, hr5⟩ : ∃ r, (!decide ((⟨true, b, false, d, f⟩ : Mod) = ⟨false, b, true, d, f⟩)) = r := ⟨_, rfl⟩
    have HS5 := Lib.hid (step_at ⟨false, b, true, d, f⟩ ⟨true, b, false, d, f⟩ (7) r5 (rfl) hr5 W5)
    clear hr5
    go_wp2_with fail
    refine HS5.out.mono ?_
    rintro e v5 ⟨rfl, b5⟩
    clear cq0 cq1 cq2 cq3 cq4
    have Kp_6 : Hid (Bk v5 p 23 #[.bool a, .bool b, .bool c, .bool d, .bool f]) := Kp_5.out.below b5 Kp_5.out.lt
    have Kq_6 : Hid (Bk v5 q 23 #[.bool false, .bool b, .bool true, .bool d, .bool f]) := Kq_5.out.below b5 Kq_5.out.lt
    have B_6 : Hid (Below w.heap.size w v5) := B_5.out.trans (b5.mono B_5.out.size)
    clear Kp_5 Kq_5 B_5
    clear b5
    have cq0 : v5.cell? ⟨q, 0, none⟩ = some (.bool false) := Kq_6.out.cell 0
    have cgq0 : v5.frozen? ⟨q, 0, none⟩ = false := Kq_6.out.free 0
    have cq1 : v5.cell? ⟨q, 1, none⟩ = some (.bool b) := Kq_6.out.cell 1
    have cgq1 : v5.frozen? ⟨q, 1, none⟩ = false := Kq_6.out.free 1
    have cq2 : v5.cell? ⟨q, 2, none⟩ = some (.bool true) := Kq_6.out.cell 2
    have cgq2 : v5.frozen? ⟨q, 2, none⟩ = false := Kq_6.out.free 2
    have cq3 : v5.cell? ⟨q, 3, none⟩ = some (.bool d) := Kq_6.out.cell 3
    have cgq3 : v5.frozen? ⟨q, 3, none⟩ = false := Kq_6.out.free 3
    have cq4 : v5.cell? ⟨q, 4, none⟩ = some (.bool f) := Kq_6.out.cell 4
    have cgq4 : v5.frozen? ⟨q, 4, none⟩ = false := Kq_6.out.free 4
    obtain ⟨W7, hW7⟩ : ∃ z, laid5 v5 q (.bool true) (.bool b) (.bool false) (.bool d) (.bool f) = z := ⟨_, rfl⟩
    have Kp_7 : Hid (Bk W7 p 23 #[.bool a, .bool b, .bool c, .bool d, .bool f]) := by rw [← hW7]; exact laid5_far Kp_6.out (by have := HNpq.out; omega) (.bool true) (.bool b) (.bool false) (.bool d) (.bool f)
    have Kq_7 : Hid (Bk W7 q 23 #[.bool true, .bool b, .bool false, .bool d, .bool f]) := by rw [← hW7]; exact laid5_bk Kq_6.out (.bool true) (.bool b) (.bool false) (.bool d) (.bool f)
    have B_7 : Hid (Below w.heap.size w W7) := by rw [← hW7]; exact laid5_below B_6.out HLq.out (.bool true) (.bool b) (.bool false) (.bool d) (.bool f)
    clear Kp_6 Kq_6 B_6
    go_upto_region 6 with fail
    clear cq0 cgq0 cq1 cgq1 cq2 cgq2 cq3 cgq3 cq4 cgq4
    clear hW7
    have cp0 : W7.cell? ⟨p, 0, none⟩ = some (.bool a) := Kp_7.out.cell 0
    have cp1 : W7.cell? ⟨p, 1, none⟩ = some (.bool b) := Kp_7.out.cell 1
    have cp2 : W7.cell? ⟨p, 2, none⟩ = some (.bool c) := Kp_7.out.cell 2
    have cp3 : W7.cell? ⟨p, 3, none⟩ = some (.bool d) := Kp_7.out.cell 3
    have cp4 : W7.cell? ⟨p, 4, none⟩ = some (.bool f) := Kp_7.out.cell 4
    obtain ⟨r7, hr7⟩ : ∃ r, (!decide ((⟨a, false, c, false, false⟩ : Mod) = ⟨a, b, c, d, f⟩)) = r := ⟨_, rfl⟩
    have HS7 := Lib.hid (step_at ⟨a, b, c, d, f⟩ ⟨a, false, c, false, false⟩ (4) r7 (rfl) hr7 W7)
    clear hr7
    go_wp2_with fail
    refine HS7.out.mono ?_
    rintro e v7 ⟨rfl, b7⟩
    clear cp0 cp1 cp2 cp3 cp4
    have Kp_8 : Hid (Bk v7 p 23 #[.bool a, .bool b, .bool c, .bool d, .bool f]) := Kp_7.out.below b7 Kp_7.out.lt
    have Kq_8 : Hid (Bk v7 q 23 #[.bool true, .bool b, .bool false, .bool d, .bool f]) := Kq_7.out.below b7 Kq_7.out.lt
    have B_8 : Hid (Below w.heap.size w v7) := B_7.out.trans (b7.mono B_7.out.size)
    clear Kp_7 Kq_7 B_7
    clear b7
    obtain ⟨W9, hW9⟩ : ∃ W, v7.alloc (.cells #[.bool a, .bool false, .bool c, .bool false, .bool false] 23) = W := ⟨_, rfl⟩
    obtain ⟨r, hr⟩ : ∃ g, v7.heap.size = g := ⟨_, rfl⟩
    have Kp_9 : Hid (Bk W9 p 23 #[.bool a, .bool b, .bool c, .bool d, .bool f]) := by rw [← hW9]; exact Kp_8.out.alloc _
    have HNpr : Hid (p < r) := by have := Kp_8.out.lt; unfold Hid; omega
    have Kq_9 : Hid (Bk W9 q 23 #[.bool true, .bool b, .bool false, .bool d, .bool f]) := by rw [← hW9]; exact Kq_8.out.alloc _
    have HNqr : Hid (q < r) := by have := Kq_8.out.lt; unfold Hid; omega
    have Kr_9 : Hid (Bk W9 r 23 #[.bool a, .bool false, .bool c, .bool false, .bool false]) := by rw [← hW9, ← hr]; exact Bk.new _ _ _
    have B_9 : Hid (Below w.heap.size w W9) := by rw [← hW9]; exact B_8.out.alloc B_8.out.size _
    have HLr : Hid (w.heap.size ≤ r) := by have := B_8.out.size; unfold Hid; omega
    have HW9 := Lib.hid hW9
    have HAr := Lib.hid hr
    clear hW9 hr
    clear Kp_8 Kq_8 B_8
    go_upto_region 7 with fail
    (try rw [HW9.out])
    (try rw [HAr.out])
    have cr0 : W9.cell? ⟨r, 0, none⟩ = some (.bool a) := Kr_9.out.cell 0
    have cr1 : W9.cell? ⟨r, 1, none⟩ = some (.bool false) := Kr_9.out.cell 1
    have cr2 : W9.cell? ⟨r, 2, none⟩ = some (.bool c) := Kr_9.out.cell 2
    have cr3 : W9.cell? ⟨r, 3, none⟩ = some (.bool false) := Kr_9.out.cell 3
    have cr4 : W9.cell? ⟨r, 4, none⟩ = some (.bool false) := Kr_9.out.cell 4
    obtain ⟨W10, hW10⟩ : ∃ W, W9.alloc (.cells #[.bool a, .bool false, .bool c, .bool false, .bool false] 23) = W := ⟨_, rfl⟩
    obtain ⟨s, hs⟩ : ∃ g, W9.heap.size = g := ⟨_, rfl⟩
    have Kp_10 : Hid (Bk W10 p 23 #[.bool a, .bool b, .bool c, .bool d, .bool f]) := by rw [← hW10]; exact Kp_9.out.alloc _
    have HNps : Hid (p < s) := by have := Kp_9.out.lt; unfold Hid; omega
    have Kq_10 : Hid (Bk W10 q 23 #[.bool true, .bool b, .bool false, .bool d, .bool f]) := by rw [← hW10]; exact Kq_9.out.alloc _
    have HNqs : Hid (q < s) := by have := Kq_9.out.lt; unfold Hid; omega
    have Kr_10 : Hid (Bk W10 r 23 #[.bool a, .bool false, .bool c, .bool false, .bool false]) := by rw [← hW10]; exact Kr_9.out.alloc _
    have HNrs : Hid (r < s) := by have := Kr_9.out.lt; unfold Hid; omega
    have Ks_10 : Hid (Bk W10 s 23 #[.bool a, .bool false, .bool c, .bool false, .bool false]) := by rw [← hW10, ← hs]; exact Bk.new _ _ _
    have B_10 : Hid (Below w.heap.size w W10) := by rw [← hW10]; exact B_9.out.alloc B_9.out.size _
    have HLs : Hid (w.heap.size ≤ s) := by have := B_9.out.size; unfold Hid; omega
    have HW10 := Lib.hid hW10
    have HAs := Lib.hid hs
    clear hW10 hs
    clear Kp_9 Kq_9 Kr_9 B_9
    go_upto_region 8 with fail
    (try rw [HW10.out])
    (try rw [HAs.out])
    clear cr0 cr1 cr2 cr3 cr4
    cases ahead with
    | false =>
      have cs0 : W10.cell? ⟨s, 0, none⟩ = some (.bool a) := Ks_10.out.cell 0
      have cs1 : W10.cell? ⟨s, 1, none⟩ = some (.bool false) := Ks_10.out.cell 1
      have cs2 : W10.cell? ⟨s, 2, none⟩ = some (.bool c) := Ks_10.out.cell 2
      have cs3 : W10.cell? ⟨s, 3, none⟩ = some (.bool false) := Ks_10.out.cell 3
      have cs4 : W10.cell? ⟨s, 4, none⟩ = some (.bool false) := Ks_10.out.cell 4
      obtain ⟨r10, hr10⟩ : ∃ r, (!decide ((⟨a, false, c, true, false⟩ : Mod) = ⟨a, false, c, false, false⟩)) = r := ⟨_, rfl⟩
      have HS10 := Lib.hid (step_at ⟨a, false, c, false, false⟩ ⟨a, false, c, true, false⟩ (5) r10 (rfl) hr10 W10)
      clear hr10
      go_wp2_with fail
      refine HS10.out.mono ?_
      rintro e v10 ⟨rfl, b10⟩
      clear cs0 cs1 cs2 cs3 cs4
      have Kp_11 : Hid (Bk v10 p 23 #[.bool a, .bool b, .bool c, .bool d, .bool f]) := Kp_10.out.below b10 Kp_10.out.lt
      have Kq_11 : Hid (Bk v10 q 23 #[.bool true, .bool b, .bool false, .bool d, .bool f]) := Kq_10.out.below b10 Kq_10.out.lt
      have Kr_11 : Hid (Bk v10 r 23 #[.bool a, .bool false, .bool c, .bool false, .bool false]) := Kr_10.out.below b10 Kr_10.out.lt
      have Ks_11 : Hid (Bk v10 s 23 #[.bool a, .bool false, .bool c, .bool false, .bool false]) := Ks_10.out.below b10 Ks_10.out.lt
      have B_11 : Hid (Below w.heap.size w v10) := B_10.out.trans (b10.mono B_10.out.size)
      clear Kp_10 Kq_10 Kr_10 Ks_10 B_10
      clear b10
      have cs0 : v10.cell? ⟨s, 0, none⟩ = some (.bool a) := Ks_11.out.cell 0
      have cgs0 : v10.frozen? ⟨s, 0, none⟩ = false := Ks_11.out.free 0
      have cs1 : v10.cell? ⟨s, 1, none⟩ = some (.bool false) := Ks_11.out.cell 1
      have cgs1 : v10.frozen? ⟨s, 1, none⟩ = false := Ks_11.out.free 1
      have cs2 : v10.cell? ⟨s, 2, none⟩ = some (.bool c) := Ks_11.out.cell 2
      have cgs2 : v10.frozen? ⟨s, 2, none⟩ = false := Ks_11.out.free 2
      have cs3 : v10.cell? ⟨s, 3, none⟩ = some (.bool false) := Ks_11.out.cell 3
      have cgs3 : v10.frozen? ⟨s, 3, none⟩ = false := Ks_11.out.free 3
      have cs4 : v10.cell? ⟨s, 4, none⟩ = some (.bool false) := Ks_11.out.cell 4
      have cgs4 : v10.frozen? ⟨s, 4, none⟩ = false := Ks_11.out.free 4
      obtain ⟨W12, hW12⟩ : ∃ z, laid5 v10 s (.bool a) (.bool false) (.bool c) (.bool true) (.bool false) = z := ⟨_, rfl⟩
      have Kp_12 : Hid (Bk W12 p 23 #[.bool a, .bool b, .bool c, .bool d, .bool f]) := by rw [← hW12]; exact laid5_far Kp_11.out (by have := HNps.out; omega) (.bool a) (.bool false) (.bool c) (.bool true) (.bool false)
      have Kq_12 : Hid (Bk W12 q 23 #[.bool true, .bool b, .bool false, .bool d, .bool f]) := by rw [← hW12]; exact laid5_far Kq_11.out (by have := HNqs.out; omega) (.bool a) (.bool false) (.bool c) (.bool true) (.bool false)
      have Kr_12 : Hid (Bk W12 r 23 #[.bool a, .bool false, .bool c, .bool false, .bool false]) := by rw [← hW12]; exact laid5_far Kr_11.out (by have := HNrs.out; omega) (.bool a) (.bool false) (.bool c) (.bool true) (.bool false)
      have Ks_12 : Hid (Bk W12 s 23 #[.bool a, .bool false, .bool c, .bool true, .bool false]) := by rw [← hW12]; exact laid5_bk Ks_11.out (.bool a) (.bool false) (.bool c) (.bool true) (.bool false)
      have B_12 : Hid (Below w.heap.size w W12) := by rw [← hW12]; exact laid5_below B_11.out HLs.out (.bool a) (.bool false) (.bool c) (.bool true) (.bool false)
      clear Kp_11 Kq_11 Kr_11 Ks_11 B_11
      go_upto_region 12 with fail
      clear cs0 cgs0 cs1 cgs1 cs2 cgs2 cs3 cgs3 cs4 cgs4
      clear hW12
      have cs0 : W12.cell? ⟨s, 0, none⟩ = some (.bool a) := Ks_12.out.cell 0
      have cs1 : W12.cell? ⟨s, 1, none⟩ = some (.bool false) := Ks_12.out.cell 1
      have cs2 : W12.cell? ⟨s, 2, none⟩ = some (.bool c) := Ks_12.out.cell 2
      have cs3 : W12.cell? ⟨s, 3, none⟩ = some (.bool true) := Ks_12.out.cell 3
      have cs4 : W12.cell? ⟨s, 4, none⟩ = some (.bool false) := Ks_12.out.cell 4
      obtain ⟨r12, hr12⟩ : ∃ r, (!decide ((⟨a, true, c, false, false⟩ : Mod) = ⟨a, false, c, true, false⟩)) = r := ⟨_, rfl⟩
      have HS12 := Lib.hid (step_at ⟨a, false, c, true, false⟩ ⟨a, true, c, false, false⟩ (3) r12 (rfl) hr12 W12)
      clear hr12
      go_wp2_with fail
      refine HS12.out.mono ?_
      rintro e v12 ⟨rfl, b12⟩
      clear cs0 cs1 cs2 cs3 cs4
      have Kp_13 : Hid (Bk v12 p 23 #[.bool a, .bool b, .bool c, .bool d, .bool f]) := Kp_12.out.below b12 Kp_12.out.lt
      have Kq_13 : Hid (Bk v12 q 23 #[.bool true, .bool b, .bool false, .bool d, .bool f]) := Kq_12.out.below b12 Kq_12.out.lt
      have Kr_13 : Hid (Bk v12 r 23 #[.bool a, .bool false, .bool c, .bool false, .bool false]) := Kr_12.out.below b12 Kr_12.out.lt
      have Ks_13 : Hid (Bk v12 s 23 #[.bool a, .bool false, .bool c, .bool true, .bool false]) := Ks_12.out.below b12 Ks_12.out.lt
      have B_13 : Hid (Below w.heap.size w v12) := B_12.out.trans (b12.mono B_12.out.size)
      clear Kp_12 Kq_12 Kr_12 Ks_12 B_12
      clear b12
      have cs0 : v12.cell? ⟨s, 0, none⟩ = some (.bool a) := Ks_13.out.cell 0
      have cgs0 : v12.frozen? ⟨s, 0, none⟩ = false := Ks_13.out.free 0
      have cs1 : v12.cell? ⟨s, 1, none⟩ = some (.bool false) := Ks_13.out.cell 1
      have cgs1 : v12.frozen? ⟨s, 1, none⟩ = false := Ks_13.out.free 1
      have cs2 : v12.cell? ⟨s, 2, none⟩ = some (.bool c) := Ks_13.out.cell 2
      have cgs2 : v12.frozen? ⟨s, 2, none⟩ = false := Ks_13.out.free 2
      have cs3 : v12.cell? ⟨s, 3, none⟩ = some (.bool true) := Ks_13.out.cell 3
      have cgs3 : v12.frozen? ⟨s, 3, none⟩ = false := Ks_13.out.free 3
      have cs4 : v12.cell? ⟨s, 4, none⟩ = some (.bool false) := Ks_13.out.cell 4
      have cgs4 : v12.frozen? ⟨s, 4, none⟩ = false := Ks_13.out.free 4
      obtain ⟨W14, hW14⟩ : ∃ z, laid5 v12 s (.bool a) (.bool true) (.bool c) (.bool false) (.bool false) = z := ⟨_, rfl⟩
      have Kp_14 : Hid (Bk W14 p 23 #[.bool a, .bool b, .bool c, .bool d, .bool f]) := by rw [← hW14]; exact laid5_far Kp_13.out (by have := HNps.out; omega) (.bool a) (.bool true) (.bool c) (.bool false) (.bool false)
      have Kq_14 : Hid (Bk W14 q 23 #[.bool true, .bool b, .bool false, .bool d, .bool f]) := by rw [← hW14]; exact laid5_far Kq_13.out (by have := HNqs.out; omega) (.bool a) (.bool true) (.bool c) (.bool false) (.bool false)
      have Kr_14 : Hid (Bk W14 r 23 #[.bool a, .bool false, .bool c, .bool false, .bool false]) := by rw [← hW14]; exact laid5_far Kr_13.out (by have := HNrs.out; omega) (.bool a) (.bool true) (.bool c) (.bool false) (.bool false)
      have Ks_14 : Hid (Bk W14 s 23 #[.bool a, .bool true, .bool c, .bool false, .bool false]) := by rw [← hW14]; exact laid5_bk Ks_13.out (.bool a) (.bool true) (.bool c) (.bool false) (.bool false)
      have B_14 : Hid (Below w.heap.size w W14) := by rw [← hW14]; exact laid5_below B_13.out HLs.out (.bool a) (.bool true) (.bool c) (.bool false) (.bool false)
      clear Kp_13 Kq_13 Kr_13 Ks_13 B_13
      go_upto_region 13 with fail
      clear cs0 cgs0 cs1 cgs1 cs2 cgs2 cs3 cgs3 cs4 cgs4
      clear hW14
      have cs0 : W14.cell? ⟨s, 0, none⟩ = some (.bool a) := Ks_14.out.cell 0
      have cs1 : W14.cell? ⟨s, 1, none⟩ = some (.bool true) := Ks_14.out.cell 1
      have cs2 : W14.cell? ⟨s, 2, none⟩ = some (.bool c) := Ks_14.out.cell 2
      have cs3 : W14.cell? ⟨s, 3, none⟩ = some (.bool false) := Ks_14.out.cell 3
      have cs4 : W14.cell? ⟨s, 4, none⟩ = some (.bool false) := Ks_14.out.cell 4
      obtain ⟨r14, hr14⟩ : ∃ r, (!decide ((⟨a, false, c, false, false⟩ : Mod) = ⟨a, true, c, false, false⟩)) = r := ⟨_, rfl⟩
      have HS14 := Lib.hid (step_at ⟨a, true, c, false, false⟩ ⟨a, false, c, false, false⟩ (6) r14 (rfl) hr14 W14)
      clear hr14
      go_wp2_with fail
      refine HS14.out.mono ?_
      rintro e v14 ⟨rfl, b14⟩
      clear cs0 cs1 cs2 cs3 cs4
      have Kp_15 : Hid (Bk v14 p 23 #[.bool a, .bool b, .bool c, .bool d, .bool f]) := Kp_14.out.below b14 Kp_14.out.lt
      have Kq_15 : Hid (Bk v14 q 23 #[.bool true, .bool b, .bool false, .bool d, .bool f]) := Kq_14.out.below b14 Kq_14.out.lt
      have Kr_15 : Hid (Bk v14 r 23 #[.bool a, .bool false, .bool c, .bool false, .bool false]) := Kr_14.out.below b14 Kr_14.out.lt
      have Ks_15 : Hid (Bk v14 s 23 #[.bool a, .bool true, .bool c, .bool false, .bool false]) := Ks_14.out.below b14 Ks_14.out.lt
      have B_15 : Hid (Below w.heap.size w v14) := B_14.out.trans (b14.mono B_14.out.size)
      clear Kp_14 Kq_14 Kr_14 Ks_14 B_14
      clear b14
      obtain ⟨W16, hW16⟩ : ∃ W, v14.alloc (.cells #[.bool a, .bool false, .bool c, .bool false, .bool false] 23) = W := ⟨_, rfl⟩
      obtain ⟨t, ht⟩ : ∃ g, v14.heap.size = g := ⟨_, rfl⟩
      have Kp_16 : Hid (Bk W16 p 23 #[.bool a, .bool b, .bool c, .bool d, .bool f]) := by rw [← hW16]; exact Kp_15.out.alloc _
      have HNpt : Hid (p < t) := by have := Kp_15.out.lt; unfold Hid; omega
      have Kq_16 : Hid (Bk W16 q 23 #[.bool true, .bool b, .bool false, .bool d, .bool f]) := by rw [← hW16]; exact Kq_15.out.alloc _
      have HNqt : Hid (q < t) := by have := Kq_15.out.lt; unfold Hid; omega
      have Kr_16 : Hid (Bk W16 r 23 #[.bool a, .bool false, .bool c, .bool false, .bool false]) := by rw [← hW16]; exact Kr_15.out.alloc _
      have HNrt : Hid (r < t) := by have := Kr_15.out.lt; unfold Hid; omega
      have Ks_16 : Hid (Bk W16 s 23 #[.bool a, .bool true, .bool c, .bool false, .bool false]) := by rw [← hW16]; exact Ks_15.out.alloc _
      have HNst : Hid (s < t) := by have := Ks_15.out.lt; unfold Hid; omega
      have Kt_16 : Hid (Bk W16 t 23 #[.bool a, .bool false, .bool c, .bool false, .bool false]) := by rw [← hW16, ← ht]; exact Bk.new _ _ _
      have B_16 : Hid (Below w.heap.size w W16) := by rw [← hW16]; exact B_15.out.alloc B_15.out.size _
      have HLt : Hid (w.heap.size ≤ t) := by have := B_15.out.size; unfold Hid; omega
      have HW16 := Lib.hid hW16
      have HAt := Lib.hid ht
      clear hW16 ht
      clear Kp_15 Kq_15 Kr_15 Ks_15 B_15
      go_upto_region 14 with fail
      (try rw [HW16.out])
      (try rw [HAt.out])
      obtain ⟨W17, hW17⟩ : ∃ W, W16.alloc (.cells #[.string ⟨#[97, 64, 98]⟩, .string ⟨#[]⟩, .slice none 0 0, .int .i64 0, .bool false, .bool false] 26) = W := ⟨_, rfl⟩
      obtain ⟨u, hu⟩ : ∃ g, W16.heap.size = g := ⟨_, rfl⟩
      have Kp_17 : Hid (Bk W17 p 23 #[.bool a, .bool b, .bool c, .bool d, .bool f]) := by rw [← hW17]; exact Kp_16.out.alloc _
      have HNpu : Hid (p < u) := by have := Kp_16.out.lt; unfold Hid; omega
      have Kq_17 : Hid (Bk W17 q 23 #[.bool true, .bool b, .bool false, .bool d, .bool f]) := by rw [← hW17]; exact Kq_16.out.alloc _
      have HNqu : Hid (q < u) := by have := Kq_16.out.lt; unfold Hid; omega
      have Kr_17 : Hid (Bk W17 r 23 #[.bool a, .bool false, .bool c, .bool false, .bool false]) := by rw [← hW17]; exact Kr_16.out.alloc _
      have HNru : Hid (r < u) := by have := Kr_16.out.lt; unfold Hid; omega
      have Ks_17 : Hid (Bk W17 s 23 #[.bool a, .bool true, .bool c, .bool false, .bool false]) := by rw [← hW17]; exact Ks_16.out.alloc _
      have HNsu : Hid (s < u) := by have := Ks_16.out.lt; unfold Hid; omega
      have Kt_17 : Hid (Bk W17 t 23 #[.bool a, .bool false, .bool c, .bool false, .bool false]) := by rw [← hW17]; exact Kt_16.out.alloc _
      have HNtu : Hid (t < u) := by have := Kt_16.out.lt; unfold Hid; omega
      have Ku_17 : Hid (Bk W17 u 26 #[.string ⟨#[97, 64, 98]⟩, .string ⟨#[]⟩, .slice none 0 0, .int .i64 0, .bool false, .bool false]) := by rw [← hW17, ← hu]; exact Bk.new _ _ _
      have B_17 : Hid (Below w.heap.size w W17) := by rw [← hW17]; exact B_16.out.alloc B_16.out.size _
      have HLu : Hid (w.heap.size ≤ u) := by have := B_16.out.size; unfold Hid; omega
      have HW17 := Lib.hid hW17
      have HAu := Lib.hid hu
      clear hW17 hu
      clear Kp_16 Kq_16 Kr_16 Ks_16 Kt_16 B_16
      go_upto_region 15 with fail
      (try rw [HW17.out])
      (try rw [HAu.out])
      obtain ⟨S, hS⟩ : ∃ S, subM ⟨true, b, false, d, f⟩ = S := ⟨_, rfl⟩
      have HIN : Hid (∀ W, Calls Try.prog 17 #[.agg #[.string ⟨#[97, 64, 98]⟩, .string ⟨#[]⟩, .slice none 0 0, .int .i64 0, .bool false, .bool false], .agg #[.bool true, .bool b, .bool false, .bool d, .bool f]] W fun e w' => ∃ iA cap, e = .returned (.agg #[.string ⟨#[97, 64, 98]⟩, .string ⟨#[]⟩, .slice iA 0 cap, .int .i64 S, .bool false, .bool f]) ∧ Below W.heap.size W w') := fun W => by
        refine (into_any ⟨[97, 64, 98], [], [], 0, false, false⟩ (.slice none 0 0) ⟨true, b, false, d, f⟩ W (ReadT.nil _ _ _) (by decide)).mono ?_
        rintro e w' ⟨gv', he, ho, hb⟩
        obtain ⟨A, cap, hv⟩ := ho.slice
        subst hv
        exact ⟨A, cap, by rw [he, ← hS]; rfl, hb⟩
      have HOF : Hid (∀ W A cap, Calls Try.prog 14 #[.agg #[.string ⟨#[97, 64, 98]⟩, .string ⟨#[]⟩, .slice A 0 cap, .int .i64 S, .bool false, .bool f]] W fun e w' => e = .returned (.agg #[.bool true, .bool b, .bool false, .bool false, .bool f]) ∧ Below W.heap.size W w') := fun W A cap => by
        refine (of_any ⟨[97, 64, 98], [], [], S, false, f⟩ A 0 cap W).mono ?_
        rintro e w' ⟨he, hb⟩
        exact ⟨by rw [he, ← hS]; cases b <;> rfl, hb⟩
      clear hS
      have HQ0 : Hid (∀ W, Below W17.heap.size W17 W → W.cell? ⟨q, 0, none⟩ = some (.bool true)) := fun W h => (Kq_17.out.below h Kq_17.out.lt).cell 0
      have HQ1 : Hid (∀ W, Below W17.heap.size W17 W → W.cell? ⟨q, 1, none⟩ = some (.bool b)) := fun W h => (Kq_17.out.below h Kq_17.out.lt).cell 1
      have HQ2 : Hid (∀ W, Below W17.heap.size W17 W → W.cell? ⟨q, 2, none⟩ = some (.bool false)) := fun W h => (Kq_17.out.below h Kq_17.out.lt).cell 2
      have HQ3 : Hid (∀ W, Below W17.heap.size W17 W → W.cell? ⟨q, 3, none⟩ = some (.bool d)) := fun W h => (Kq_17.out.below h Kq_17.out.lt).cell 3
      have HQ4 : Hid (∀ W, Below W17.heap.size W17 W → W.cell? ⟨q, 4, none⟩ = some (.bool f)) := fun W h => (Kq_17.out.below h Kq_17.out.lt).cell 4
      have HR0 : Hid (∀ W, Below W17.heap.size W17 W → W.cell? ⟨r, 0, none⟩ = some (.bool a)) := fun W h => (Kr_17.out.below h Kr_17.out.lt).cell 0
      have HR1 : Hid (∀ W, Below W17.heap.size W17 W → W.cell? ⟨r, 1, none⟩ = some (.bool false)) := fun W h => (Kr_17.out.below h Kr_17.out.lt).cell 1
      have HR2 : Hid (∀ W, Below W17.heap.size W17 W → W.cell? ⟨r, 2, none⟩ = some (.bool c)) := fun W h => (Kr_17.out.below h Kr_17.out.lt).cell 2
      have HR3 : Hid (∀ W, Below W17.heap.size W17 W → W.cell? ⟨r, 3, none⟩ = some (.bool false)) := fun W h => (Kr_17.out.below h Kr_17.out.lt).cell 3
      have HR4 : Hid (∀ W, Below W17.heap.size W17 W → W.cell? ⟨r, 4, none⟩ = some (.bool false)) := fun W h => (Kr_17.out.below h Kr_17.out.lt).cell 4
      have HS0 : Hid (∀ W, Below W17.heap.size W17 W → W.cell? ⟨s, 0, none⟩ = some (.bool a)) := fun W h => (Ks_17.out.below h Ks_17.out.lt).cell 0
      have HS1 : Hid (∀ W, Below W17.heap.size W17 W → W.cell? ⟨s, 1, none⟩ = some (.bool true)) := fun W h => (Ks_17.out.below h Ks_17.out.lt).cell 1
      have HS2 : Hid (∀ W, Below W17.heap.size W17 W → W.cell? ⟨s, 2, none⟩ = some (.bool c)) := fun W h => (Ks_17.out.below h Ks_17.out.lt).cell 2
      have HS3 : Hid (∀ W, Below W17.heap.size W17 W → W.cell? ⟨s, 3, none⟩ = some (.bool false)) := fun W h => (Ks_17.out.below h Ks_17.out.lt).cell 3
      have HS4 : Hid (∀ W, Below W17.heap.size W17 W → W.cell? ⟨s, 4, none⟩ = some (.bool false)) := fun W h => (Ks_17.out.below h Ks_17.out.lt).cell 4
      have HT0 : Hid (∀ W, Below W17.heap.size W17 W → W.cell? ⟨t, 0, none⟩ = some (.bool a)) := fun W h => (Kt_17.out.below h Kt_17.out.lt).cell 0
      have HT1 : Hid (∀ W, Below W17.heap.size W17 W → W.cell? ⟨t, 1, none⟩ = some (.bool false)) := fun W h => (Kt_17.out.below h Kt_17.out.lt).cell 1
      have HT2 : Hid (∀ W, Below W17.heap.size W17 W → W.cell? ⟨t, 2, none⟩ = some (.bool c)) := fun W h => (Kt_17.out.below h Kt_17.out.lt).cell 2
      have HT3 : Hid (∀ W, Below W17.heap.size W17 W → W.cell? ⟨t, 3, none⟩ = some (.bool false)) := fun W h => (Kt_17.out.below h Kt_17.out.lt).cell 3
      have HT4 : Hid (∀ W, Below W17.heap.size W17 W → W.cell? ⟨t, 4, none⟩ = some (.bool false)) := fun W h => (Kt_17.out.below h Kt_17.out.lt).cell 4
      have HP0 : Hid (∀ W, Below W17.heap.size W17 W → W.cell? ⟨p, 0, none⟩ = some (.bool a)) := fun W h => (Kp_17.out.below h Kp_17.out.lt).cell 0
      have HP1 : Hid (∀ W, Below W17.heap.size W17 W → W.cell? ⟨p, 1, none⟩ = some (.bool b)) := fun W h => (Kp_17.out.below h Kp_17.out.lt).cell 1
      have HP2 : Hid (∀ W, Below W17.heap.size W17 W → W.cell? ⟨p, 2, none⟩ = some (.bool c)) := fun W h => (Kp_17.out.below h Kp_17.out.lt).cell 2
      have HP3 : Hid (∀ W, Below W17.heap.size W17 W → W.cell? ⟨p, 3, none⟩ = some (.bool d)) := fun W h => (Kp_17.out.below h Kp_17.out.lt).cell 3
      have HP4 : Hid (∀ W, Below W17.heap.size W17 W → W.cell? ⟨p, 4, none⟩ = some (.bool f)) := fun W h => (Kp_17.out.below h Kp_17.out.lt).cell 4
      have HU0 : Hid (∀ W, Below W17.heap.size W17 W → W.cell? ⟨u, 0, none⟩ = some (.string ⟨#[97, 64, 98]⟩)) := fun W h => (Ku_17.out.below h Ku_17.out.lt).cell 0
      have HU1 : Hid (∀ W, Below W17.heap.size W17 W → W.cell? ⟨u, 1, none⟩ = some (.string ⟨#[]⟩)) := fun W h => (Ku_17.out.below h Ku_17.out.lt).cell 1
      have HU2 : Hid (∀ W, Below W17.heap.size W17 W → W.cell? ⟨u, 2, none⟩ = some (.slice none 0 0)) := fun W h => (Ku_17.out.below h Ku_17.out.lt).cell 2
      have HU3 : Hid (∀ W, Below W17.heap.size W17 W → W.cell? ⟨u, 3, none⟩ = some (.int .i64 0)) := fun W h => (Ku_17.out.below h Ku_17.out.lt).cell 3
      have HU4 : Hid (∀ W, Below W17.heap.size W17 W → W.cell? ⟨u, 4, none⟩ = some (.bool false)) := fun W h => (Ku_17.out.below h Ku_17.out.lt).cell 4
      have HU5 : Hid (∀ W, Below W17.heap.size W17 W → W.cell? ⟨u, 5, none⟩ = some (.bool false)) := fun W h => (Ku_17.out.below h Ku_17.out.lt).cell 5
      have q1 := eqlM_at (m := ⟨true, b, false, false, f⟩) (n := ⟨true, b, false, false, f⟩) (r := true) (by simp)
      have q2 := eqgM_at .eql ⟨true, b, false, false, f⟩ ⟨true, b, false, false, f⟩
      have bN : Below W17.heap.size W17 W17.drew := (Below.refl _ _).drew
      refine wp_region_held_drew (S := fun w' => Below W17.heap.size W17 w' ∧ w'.cell? ⟨q, 0, none⟩ = some (.bool true) ∧ w'.cell? ⟨q, 1, none⟩ = some (.bool b) ∧ w'.cell? ⟨q, 2, none⟩ = some (.bool false) ∧ w'.cell? ⟨q, 3, none⟩ = some (.bool d) ∧ w'.cell? ⟨q, 4, none⟩ = some (.bool f) ∧ w'.cell? ⟨r, 0, none⟩ = some (.bool a) ∧ w'.cell? ⟨r, 1, none⟩ = some (.bool false) ∧ w'.cell? ⟨r, 2, none⟩ = some (.bool c) ∧ w'.cell? ⟨r, 3, none⟩ = some (.bool false) ∧ w'.cell? ⟨r, 4, none⟩ = some (.bool false) ∧ w'.cell? ⟨s, 0, none⟩ = some (.bool a) ∧ w'.cell? ⟨s, 1, none⟩ = some (.bool true) ∧ w'.cell? ⟨s, 2, none⟩ = some (.bool c) ∧ w'.cell? ⟨s, 3, none⟩ = some (.bool false) ∧ w'.cell? ⟨s, 4, none⟩ = some (.bool false) ∧ w'.cell? ⟨t, 0, none⟩ = some (.bool a) ∧ w'.cell? ⟨t, 1, none⟩ = some (.bool false) ∧ w'.cell? ⟨t, 2, none⟩ = some (.bool c) ∧ w'.cell? ⟨t, 3, none⟩ = some (.bool false) ∧ w'.cell? ⟨t, 4, none⟩ = some (.bool false) ∧ w'.cell? ⟨p, 0, none⟩ = some (.bool a) ∧ w'.cell? ⟨p, 1, none⟩ = some (.bool b) ∧ w'.cell? ⟨p, 2, none⟩ = some (.bool c) ∧ w'.cell? ⟨p, 3, none⟩ = some (.bool d) ∧ w'.cell? ⟨p, 4, none⟩ = some (.bool f) ∧ w'.cell? ⟨u, 0, none⟩ = some (.string ⟨#[97, 64, 98]⟩) ∧ w'.cell? ⟨u, 1, none⟩ = some (.string ⟨#[]⟩) ∧ w'.cell? ⟨u, 2, none⟩ = some (.slice none 0 0) ∧ w'.cell? ⟨u, 3, none⟩ = some (.int .i64 0) ∧ w'.cell? ⟨u, 4, none⟩ = some (.bool false) ∧ w'.cell? ⟨u, 5, none⟩ = some (.bool false)) (by kernel_rfl) ?_ (fun hHeld => ?_)
      · exact ⟨bN, HQ0.out _ bN, HQ1.out _ bN, HQ2.out _ bN, HQ3.out _ bN, HQ4.out _ bN, HR0.out _ bN, HR1.out _ bN, HR2.out _ bN, HR3.out _ bN, HR4.out _ bN, HS0.out _ bN, HS1.out _ bN, HS2.out _ bN, HS3.out _ bN, HS4.out _ bN, HT0.out _ bN, HT1.out _ bN, HT2.out _ bN, HT3.out _ bN, HT4.out _ bN, HP0.out _ bN, HP1.out _ bN, HP2.out _ bN, HP3.out _ bN, HP4.out _ bN, HU0.out _ bN, HU1.out _ bN, HU2.out _ bN, HU3.out _ bN, HU4.out _ bN, HU5.out _ bN⟩
      refine wpAnyH_ready (rs := [0]) (by kernel_rfl) (by simp) ?_
      refine AllReadyH.cons (i := 0) rfl (fun K hK => ?_) AllReadyH.nil
      go_simp
      refine (HAW.out _).mono ?_
      rintro e wv0 ⟨rfl, bC⟩
      have bN := bN.trans (bC.mono bN.size)
      clear bC
      go_wp2_with fail
      refine hK.out _ _ ?_ (fun hHeld => ?_)
      · exact ⟨bN, HQ0.out _ bN, HQ1.out _ bN, HQ2.out _ bN, HQ3.out _ bN, HQ4.out _ bN, HR0.out _ bN, HR1.out _ bN, HR2.out _ bN, HR3.out _ bN, HR4.out _ bN, HS0.out _ bN, HS1.out _ bN, HS2.out _ bN, HS3.out _ bN, HS4.out _ bN, HT0.out _ bN, HT1.out _ bN, HT2.out _ bN, HT3.out _ bN, HT4.out _ bN, HP0.out _ bN, HP1.out _ bN, HP2.out _ bN, HP3.out _ bN, HP4.out _ bN, HU0.out _ bN, HU1.out _ bN, HU2.out _ bN, HU3.out _ bN, HU4.out _ bN, HU5.out _ bN⟩
      clear hK K
      try simp only [Act.put, List.setIfInBounds_toArray, List.set_cons_zero, List.set_cons_succ]
      refine take_w 1 (some 66) ?v2 rfl rfl (by kernel_rfl) (by kernel_rfl) (by kernel_rfl) (by rfl) ?y2 (fun _ _ _ h => h) (by assumption) ?n2
      case y2 =>
        intro w hSw
        try dsimp only at hSw
        go_simp
        try with_reducible rfl
      try simp only [Act.put, List.setIfInBounds_toArray, List.set_cons_zero, List.set_cons_succ]
      refine take_w 2 (some 67) ?v3 rfl rfl (by kernel_rfl) (by kernel_rfl) (by kernel_rfl) (by rfl) ?y3 (fun _ _ _ h => h) (by assumption) ?n3
      case y3 =>
        intro w hSw
        try dsimp only at hSw
        go_simp
        try with_reducible rfl
      try simp only [Act.put, List.setIfInBounds_toArray, List.set_cons_zero, List.set_cons_succ]
      refine take_w 3 (some 68) ?v4 rfl rfl (by kernel_rfl) (by kernel_rfl) (by kernel_rfl) (by rfl) ?y4 (fun _ _ _ h => h) (by assumption) ?n4
      case y4 =>
        intro w hSw
        try dsimp only at hSw
        go_simp
        try with_reducible rfl
      try simp only [Act.put, List.setIfInBounds_toArray, List.set_cons_zero, List.set_cons_succ]
      refine take_w 4 (some 69) ?v5 rfl rfl (by kernel_rfl) (by kernel_rfl) (by kernel_rfl) (by rfl) ?y5 (fun _ _ _ h => h) (by assumption) ?n5
      case y5 =>
        intro w hSw
        try dsimp only at hSw
        go_simp
        try with_reducible rfl
      try simp only [Act.put, List.setIfInBounds_toArray, List.set_cons_zero, List.set_cons_succ]
      refine take_w 5 (some 70) ?v6 rfl rfl (by kernel_rfl) (by kernel_rfl) (by kernel_rfl) (by rfl) ?y6 (fun _ _ _ h => h) (by assumption) ?n6
      case y6 =>
        intro w hSw
        try dsimp only at hSw
        go_simp
        try with_reducible rfl
      try simp only [Act.put, List.setIfInBounds_toArray, List.set_cons_zero, List.set_cons_succ]
      refine take_w 6 (some 71) ?v7 rfl rfl (by kernel_rfl) (by kernel_rfl) (by kernel_rfl) (by rfl) ?y7 (fun _ _ _ h => h) (by assumption) ?n7
      case y7 =>
        intro w hSw
        try dsimp only at hSw
        go_simp
        try with_reducible rfl
      try simp only [Act.put, List.setIfInBounds_toArray, List.set_cons_zero, List.set_cons_succ]
      refine take_w 7 (some 72) ?v8 rfl rfl (by kernel_rfl) (by kernel_rfl) (by kernel_rfl) (by rfl) ?y8 (fun _ _ _ h => h) (by assumption) ?n8
      case y8 =>
        intro w hSw
        try dsimp only at hSw
        go_simp
        try with_reducible rfl
      try simp only [Act.put, List.setIfInBounds_toArray, List.set_cons_zero, List.set_cons_succ]
      refine take_w 8 (some 73) ?v9 rfl rfl (by kernel_rfl) (by kernel_rfl) (by kernel_rfl) (by rfl) ?y9 (fun _ _ _ h => h) (by assumption) ?n9
      case y9 =>
        intro w hSw
        try dsimp only at hSw
        go_simp
        try with_reducible rfl
      try simp only [Act.put, List.setIfInBounds_toArray, List.set_cons_zero, List.set_cons_succ]
      refine take_w 9 (some 74) ?v10 rfl rfl (by kernel_rfl) (by kernel_rfl) (by kernel_rfl) (by rfl) ?y10 (fun _ _ _ h => h) (by assumption) ?n10
      case y10 =>
        intro w hSw
        try dsimp only at hSw
        go_simp
        try with_reducible rfl
      try simp only [Act.put, List.setIfInBounds_toArray, List.set_cons_zero, List.set_cons_succ]
      refine take_w 10 (some 75) ?v11 rfl rfl (by kernel_rfl) (by kernel_rfl) (by kernel_rfl) (by rfl) ?y11 (fun _ _ _ h => h) (by assumption) ?n11
      case y11 =>
        intro w hSw
        try dsimp only at hSw
        go_simp
        try with_reducible rfl
      try simp only [Act.put, List.setIfInBounds_toArray, List.set_cons_zero, List.set_cons_succ]
      refine take_w 11 (some 76) ?v12 rfl rfl (by kernel_rfl) (by kernel_rfl) (by kernel_rfl) (by rfl) ?y12 (fun _ _ _ h => h) (by assumption) ?n12
      case y12 =>
        intro w hSw
        try dsimp only at hSw
        go_simp
        try with_reducible rfl
      try simp only [Act.put, List.setIfInBounds_toArray, List.set_cons_zero, List.set_cons_succ]
      refine take_w 12 (some 77) ?v13 rfl rfl (by kernel_rfl) (by kernel_rfl) (by kernel_rfl) (by rfl) ?y13 (fun _ _ _ h => h) (by assumption) ?n13
      case y13 =>
        intro w hSw
        try dsimp only at hSw
        go_simp
        try with_reducible rfl
      try simp only [Act.put, List.setIfInBounds_toArray, List.set_cons_zero, List.set_cons_succ]
      refine take_w 13 (some 78) ?v14 rfl rfl (by kernel_rfl) (by kernel_rfl) (by kernel_rfl) (by rfl) ?y14 (fun _ _ _ h => h) (by assumption) ?n14
      case y14 =>
        intro w hSw
        try dsimp only at hSw
        go_simp
        try with_reducible rfl
      try simp only [Act.put, List.setIfInBounds_toArray, List.set_cons_zero, List.set_cons_succ]
      refine take_w 14 (some 79) ?v15 rfl rfl (by kernel_rfl) (by kernel_rfl) (by kernel_rfl) (by rfl) ?y15 (fun _ _ _ h => h) (by assumption) ?n15
      case y15 =>
        intro w hSw
        try dsimp only at hSw
        go_simp
        try with_reducible rfl
      try simp only [Act.put, List.setIfInBounds_toArray, List.set_cons_zero, List.set_cons_succ]
      refine take_w 15 (some 80) ?v16 rfl rfl (by kernel_rfl) (by kernel_rfl) (by kernel_rfl) (by rfl) ?y16 (fun _ _ _ h => h) (by assumption) ?n16
      case y16 =>
        intro w hSw
        try dsimp only at hSw
        go_simp
        try with_reducible rfl
      try simp only [Act.put, List.setIfInBounds_toArray, List.set_cons_zero, List.set_cons_succ]
      refine take_w 16 (some 81) ?v17 rfl rfl (by kernel_rfl) (by kernel_rfl) (by kernel_rfl) (by rfl) ?y17 (fun _ _ _ h => h) (by assumption) ?n17
      case y17 =>
        intro w hSw
        try dsimp only at hSw
        go_simp
        try with_reducible rfl
      try simp only [Act.put, List.setIfInBounds_toArray, List.set_cons_zero, List.set_cons_succ]
      refine take_w 17 (some 82) ?v18 rfl rfl (by kernel_rfl) (by kernel_rfl) (by kernel_rfl) (by rfl) ?y18 (fun _ _ _ h => h) (by assumption) ?n18
      case y18 =>
        intro w hSw
        try dsimp only at hSw
        go_simp
        try with_reducible rfl
      try simp only [Act.put, List.setIfInBounds_toArray, List.set_cons_zero, List.set_cons_succ]
      refine take_w 18 (some 83) ?v19 rfl rfl (by kernel_rfl) (by kernel_rfl) (by kernel_rfl) (by rfl) ?y19 (fun _ _ _ h => h) (by assumption) ?n19
      case y19 =>
        intro w hSw
        try dsimp only at hSw
        go_simp
        try with_reducible rfl
      try simp only [Act.put, List.setIfInBounds_toArray, List.set_cons_zero, List.set_cons_succ]
      refine take_w 19 (some 84) ?v20 rfl rfl (by kernel_rfl) (by kernel_rfl) (by kernel_rfl) (by rfl) ?y20 (fun _ _ _ h => h) (by assumption) ?n20
      case y20 =>
        intro w hSw
        try dsimp only at hSw
        go_simp
        try with_reducible rfl
      try simp only [Act.put, List.setIfInBounds_toArray, List.set_cons_zero, List.set_cons_succ]
      refine take_w 20 (some 85) ?v21 rfl rfl (by kernel_rfl) (by kernel_rfl) (by kernel_rfl) (by rfl) ?y21 (fun _ _ _ h => h) (by assumption) ?n21
      case y21 =>
        intro w hSw
        try dsimp only at hSw
        go_simp
        try with_reducible rfl
      try simp only [Act.put, List.setIfInBounds_toArray, List.set_cons_zero, List.set_cons_succ]
      refine take_w 21 (some 86) ?v22 rfl rfl (by kernel_rfl) (by kernel_rfl) (by kernel_rfl) (by rfl) ?y22 (fun _ _ _ h => h) (by assumption) ?n22
      case y22 =>
        intro w hSw
        try dsimp only at hSw
        go_simp
        try with_reducible rfl
      try simp only [Act.put, List.setIfInBounds_toArray, List.set_cons_zero, List.set_cons_succ]
      refine take_w 22 (some 87) ?v23 rfl rfl (by kernel_rfl) (by kernel_rfl) (by kernel_rfl) (by rfl) ?y23 (fun _ _ _ h => h) (by assumption) ?n23
      case y23 =>
        intro w hSw
        try dsimp only at hSw
        go_simp
        try with_reducible rfl
      try simp only [Act.put, List.setIfInBounds_toArray, List.set_cons_zero, List.set_cons_succ]
      refine take_w 23 (some 88) ?v24 rfl rfl (by kernel_rfl) (by kernel_rfl) (by kernel_rfl) (by rfl) ?y24 (fun _ _ _ h => h) (by assumption) ?n24
      case y24 =>
        intro w hSw
        try dsimp only at hSw
        go_simp
        try with_reducible rfl
      try simp only [Act.put, List.setIfInBounds_toArray, List.set_cons_zero, List.set_cons_succ]
      refine take_w 24 (some 89) ?v25 rfl rfl (by kernel_rfl) (by kernel_rfl) (by kernel_rfl) (by rfl) ?y25 (fun _ _ _ h => h) (by assumption) ?n25
      case y25 =>
        intro w hSw
        try dsimp only at hSw
        go_simp
        try with_reducible rfl
      try simp only [Act.put, List.setIfInBounds_toArray, List.set_cons_zero, List.set_cons_succ]
      refine take_w 25 (some 90) ?v26 rfl rfl (by kernel_rfl) (by kernel_rfl) (by kernel_rfl) (by rfl) ?y26 (fun _ _ _ h => h) (by assumption) ?n26
      case y26 =>
        intro w hSw
        try dsimp only at hSw
        go_simp
        try with_reducible rfl
      try simp only [Act.put, List.setIfInBounds_toArray, List.set_cons_zero, List.set_cons_succ]
      refine take_w 26 (some 91) ?v27 rfl rfl (by kernel_rfl) (by kernel_rfl) (by kernel_rfl) (by rfl) ?y27 (fun _ _ _ h => h) (by assumption) ?n27
      case y27 =>
        intro w hSw
        try dsimp only at hSw
        go_simp
        try with_reducible rfl
      try simp only [Act.put, List.setIfInBounds_toArray, List.set_cons_zero, List.set_cons_succ]
      refine take_w 27 (some 92) ?v28 rfl rfl (by kernel_rfl) (by kernel_rfl) (by kernel_rfl) (by rfl) ?y28 (fun _ _ _ h => h) (by assumption) ?n28
      case y28 =>
        intro w hSw
        try dsimp only at hSw
        go_simp
        try with_reducible rfl
      try simp only [Act.put, List.setIfInBounds_toArray, List.set_cons_zero, List.set_cons_succ]
      refine take_w 28 (some 93) ?v29 rfl rfl (by kernel_rfl) (by kernel_rfl) (by kernel_rfl) (by rfl) ?y29 (fun _ _ _ h => h) (by assumption) ?n29
      case y29 =>
        intro w hSw
        try dsimp only at hSw
        go_simp
        try with_reducible rfl
      try simp only [Act.put, List.setIfInBounds_toArray, List.set_cons_zero, List.set_cons_succ]
      refine take_w 29 (some 94) ?v30 rfl rfl (by kernel_rfl) (by kernel_rfl) (by kernel_rfl) (by rfl) ?y30 (fun _ _ _ h => h) (by assumption) ?n30
      case y30 =>
        intro w hSw
        try dsimp only at hSw
        go_simp
        try with_reducible rfl
      try simp only [Act.put, List.setIfInBounds_toArray, List.set_cons_zero, List.set_cons_succ]
      refine take_w 30 (some 95) ?v31 rfl rfl (by kernel_rfl) (by kernel_rfl) (by kernel_rfl) (by rfl) ?y31 (fun _ _ _ h => h) (by assumption) ?n31
      case y31 =>
        intro w hSw
        try dsimp only at hSw
        go_simp
        try with_reducible rfl
      try simp only [Act.put, List.setIfInBounds_toArray, List.set_cons_zero, List.set_cons_succ]
      refine take_w 31 (some 96) ?v32 rfl rfl (by kernel_rfl) (by kernel_rfl) (by kernel_rfl) (by rfl) ?y32 (fun _ _ _ h => h) (by assumption) ?n32
      case y32 =>
        intro w hSw
        try dsimp only at hSw
        go_simp
        try with_reducible rfl
      try simp only [Act.put, List.setIfInBounds_toArray, List.set_cons_zero, List.set_cons_succ]
      refine take_w 32 (some 97) ?v33 rfl rfl (by kernel_rfl) (by kernel_rfl) (by kernel_rfl) (by rfl) ?y33 (fun _ _ _ h => h) (by assumption) ?n33
      case y33 =>
        intro w hSw
        try dsimp only at hSw
        go_simp
        try with_reducible rfl
      try simp only [Act.put, List.setIfInBounds_toArray, List.set_cons_zero, List.set_cons_succ]
      refine take_w 33 (some 98) ?v34 rfl rfl (by kernel_rfl) (by kernel_rfl) (by kernel_rfl) (by rfl) ?y34 (fun _ _ _ h => h) (by assumption) ?n34
      case y34 =>
        intro w hSw
        try dsimp only at hSw
        go_simp
        try with_reducible rfl
      try simp only [Act.put, List.setIfInBounds_toArray, List.set_cons_zero, List.set_cons_succ]
      refine take_w 34 (some 99) ?v35 rfl rfl (by kernel_rfl) (by kernel_rfl) (by kernel_rfl) (by rfl) ?y35 (fun _ _ _ h => h) (by assumption) ?n35
      case y35 =>
        intro w hSw
        try dsimp only at hSw
        go_simp
        try with_reducible rfl
      try simp only [Act.put, List.setIfInBounds_toArray, List.set_cons_zero, List.set_cons_succ]
      refine take_w 35 (some 100) ?v36 rfl rfl (by kernel_rfl) (by kernel_rfl) (by kernel_rfl) (by rfl) ?y36 (fun _ _ _ h => h) (by assumption) ?n36
      case y36 =>
        intro w hSw
        try dsimp only at hSw
        go_simp
        try with_reducible rfl
      try simp only [Act.put, List.setIfInBounds_toArray, List.set_cons_zero, List.set_cons_succ]
      refine take_w 36 (some 101) ?v37 rfl rfl (by kernel_rfl) (by kernel_rfl) (by kernel_rfl) (by rfl) ?y37 (fun _ _ _ h => h) (by assumption) ?n37
      case y37 =>
        intro w hSw
        try dsimp only at hSw
        go_simp
        try with_reducible rfl
      try simp only [Act.put, List.setIfInBounds_toArray, List.set_cons_zero, List.set_cons_succ]
      refine take_w 37 (some 102) ?v38 rfl rfl (by kernel_rfl) (by kernel_rfl) (by kernel_rfl) (by rfl) ?y38 (fun _ _ _ h => h) (by assumption) ?n38
      case y38 =>
        intro w hSw
        try dsimp only at hSw
        go_simp
        try with_reducible rfl
      try simp only [Act.put, List.setIfInBounds_toArray, List.set_cons_zero, List.set_cons_succ]
      refine take_w 38 (some 103) ?v39 rfl rfl (by kernel_rfl) (by kernel_rfl) (by kernel_rfl) (by rfl) ?y39 (fun _ _ _ h => h) (by assumption) ?n39
      case y39 =>
        intro w hSw
        try dsimp only at hSw
        go_simp
        try with_reducible rfl
      try simp only [Act.put, List.setIfInBounds_toArray, List.set_cons_zero, List.set_cons_succ]
      refine take_w 39 (some 104) ?v40 rfl rfl (by kernel_rfl) (by kernel_rfl) (by kernel_rfl) (by rfl) ?y40 (fun _ _ _ h => h) (by assumption) ?n40
      case y40 =>
        intro w hSw
        try dsimp only at hSw
        go_simp
        try with_reducible rfl
      try simp only [Act.put, List.setIfInBounds_toArray, List.set_cons_zero, List.set_cons_succ]
      refine take_w 40 (some 105) ?v41 rfl rfl (by kernel_rfl) (by kernel_rfl) (by kernel_rfl) (by rfl) ?y41 (fun _ _ _ h => h) (by assumption) ?n41
      case y41 =>
        intro w hSw
        try dsimp only at hSw
        go_simp
        try with_reducible rfl
      try simp only [Act.put, List.setIfInBounds_toArray, List.set_cons_zero, List.set_cons_succ]
      refine take_w 41 (some 106) ?v42 rfl rfl (by kernel_rfl) (by kernel_rfl) (by kernel_rfl) (by rfl) ?y42 (fun _ _ _ h => h) (by assumption) ?n42
      case y42 =>
        intro w hSw
        try dsimp only at hSw
        go_simp
        try with_reducible rfl
      try simp only [Act.put, List.setIfInBounds_toArray, List.set_cons_zero, List.set_cons_succ]
      refine take_w 42 (some 107) ?v43 rfl rfl (by kernel_rfl) (by kernel_rfl) (by kernel_rfl) (by rfl) ?y43 (fun _ _ _ h => h) (by assumption) ?n43
      case y43 =>
        intro w hSw
        try dsimp only at hSw
        go_simp
        try with_reducible rfl
      try simp only [Act.put, List.setIfInBounds_toArray, List.set_cons_zero, List.set_cons_succ]
      refine take_w 43 (some 108) ?v44 rfl rfl (by kernel_rfl) (by kernel_rfl) (by kernel_rfl) (by rfl) ?y44 (fun _ _ _ h => h) (by assumption) ?n44
      case y44 =>
        intro w hSw
        try dsimp only at hSw
        go_simp
        try with_reducible rfl
      try simp only [Act.put, List.setIfInBounds_toArray, List.set_cons_zero, List.set_cons_succ]
      refine take_w 44 (some 109) ?v45 rfl rfl (by kernel_rfl) (by kernel_rfl) (by kernel_rfl) (by rfl) ?y45 (fun _ _ _ h => h) (by assumption) ?n45
      case y45 =>
        intro w hSw
        try dsimp only at hSw
        go_simp
        try with_reducible rfl
      try simp only [Act.put, List.setIfInBounds_toArray, List.set_cons_zero, List.set_cons_succ]
      refine take_w 45 (some 110) ?v46 rfl rfl (by kernel_rfl) (by kernel_rfl) (by kernel_rfl) (by rfl) ?y46 (fun _ _ _ h => h) (by assumption) ?n46
      case y46 =>
        intro w hSw
        try dsimp only at hSw
        go_simp
        try with_reducible rfl
      try simp only [Act.put, List.setIfInBounds_toArray, List.set_cons_zero, List.set_cons_succ]
      refine take_w 46 (some 111) ?v47 rfl rfl (by kernel_rfl) (by kernel_rfl) (by kernel_rfl) (by rfl) ?y47 (fun _ _ _ h => h) (by assumption) ?n47
      case y47 =>
        intro w hSw
        try dsimp only at hSw
        go_simp
        try with_reducible rfl
      try simp only [Act.put, List.setIfInBounds_toArray, List.set_cons_zero, List.set_cons_succ]
      refine take_w 49 (some 114) ?v48 rfl rfl (by kernel_rfl) (by kernel_rfl) (by kernel_rfl) (by rfl) ?y48 (fun _ _ _ h => h) (by assumption) ?n48
      case y48 =>
        intro w hSw
        try dsimp only at hSw
        go_simp
        try with_reducible rfl
      try simp only [Act.put, List.setIfInBounds_toArray, List.set_cons_zero, List.set_cons_succ]
      refine take_w 50 (some 115) ?v49 rfl rfl (by kernel_rfl) (by kernel_rfl) (by kernel_rfl) (by rfl) ?y49 (fun _ _ _ h => h) (by assumption) ?n49
      case y49 =>
        intro w hSw
        try dsimp only at hSw
        go_simp
        try with_reducible rfl
      try simp only [Act.put, List.setIfInBounds_toArray, List.set_cons_zero, List.set_cons_succ]
      refine take_w 51 (some 116) ?v50 rfl rfl (by kernel_rfl) (by kernel_rfl) (by kernel_rfl) (by rfl) ?y50 (fun _ _ _ h => h) (by assumption) ?n50
      case y50 =>
        intro w hSw
        try dsimp only at hSw
        go_simp
        try with_reducible rfl
      try simp only [Act.put, List.setIfInBounds_toArray, List.set_cons_zero, List.set_cons_succ]
      refine take_w 52 (some 117) ?v51 rfl rfl (by kernel_rfl) (by kernel_rfl) (by kernel_rfl) (by rfl) ?y51 (fun _ _ _ h => h) (by assumption) ?n51
      case y51 =>
        intro w hSw
        try dsimp only at hSw
        go_simp
        try with_reducible rfl
      try simp only [Act.put, List.setIfInBounds_toArray, List.set_cons_zero, List.set_cons_succ]
      refine take_w 53 (some 118) ?v52 rfl rfl (by kernel_rfl) (by kernel_rfl) (by kernel_rfl) (by rfl) ?y52 (fun _ _ _ h => h) (by assumption) ?n52
      case y52 =>
        intro w hSw
        try dsimp only at hSw
        go_simp
        try with_reducible rfl
      try simp only [Act.put, List.setIfInBounds_toArray, List.set_cons_zero, List.set_cons_succ]
      refine wpAnyH_ready (rs := [47]) (by kernel_rfl) (by simp) ?_
      refine AllReadyH.cons (i := 47) rfl (fun K hK => ?_) AllReadyH.nil
      go_simp
      refine (HIN.out _).mono ?_
      rintro e wv1 ⟨iA, icap, rfl, bC⟩
      have bN := bN.trans (bC.mono bN.size)
      clear bC
      go_wp2_with fail
      refine hK.out _ _ ?_ (fun hHeld => ?_)
      · exact ⟨bN, HQ0.out _ bN, HQ1.out _ bN, HQ2.out _ bN, HQ3.out _ bN, HQ4.out _ bN, HR0.out _ bN, HR1.out _ bN, HR2.out _ bN, HR3.out _ bN, HR4.out _ bN, HS0.out _ bN, HS1.out _ bN, HS2.out _ bN, HS3.out _ bN, HS4.out _ bN, HT0.out _ bN, HT1.out _ bN, HT2.out _ bN, HT3.out _ bN, HT4.out _ bN, HP0.out _ bN, HP1.out _ bN, HP2.out _ bN, HP3.out _ bN, HP4.out _ bN, HU0.out _ bN, HU1.out _ bN, HU2.out _ bN, HU3.out _ bN, HU4.out _ bN, HU5.out _ bN⟩
      clear hK K
      try simp only [Act.put, List.setIfInBounds_toArray, List.set_cons_zero, List.set_cons_succ]
      refine wpAnyH_ready (rs := [48]) (by kernel_rfl) (by simp) ?_
      refine AllReadyH.cons (i := 48) rfl (fun K hK => ?_) AllReadyH.nil
      go_simp
      refine (HOF.out _ _ _).mono ?_
      rintro e wv2 ⟨rfl, bC⟩
      have bN := bN.trans (bC.mono bN.size)
      clear bC
      go_wp2_with fail
      refine hK.out _ _ ?_ (fun hHeld => ?_)
      · exact ⟨bN, HQ0.out _ bN, HQ1.out _ bN, HQ2.out _ bN, HQ3.out _ bN, HQ4.out _ bN, HR0.out _ bN, HR1.out _ bN, HR2.out _ bN, HR3.out _ bN, HR4.out _ bN, HS0.out _ bN, HS1.out _ bN, HS2.out _ bN, HS3.out _ bN, HS4.out _ bN, HT0.out _ bN, HT1.out _ bN, HT2.out _ bN, HT3.out _ bN, HT4.out _ bN, HP0.out _ bN, HP1.out _ bN, HP2.out _ bN, HP3.out _ bN, HP4.out _ bN, HU0.out _ bN, HU1.out _ bN, HU2.out _ bN, HU3.out _ bN, HU4.out _ bN, HU5.out _ bN⟩
      clear hK K
      try simp only [Act.put, List.setIfInBounds_toArray, List.set_cons_zero, List.set_cons_succ]
      refine take_w 54 (some 119) ?v55 rfl rfl (by kernel_rfl) (by kernel_rfl) (by kernel_rfl) (by rfl) ?y55 (fun _ _ _ h => h) (by assumption) ?n55
      case y55 =>
        intro w hSw
        try dsimp only at hSw
        go_simp
        try with_reducible rfl
      try simp only [Act.put, List.setIfInBounds_toArray, List.set_cons_zero, List.set_cons_succ]
      refine take_w 55 (some 120) ?v56 rfl rfl (by kernel_rfl) (by kernel_rfl) (by kernel_rfl) (by rfl) ?y56 (fun _ _ _ h => h) (by assumption) ?n56
      case y56 =>
        intro w hSw
        try dsimp only at hSw
        go_simp
        try with_reducible rfl
      try simp only [Act.put, List.setIfInBounds_toArray, List.set_cons_zero, List.set_cons_succ]
      refine take_w 56 (some 4) ?v57 rfl rfl (by kernel_rfl) (by kernel_rfl) (by kernel_rfl) (by rfl) ?y57 (fun _ _ _ h => h) (by assumption) ?n57
      case y57 =>
        intro w hSw
        try dsimp only at hSw
        go_simp
        try with_reducible rfl
      try simp only [Act.put, List.setIfInBounds_toArray, List.set_cons_zero, List.set_cons_succ]
      refine wpAnyH_done (by kernel_rfl) ?_ _
      go_wp2_with fail
      go_ret
      exact ⟨rfl, B_17.out.trans (bN.mono B_17.out.size)⟩
    | true =>
      have cs0 : W10.cell? ⟨s, 0, none⟩ = some (.bool a) := Ks_10.out.cell 0
      have cs1 : W10.cell? ⟨s, 1, none⟩ = some (.bool false) := Ks_10.out.cell 1
      have cs2 : W10.cell? ⟨s, 2, none⟩ = some (.bool c) := Ks_10.out.cell 2
      have cs3 : W10.cell? ⟨s, 3, none⟩ = some (.bool false) := Ks_10.out.cell 3
      have cs4 : W10.cell? ⟨s, 4, none⟩ = some (.bool false) := Ks_10.out.cell 4
      obtain ⟨r10, hr10⟩ : ∃ r, (!decide ((⟨a, false, c, false, true⟩ : Mod) = ⟨a, false, c, false, false⟩)) = r := ⟨_, rfl⟩
      have HS10 := Lib.hid (step_at ⟨a, false, c, false, false⟩ ⟨a, false, c, false, true⟩ (3) r10 (rfl) hr10 W10)
      clear hr10
      go_wp2_with fail
      refine HS10.out.mono ?_
      rintro e v10 ⟨rfl, b10⟩
      clear cs0 cs1 cs2 cs3 cs4
      have Kp_11 : Hid (Bk v10 p 23 #[.bool a, .bool b, .bool c, .bool d, .bool f]) := Kp_10.out.below b10 Kp_10.out.lt
      have Kq_11 : Hid (Bk v10 q 23 #[.bool true, .bool b, .bool false, .bool d, .bool f]) := Kq_10.out.below b10 Kq_10.out.lt
      have Kr_11 : Hid (Bk v10 r 23 #[.bool a, .bool false, .bool c, .bool false, .bool false]) := Kr_10.out.below b10 Kr_10.out.lt
      have Ks_11 : Hid (Bk v10 s 23 #[.bool a, .bool false, .bool c, .bool false, .bool false]) := Ks_10.out.below b10 Ks_10.out.lt
      have B_11 : Hid (Below w.heap.size w v10) := B_10.out.trans (b10.mono B_10.out.size)
      clear Kp_10 Kq_10 Kr_10 Ks_10 B_10
      clear b10
      have cs0 : v10.cell? ⟨s, 0, none⟩ = some (.bool a) := Ks_11.out.cell 0
      have cgs0 : v10.frozen? ⟨s, 0, none⟩ = false := Ks_11.out.free 0
      have cs1 : v10.cell? ⟨s, 1, none⟩ = some (.bool false) := Ks_11.out.cell 1
      have cgs1 : v10.frozen? ⟨s, 1, none⟩ = false := Ks_11.out.free 1
      have cs2 : v10.cell? ⟨s, 2, none⟩ = some (.bool c) := Ks_11.out.cell 2
      have cgs2 : v10.frozen? ⟨s, 2, none⟩ = false := Ks_11.out.free 2
      have cs3 : v10.cell? ⟨s, 3, none⟩ = some (.bool false) := Ks_11.out.cell 3
      have cgs3 : v10.frozen? ⟨s, 3, none⟩ = false := Ks_11.out.free 3
      have cs4 : v10.cell? ⟨s, 4, none⟩ = some (.bool false) := Ks_11.out.cell 4
      have cgs4 : v10.frozen? ⟨s, 4, none⟩ = false := Ks_11.out.free 4
      obtain ⟨W12, hW12⟩ : ∃ z, laid5 v10 s (.bool a) (.bool false) (.bool c) (.bool false) (.bool true) = z := ⟨_, rfl⟩
      have Kp_12 : Hid (Bk W12 p 23 #[.bool a, .bool b, .bool c, .bool d, .bool f]) := by rw [← hW12]; exact laid5_far Kp_11.out (by have := HNps.out; omega) (.bool a) (.bool false) (.bool c) (.bool false) (.bool true)
      have Kq_12 : Hid (Bk W12 q 23 #[.bool true, .bool b, .bool false, .bool d, .bool f]) := by rw [← hW12]; exact laid5_far Kq_11.out (by have := HNqs.out; omega) (.bool a) (.bool false) (.bool c) (.bool false) (.bool true)
      have Kr_12 : Hid (Bk W12 r 23 #[.bool a, .bool false, .bool c, .bool false, .bool false]) := by rw [← hW12]; exact laid5_far Kr_11.out (by have := HNrs.out; omega) (.bool a) (.bool false) (.bool c) (.bool false) (.bool true)
      have Ks_12 : Hid (Bk W12 s 23 #[.bool a, .bool false, .bool c, .bool false, .bool true]) := by rw [← hW12]; exact laid5_bk Ks_11.out (.bool a) (.bool false) (.bool c) (.bool false) (.bool true)
      have B_12 : Hid (Below w.heap.size w W12) := by rw [← hW12]; exact laid5_below B_11.out HLs.out (.bool a) (.bool false) (.bool c) (.bool false) (.bool true)
      clear Kp_11 Kq_11 Kr_11 Ks_11 B_11
      go_upto_region 10 with fail
      clear cs0 cgs0 cs1 cgs1 cs2 cgs2 cs3 cgs3 cs4 cgs4
      clear hW12
      have cs0 : W12.cell? ⟨s, 0, none⟩ = some (.bool a) := Ks_12.out.cell 0
      have cs1 : W12.cell? ⟨s, 1, none⟩ = some (.bool false) := Ks_12.out.cell 1
      have cs2 : W12.cell? ⟨s, 2, none⟩ = some (.bool c) := Ks_12.out.cell 2
      have cs3 : W12.cell? ⟨s, 3, none⟩ = some (.bool false) := Ks_12.out.cell 3
      have cs4 : W12.cell? ⟨s, 4, none⟩ = some (.bool true) := Ks_12.out.cell 4
      obtain ⟨r12, hr12⟩ : ∃ r, (!decide ((⟨a, true, c, false, false⟩ : Mod) = ⟨a, false, c, false, true⟩)) = r := ⟨_, rfl⟩
      have HS12 := Lib.hid (step_at ⟨a, false, c, false, true⟩ ⟨a, true, c, false, false⟩ (5) r12 (rfl) hr12 W12)
      clear hr12
      go_wp2_with fail
      refine HS12.out.mono ?_
      rintro e v12 ⟨rfl, b12⟩
      clear cs0 cs1 cs2 cs3 cs4
      have Kp_13 : Hid (Bk v12 p 23 #[.bool a, .bool b, .bool c, .bool d, .bool f]) := Kp_12.out.below b12 Kp_12.out.lt
      have Kq_13 : Hid (Bk v12 q 23 #[.bool true, .bool b, .bool false, .bool d, .bool f]) := Kq_12.out.below b12 Kq_12.out.lt
      have Kr_13 : Hid (Bk v12 r 23 #[.bool a, .bool false, .bool c, .bool false, .bool false]) := Kr_12.out.below b12 Kr_12.out.lt
      have Ks_13 : Hid (Bk v12 s 23 #[.bool a, .bool false, .bool c, .bool false, .bool true]) := Ks_12.out.below b12 Ks_12.out.lt
      have B_13 : Hid (Below w.heap.size w v12) := B_12.out.trans (b12.mono B_12.out.size)
      clear Kp_12 Kq_12 Kr_12 Ks_12 B_12
      clear b12
      have cs0 : v12.cell? ⟨s, 0, none⟩ = some (.bool a) := Ks_13.out.cell 0
      have cgs0 : v12.frozen? ⟨s, 0, none⟩ = false := Ks_13.out.free 0
      have cs1 : v12.cell? ⟨s, 1, none⟩ = some (.bool false) := Ks_13.out.cell 1
      have cgs1 : v12.frozen? ⟨s, 1, none⟩ = false := Ks_13.out.free 1
      have cs2 : v12.cell? ⟨s, 2, none⟩ = some (.bool c) := Ks_13.out.cell 2
      have cgs2 : v12.frozen? ⟨s, 2, none⟩ = false := Ks_13.out.free 2
      have cs3 : v12.cell? ⟨s, 3, none⟩ = some (.bool false) := Ks_13.out.cell 3
      have cgs3 : v12.frozen? ⟨s, 3, none⟩ = false := Ks_13.out.free 3
      have cs4 : v12.cell? ⟨s, 4, none⟩ = some (.bool true) := Ks_13.out.cell 4
      have cgs4 : v12.frozen? ⟨s, 4, none⟩ = false := Ks_13.out.free 4
      obtain ⟨W14, hW14⟩ : ∃ z, laid5 v12 s (.bool a) (.bool true) (.bool c) (.bool false) (.bool false) = z := ⟨_, rfl⟩
      have Kp_14 : Hid (Bk W14 p 23 #[.bool a, .bool b, .bool c, .bool d, .bool f]) := by rw [← hW14]; exact laid5_far Kp_13.out (by have := HNps.out; omega) (.bool a) (.bool true) (.bool c) (.bool false) (.bool false)
      have Kq_14 : Hid (Bk W14 q 23 #[.bool true, .bool b, .bool false, .bool d, .bool f]) := by rw [← hW14]; exact laid5_far Kq_13.out (by have := HNqs.out; omega) (.bool a) (.bool true) (.bool c) (.bool false) (.bool false)
      have Kr_14 : Hid (Bk W14 r 23 #[.bool a, .bool false, .bool c, .bool false, .bool false]) := by rw [← hW14]; exact laid5_far Kr_13.out (by have := HNrs.out; omega) (.bool a) (.bool true) (.bool c) (.bool false) (.bool false)
      have Ks_14 : Hid (Bk W14 s 23 #[.bool a, .bool true, .bool c, .bool false, .bool false]) := by rw [← hW14]; exact laid5_bk Ks_13.out (.bool a) (.bool true) (.bool c) (.bool false) (.bool false)
      have B_14 : Hid (Below w.heap.size w W14) := by rw [← hW14]; exact laid5_below B_13.out HLs.out (.bool a) (.bool true) (.bool c) (.bool false) (.bool false)
      clear Kp_13 Kq_13 Kr_13 Ks_13 B_13
      go_upto_region 13 with fail
      clear cs0 cgs0 cs1 cgs1 cs2 cgs2 cs3 cgs3 cs4 cgs4
      clear hW14
      have cs0 : W14.cell? ⟨s, 0, none⟩ = some (.bool a) := Ks_14.out.cell 0
      have cs1 : W14.cell? ⟨s, 1, none⟩ = some (.bool true) := Ks_14.out.cell 1
      have cs2 : W14.cell? ⟨s, 2, none⟩ = some (.bool c) := Ks_14.out.cell 2
      have cs3 : W14.cell? ⟨s, 3, none⟩ = some (.bool false) := Ks_14.out.cell 3
      have cs4 : W14.cell? ⟨s, 4, none⟩ = some (.bool false) := Ks_14.out.cell 4
      obtain ⟨r14, hr14⟩ : ∃ r, (!decide ((⟨a, false, c, false, false⟩ : Mod) = ⟨a, true, c, false, false⟩)) = r := ⟨_, rfl⟩
      have HS14 := Lib.hid (step_at ⟨a, true, c, false, false⟩ ⟨a, false, c, false, false⟩ (6) r14 (rfl) hr14 W14)
      clear hr14
      go_wp2_with fail
      refine HS14.out.mono ?_
      rintro e v14 ⟨rfl, b14⟩
      clear cs0 cs1 cs2 cs3 cs4
      have Kp_15 : Hid (Bk v14 p 23 #[.bool a, .bool b, .bool c, .bool d, .bool f]) := Kp_14.out.below b14 Kp_14.out.lt
      have Kq_15 : Hid (Bk v14 q 23 #[.bool true, .bool b, .bool false, .bool d, .bool f]) := Kq_14.out.below b14 Kq_14.out.lt
      have Kr_15 : Hid (Bk v14 r 23 #[.bool a, .bool false, .bool c, .bool false, .bool false]) := Kr_14.out.below b14 Kr_14.out.lt
      have Ks_15 : Hid (Bk v14 s 23 #[.bool a, .bool true, .bool c, .bool false, .bool false]) := Ks_14.out.below b14 Ks_14.out.lt
      have B_15 : Hid (Below w.heap.size w v14) := B_14.out.trans (b14.mono B_14.out.size)
      clear Kp_14 Kq_14 Kr_14 Ks_14 B_14
      clear b14
      obtain ⟨W16, hW16⟩ : ∃ W, v14.alloc (.cells #[.bool a, .bool false, .bool c, .bool false, .bool false] 23) = W := ⟨_, rfl⟩
      obtain ⟨t, ht⟩ : ∃ g, v14.heap.size = g := ⟨_, rfl⟩
      have Kp_16 : Hid (Bk W16 p 23 #[.bool a, .bool b, .bool c, .bool d, .bool f]) := by rw [← hW16]; exact Kp_15.out.alloc _
      have HNpt : Hid (p < t) := by have := Kp_15.out.lt; unfold Hid; omega
      have Kq_16 : Hid (Bk W16 q 23 #[.bool true, .bool b, .bool false, .bool d, .bool f]) := by rw [← hW16]; exact Kq_15.out.alloc _
      have HNqt : Hid (q < t) := by have := Kq_15.out.lt; unfold Hid; omega
      have Kr_16 : Hid (Bk W16 r 23 #[.bool a, .bool false, .bool c, .bool false, .bool false]) := by rw [← hW16]; exact Kr_15.out.alloc _
      have HNrt : Hid (r < t) := by have := Kr_15.out.lt; unfold Hid; omega
      have Ks_16 : Hid (Bk W16 s 23 #[.bool a, .bool true, .bool c, .bool false, .bool false]) := by rw [← hW16]; exact Ks_15.out.alloc _
      have HNst : Hid (s < t) := by have := Ks_15.out.lt; unfold Hid; omega
      have Kt_16 : Hid (Bk W16 t 23 #[.bool a, .bool false, .bool c, .bool false, .bool false]) := by rw [← hW16, ← ht]; exact Bk.new _ _ _
      have B_16 : Hid (Below w.heap.size w W16) := by rw [← hW16]; exact B_15.out.alloc B_15.out.size _
      have HLt : Hid (w.heap.size ≤ t) := by have := B_15.out.size; unfold Hid; omega
      have HW16 := Lib.hid hW16
      have HAt := Lib.hid ht
      clear hW16 ht
      clear Kp_15 Kq_15 Kr_15 Ks_15 B_15
      go_upto_region 14 with fail
      (try rw [HW16.out])
      (try rw [HAt.out])
      obtain ⟨W17, hW17⟩ : ∃ W, W16.alloc (.cells #[.string ⟨#[97, 64, 98]⟩, .string ⟨#[]⟩, .slice none 0 0, .int .i64 0, .bool false, .bool false] 26) = W := ⟨_, rfl⟩
      obtain ⟨u, hu⟩ : ∃ g, W16.heap.size = g := ⟨_, rfl⟩
      have Kp_17 : Hid (Bk W17 p 23 #[.bool a, .bool b, .bool c, .bool d, .bool f]) := by rw [← hW17]; exact Kp_16.out.alloc _
      have HNpu : Hid (p < u) := by have := Kp_16.out.lt; unfold Hid; omega
      have Kq_17 : Hid (Bk W17 q 23 #[.bool true, .bool b, .bool false, .bool d, .bool f]) := by rw [← hW17]; exact Kq_16.out.alloc _
      have HNqu : Hid (q < u) := by have := Kq_16.out.lt; unfold Hid; omega
      have Kr_17 : Hid (Bk W17 r 23 #[.bool a, .bool false, .bool c, .bool false, .bool false]) := by rw [← hW17]; exact Kr_16.out.alloc _
      have HNru : Hid (r < u) := by have := Kr_16.out.lt; unfold Hid; omega
      have Ks_17 : Hid (Bk W17 s 23 #[.bool a, .bool true, .bool c, .bool false, .bool false]) := by rw [← hW17]; exact Ks_16.out.alloc _
      have HNsu : Hid (s < u) := by have := Ks_16.out.lt; unfold Hid; omega
      have Kt_17 : Hid (Bk W17 t 23 #[.bool a, .bool false, .bool c, .bool false, .bool false]) := by rw [← hW17]; exact Kt_16.out.alloc _
      have HNtu : Hid (t < u) := by have := Kt_16.out.lt; unfold Hid; omega
      have Ku_17 : Hid (Bk W17 u 26 #[.string ⟨#[97, 64, 98]⟩, .string ⟨#[]⟩, .slice none 0 0, .int .i64 0, .bool false, .bool false]) := by rw [← hW17, ← hu]; exact Bk.new _ _ _
      have B_17 : Hid (Below w.heap.size w W17) := by rw [← hW17]; exact B_16.out.alloc B_16.out.size _
      have HLu : Hid (w.heap.size ≤ u) := by have := B_16.out.size; unfold Hid; omega
      have HW17 := Lib.hid hW17
      have HAu := Lib.hid hu
      clear hW17 hu
      clear Kp_16 Kq_16 Kr_16 Ks_16 Kt_16 B_16
      go_upto_region 15 with fail
      (try rw [HW17.out])
      (try rw [HAu.out])
      obtain ⟨S, hS⟩ : ∃ S, subM ⟨true, b, false, d, f⟩ = S := ⟨_, rfl⟩
      have HIN : Hid (∀ W, Calls Try.prog 17 #[.agg #[.string ⟨#[97, 64, 98]⟩, .string ⟨#[]⟩, .slice none 0 0, .int .i64 0, .bool false, .bool false], .agg #[.bool true, .bool b, .bool false, .bool d, .bool f]] W fun e w' => ∃ iA cap, e = .returned (.agg #[.string ⟨#[97, 64, 98]⟩, .string ⟨#[]⟩, .slice iA 0 cap, .int .i64 S, .bool false, .bool f]) ∧ Below W.heap.size W w') := fun W => by
        refine (into_any ⟨[97, 64, 98], [], [], 0, false, false⟩ (.slice none 0 0) ⟨true, b, false, d, f⟩ W (ReadT.nil _ _ _) (by decide)).mono ?_
        rintro e w' ⟨gv', he, ho, hb⟩
        obtain ⟨A, cap, hv⟩ := ho.slice
        subst hv
        exact ⟨A, cap, by rw [he, ← hS]; rfl, hb⟩
      have HOF : Hid (∀ W A cap, Calls Try.prog 14 #[.agg #[.string ⟨#[97, 64, 98]⟩, .string ⟨#[]⟩, .slice A 0 cap, .int .i64 S, .bool false, .bool f]] W fun e w' => e = .returned (.agg #[.bool true, .bool b, .bool false, .bool false, .bool f]) ∧ Below W.heap.size W w') := fun W A cap => by
        refine (of_any ⟨[97, 64, 98], [], [], S, false, f⟩ A 0 cap W).mono ?_
        rintro e w' ⟨he, hb⟩
        exact ⟨by rw [he, ← hS]; cases b <;> rfl, hb⟩
      clear hS
      have HQ0 : Hid (∀ W, Below W17.heap.size W17 W → W.cell? ⟨q, 0, none⟩ = some (.bool true)) := fun W h => (Kq_17.out.below h Kq_17.out.lt).cell 0
      have HQ1 : Hid (∀ W, Below W17.heap.size W17 W → W.cell? ⟨q, 1, none⟩ = some (.bool b)) := fun W h => (Kq_17.out.below h Kq_17.out.lt).cell 1
      have HQ2 : Hid (∀ W, Below W17.heap.size W17 W → W.cell? ⟨q, 2, none⟩ = some (.bool false)) := fun W h => (Kq_17.out.below h Kq_17.out.lt).cell 2
      have HQ3 : Hid (∀ W, Below W17.heap.size W17 W → W.cell? ⟨q, 3, none⟩ = some (.bool d)) := fun W h => (Kq_17.out.below h Kq_17.out.lt).cell 3
      have HQ4 : Hid (∀ W, Below W17.heap.size W17 W → W.cell? ⟨q, 4, none⟩ = some (.bool f)) := fun W h => (Kq_17.out.below h Kq_17.out.lt).cell 4
      have HR0 : Hid (∀ W, Below W17.heap.size W17 W → W.cell? ⟨r, 0, none⟩ = some (.bool a)) := fun W h => (Kr_17.out.below h Kr_17.out.lt).cell 0
      have HR1 : Hid (∀ W, Below W17.heap.size W17 W → W.cell? ⟨r, 1, none⟩ = some (.bool false)) := fun W h => (Kr_17.out.below h Kr_17.out.lt).cell 1
      have HR2 : Hid (∀ W, Below W17.heap.size W17 W → W.cell? ⟨r, 2, none⟩ = some (.bool c)) := fun W h => (Kr_17.out.below h Kr_17.out.lt).cell 2
      have HR3 : Hid (∀ W, Below W17.heap.size W17 W → W.cell? ⟨r, 3, none⟩ = some (.bool false)) := fun W h => (Kr_17.out.below h Kr_17.out.lt).cell 3
      have HR4 : Hid (∀ W, Below W17.heap.size W17 W → W.cell? ⟨r, 4, none⟩ = some (.bool false)) := fun W h => (Kr_17.out.below h Kr_17.out.lt).cell 4
      have HS0 : Hid (∀ W, Below W17.heap.size W17 W → W.cell? ⟨s, 0, none⟩ = some (.bool a)) := fun W h => (Ks_17.out.below h Ks_17.out.lt).cell 0
      have HS1 : Hid (∀ W, Below W17.heap.size W17 W → W.cell? ⟨s, 1, none⟩ = some (.bool true)) := fun W h => (Ks_17.out.below h Ks_17.out.lt).cell 1
      have HS2 : Hid (∀ W, Below W17.heap.size W17 W → W.cell? ⟨s, 2, none⟩ = some (.bool c)) := fun W h => (Ks_17.out.below h Ks_17.out.lt).cell 2
      have HS3 : Hid (∀ W, Below W17.heap.size W17 W → W.cell? ⟨s, 3, none⟩ = some (.bool false)) := fun W h => (Ks_17.out.below h Ks_17.out.lt).cell 3
      have HS4 : Hid (∀ W, Below W17.heap.size W17 W → W.cell? ⟨s, 4, none⟩ = some (.bool false)) := fun W h => (Ks_17.out.below h Ks_17.out.lt).cell 4
      have HT0 : Hid (∀ W, Below W17.heap.size W17 W → W.cell? ⟨t, 0, none⟩ = some (.bool a)) := fun W h => (Kt_17.out.below h Kt_17.out.lt).cell 0
      have HT1 : Hid (∀ W, Below W17.heap.size W17 W → W.cell? ⟨t, 1, none⟩ = some (.bool false)) := fun W h => (Kt_17.out.below h Kt_17.out.lt).cell 1
      have HT2 : Hid (∀ W, Below W17.heap.size W17 W → W.cell? ⟨t, 2, none⟩ = some (.bool c)) := fun W h => (Kt_17.out.below h Kt_17.out.lt).cell 2
      have HT3 : Hid (∀ W, Below W17.heap.size W17 W → W.cell? ⟨t, 3, none⟩ = some (.bool false)) := fun W h => (Kt_17.out.below h Kt_17.out.lt).cell 3
      have HT4 : Hid (∀ W, Below W17.heap.size W17 W → W.cell? ⟨t, 4, none⟩ = some (.bool false)) := fun W h => (Kt_17.out.below h Kt_17.out.lt).cell 4
      have HP0 : Hid (∀ W, Below W17.heap.size W17 W → W.cell? ⟨p, 0, none⟩ = some (.bool a)) := fun W h => (Kp_17.out.below h Kp_17.out.lt).cell 0
      have HP1 : Hid (∀ W, Below W17.heap.size W17 W → W.cell? ⟨p, 1, none⟩ = some (.bool b)) := fun W h => (Kp_17.out.below h Kp_17.out.lt).cell 1
      have HP2 : Hid (∀ W, Below W17.heap.size W17 W → W.cell? ⟨p, 2, none⟩ = some (.bool c)) := fun W h => (Kp_17.out.below h Kp_17.out.lt).cell 2
      have HP3 : Hid (∀ W, Below W17.heap.size W17 W → W.cell? ⟨p, 3, none⟩ = some (.bool d)) := fun W h => (Kp_17.out.below h Kp_17.out.lt).cell 3
      have HP4 : Hid (∀ W, Below W17.heap.size W17 W → W.cell? ⟨p, 4, none⟩ = some (.bool f)) := fun W h => (Kp_17.out.below h Kp_17.out.lt).cell 4
      have HU0 : Hid (∀ W, Below W17.heap.size W17 W → W.cell? ⟨u, 0, none⟩ = some (.string ⟨#[97, 64, 98]⟩)) := fun W h => (Ku_17.out.below h Ku_17.out.lt).cell 0
      have HU1 : Hid (∀ W, Below W17.heap.size W17 W → W.cell? ⟨u, 1, none⟩ = some (.string ⟨#[]⟩)) := fun W h => (Ku_17.out.below h Ku_17.out.lt).cell 1
      have HU2 : Hid (∀ W, Below W17.heap.size W17 W → W.cell? ⟨u, 2, none⟩ = some (.slice none 0 0)) := fun W h => (Ku_17.out.below h Ku_17.out.lt).cell 2
      have HU3 : Hid (∀ W, Below W17.heap.size W17 W → W.cell? ⟨u, 3, none⟩ = some (.int .i64 0)) := fun W h => (Ku_17.out.below h Ku_17.out.lt).cell 3
      have HU4 : Hid (∀ W, Below W17.heap.size W17 W → W.cell? ⟨u, 4, none⟩ = some (.bool false)) := fun W h => (Ku_17.out.below h Ku_17.out.lt).cell 4
      have HU5 : Hid (∀ W, Below W17.heap.size W17 W → W.cell? ⟨u, 5, none⟩ = some (.bool false)) := fun W h => (Ku_17.out.below h Ku_17.out.lt).cell 5
      have q1 := eqlM_at (m := ⟨true, b, false, false, f⟩) (n := ⟨true, b, false, false, f⟩) (r := true) (by simp)
      have q2 := eqgM_at .eql ⟨true, b, false, false, f⟩ ⟨true, b, false, false, f⟩
      have bN : Below W17.heap.size W17 W17.drew := (Below.refl _ _).drew
      refine wp_region_held_drew (S := fun w' => Below W17.heap.size W17 w' ∧ w'.cell? ⟨q, 0, none⟩ = some (.bool true) ∧ w'.cell? ⟨q, 1, none⟩ = some (.bool b) ∧ w'.cell? ⟨q, 2, none⟩ = some (.bool false) ∧ w'.cell? ⟨q, 3, none⟩ = some (.bool d) ∧ w'.cell? ⟨q, 4, none⟩ = some (.bool f) ∧ w'.cell? ⟨r, 0, none⟩ = some (.bool a) ∧ w'.cell? ⟨r, 1, none⟩ = some (.bool false) ∧ w'.cell? ⟨r, 2, none⟩ = some (.bool c) ∧ w'.cell? ⟨r, 3, none⟩ = some (.bool false) ∧ w'.cell? ⟨r, 4, none⟩ = some (.bool false) ∧ w'.cell? ⟨s, 0, none⟩ = some (.bool a) ∧ w'.cell? ⟨s, 1, none⟩ = some (.bool true) ∧ w'.cell? ⟨s, 2, none⟩ = some (.bool c) ∧ w'.cell? ⟨s, 3, none⟩ = some (.bool false) ∧ w'.cell? ⟨s, 4, none⟩ = some (.bool false) ∧ w'.cell? ⟨t, 0, none⟩ = some (.bool a) ∧ w'.cell? ⟨t, 1, none⟩ = some (.bool false) ∧ w'.cell? ⟨t, 2, none⟩ = some (.bool c) ∧ w'.cell? ⟨t, 3, none⟩ = some (.bool false) ∧ w'.cell? ⟨t, 4, none⟩ = some (.bool false) ∧ w'.cell? ⟨p, 0, none⟩ = some (.bool a) ∧ w'.cell? ⟨p, 1, none⟩ = some (.bool b) ∧ w'.cell? ⟨p, 2, none⟩ = some (.bool c) ∧ w'.cell? ⟨p, 3, none⟩ = some (.bool d) ∧ w'.cell? ⟨p, 4, none⟩ = some (.bool f) ∧ w'.cell? ⟨u, 0, none⟩ = some (.string ⟨#[97, 64, 98]⟩) ∧ w'.cell? ⟨u, 1, none⟩ = some (.string ⟨#[]⟩) ∧ w'.cell? ⟨u, 2, none⟩ = some (.slice none 0 0) ∧ w'.cell? ⟨u, 3, none⟩ = some (.int .i64 0) ∧ w'.cell? ⟨u, 4, none⟩ = some (.bool false) ∧ w'.cell? ⟨u, 5, none⟩ = some (.bool false)) (by kernel_rfl) ?_ (fun hHeld => ?_)
      · exact ⟨bN, HQ0.out _ bN, HQ1.out _ bN, HQ2.out _ bN, HQ3.out _ bN, HQ4.out _ bN, HR0.out _ bN, HR1.out _ bN, HR2.out _ bN, HR3.out _ bN, HR4.out _ bN, HS0.out _ bN, HS1.out _ bN, HS2.out _ bN, HS3.out _ bN, HS4.out _ bN, HT0.out _ bN, HT1.out _ bN, HT2.out _ bN, HT3.out _ bN, HT4.out _ bN, HP0.out _ bN, HP1.out _ bN, HP2.out _ bN, HP3.out _ bN, HP4.out _ bN, HU0.out _ bN, HU1.out _ bN, HU2.out _ bN, HU3.out _ bN, HU4.out _ bN, HU5.out _ bN⟩
      refine wpAnyH_ready (rs := [0]) (by kernel_rfl) (by simp) ?_
      refine AllReadyH.cons (i := 0) rfl (fun K hK => ?_) AllReadyH.nil
      go_simp
      refine (HAW.out _).mono ?_
      rintro e wv0 ⟨rfl, bC⟩
      have bN := bN.trans (bC.mono bN.size)
      clear bC
      go_wp2_with fail
      refine hK.out _ _ ?_ (fun hHeld => ?_)
      · exact ⟨bN, HQ0.out _ bN, HQ1.out _ bN, HQ2.out _ bN, HQ3.out _ bN, HQ4.out _ bN, HR0.out _ bN, HR1.out _ bN, HR2.out _ bN, HR3.out _ bN, HR4.out _ bN, HS0.out _ bN, HS1.out _ bN, HS2.out _ bN, HS3.out _ bN, HS4.out _ bN, HT0.out _ bN, HT1.out _ bN, HT2.out _ bN, HT3.out _ bN, HT4.out _ bN, HP0.out _ bN, HP1.out _ bN, HP2.out _ bN, HP3.out _ bN, HP4.out _ bN, HU0.out _ bN, HU1.out _ bN, HU2.out _ bN, HU3.out _ bN, HU4.out _ bN, HU5.out _ bN⟩
      clear hK K
      try simp only [Act.put, List.setIfInBounds_toArray, List.set_cons_zero, List.set_cons_succ]
      refine take_w 1 (some 66) ?v59 rfl rfl (by kernel_rfl) (by kernel_rfl) (by kernel_rfl) (by rfl) ?y59 (fun _ _ _ h => h) (by assumption) ?n59
      case y59 =>
        intro w hSw
        try dsimp only at hSw
        go_simp
        try with_reducible rfl
      try simp only [Act.put, List.setIfInBounds_toArray, List.set_cons_zero, List.set_cons_succ]
      refine take_w 2 (some 67) ?v60 rfl rfl (by kernel_rfl) (by kernel_rfl) (by kernel_rfl) (by rfl) ?y60 (fun _ _ _ h => h) (by assumption) ?n60
      case y60 =>
        intro w hSw
        try dsimp only at hSw
        go_simp
        try with_reducible rfl
      try simp only [Act.put, List.setIfInBounds_toArray, List.set_cons_zero, List.set_cons_succ]
      refine take_w 3 (some 68) ?v61 rfl rfl (by kernel_rfl) (by kernel_rfl) (by kernel_rfl) (by rfl) ?y61 (fun _ _ _ h => h) (by assumption) ?n61
      case y61 =>
        intro w hSw
        try dsimp only at hSw
        go_simp
        try with_reducible rfl
      try simp only [Act.put, List.setIfInBounds_toArray, List.set_cons_zero, List.set_cons_succ]
      refine take_w 4 (some 69) ?v62 rfl rfl (by kernel_rfl) (by kernel_rfl) (by kernel_rfl) (by rfl) ?y62 (fun _ _ _ h => h) (by assumption) ?n62
      case y62 =>
        intro w hSw
        try dsimp only at hSw
        go_simp
        try with_reducible rfl
      try simp only [Act.put, List.setIfInBounds_toArray, List.set_cons_zero, List.set_cons_succ]
      refine take_w 5 (some 70) ?v63 rfl rfl (by kernel_rfl) (by kernel_rfl) (by kernel_rfl) (by rfl) ?y63 (fun _ _ _ h => h) (by assumption) ?n63
      case y63 =>
        intro w hSw
        try dsimp only at hSw
        go_simp
        try with_reducible rfl
      try simp only [Act.put, List.setIfInBounds_toArray, List.set_cons_zero, List.set_cons_succ]
      refine take_w 6 (some 71) ?v64 rfl rfl (by kernel_rfl) (by kernel_rfl) (by kernel_rfl) (by rfl) ?y64 (fun _ _ _ h => h) (by assumption) ?n64
      case y64 =>
        intro w hSw
        try dsimp only at hSw
        go_simp
        try with_reducible rfl
      try simp only [Act.put, List.setIfInBounds_toArray, List.set_cons_zero, List.set_cons_succ]
      refine take_w 7 (some 72) ?v65 rfl rfl (by kernel_rfl) (by kernel_rfl) (by kernel_rfl) (by rfl) ?y65 (fun _ _ _ h => h) (by assumption) ?n65
      case y65 =>
        intro w hSw
        try dsimp only at hSw
        go_simp
        try with_reducible rfl
      try simp only [Act.put, List.setIfInBounds_toArray, List.set_cons_zero, List.set_cons_succ]
      refine take_w 8 (some 73) ?v66 rfl rfl (by kernel_rfl) (by kernel_rfl) (by kernel_rfl) (by rfl) ?y66 (fun _ _ _ h => h) (by assumption) ?n66
      case y66 =>
        intro w hSw
        try dsimp only at hSw
        go_simp
        try with_reducible rfl
      try simp only [Act.put, List.setIfInBounds_toArray, List.set_cons_zero, List.set_cons_succ]
      refine take_w 9 (some 74) ?v67 rfl rfl (by kernel_rfl) (by kernel_rfl) (by kernel_rfl) (by rfl) ?y67 (fun _ _ _ h => h) (by assumption) ?n67
      case y67 =>
        intro w hSw
        try dsimp only at hSw
        go_simp
        try with_reducible rfl
      try simp only [Act.put, List.setIfInBounds_toArray, List.set_cons_zero, List.set_cons_succ]
      refine take_w 10 (some 75) ?v68 rfl rfl (by kernel_rfl) (by kernel_rfl) (by kernel_rfl) (by rfl) ?y68 (fun _ _ _ h => h) (by assumption) ?n68
      case y68 =>
        intro w hSw
        try dsimp only at hSw
        go_simp
        try with_reducible rfl
      try simp only [Act.put, List.setIfInBounds_toArray, List.set_cons_zero, List.set_cons_succ]
      refine take_w 11 (some 76) ?v69 rfl rfl (by kernel_rfl) (by kernel_rfl) (by kernel_rfl) (by rfl) ?y69 (fun _ _ _ h => h) (by assumption) ?n69
      case y69 =>
        intro w hSw
        try dsimp only at hSw
        go_simp
        try with_reducible rfl
      try simp only [Act.put, List.setIfInBounds_toArray, List.set_cons_zero, List.set_cons_succ]
      refine take_w 12 (some 77) ?v70 rfl rfl (by kernel_rfl) (by kernel_rfl) (by kernel_rfl) (by rfl) ?y70 (fun _ _ _ h => h) (by assumption) ?n70
      case y70 =>
        intro w hSw
        try dsimp only at hSw
        go_simp
        try with_reducible rfl
      try simp only [Act.put, List.setIfInBounds_toArray, List.set_cons_zero, List.set_cons_succ]
      refine take_w 13 (some 78) ?v71 rfl rfl (by kernel_rfl) (by kernel_rfl) (by kernel_rfl) (by rfl) ?y71 (fun _ _ _ h => h) (by assumption) ?n71
      case y71 =>
        intro w hSw
        try dsimp only at hSw
        go_simp
        try with_reducible rfl
      try simp only [Act.put, List.setIfInBounds_toArray, List.set_cons_zero, List.set_cons_succ]
      refine take_w 14 (some 79) ?v72 rfl rfl (by kernel_rfl) (by kernel_rfl) (by kernel_rfl) (by rfl) ?y72 (fun _ _ _ h => h) (by assumption) ?n72
      case y72 =>
        intro w hSw
        try dsimp only at hSw
        go_simp
        try with_reducible rfl
      try simp only [Act.put, List.setIfInBounds_toArray, List.set_cons_zero, List.set_cons_succ]
      refine take_w 15 (some 80) ?v73 rfl rfl (by kernel_rfl) (by kernel_rfl) (by kernel_rfl) (by rfl) ?y73 (fun _ _ _ h => h) (by assumption) ?n73
      case y73 =>
        intro w hSw
        try dsimp only at hSw
        go_simp
        try with_reducible rfl
      try simp only [Act.put, List.setIfInBounds_toArray, List.set_cons_zero, List.set_cons_succ]
      refine take_w 16 (some 81) ?v74 rfl rfl (by kernel_rfl) (by kernel_rfl) (by kernel_rfl) (by rfl) ?y74 (fun _ _ _ h => h) (by assumption) ?n74
      case y74 =>
        intro w hSw
        try dsimp only at hSw
        go_simp
        try with_reducible rfl
      try simp only [Act.put, List.setIfInBounds_toArray, List.set_cons_zero, List.set_cons_succ]
      refine take_w 17 (some 82) ?v75 rfl rfl (by kernel_rfl) (by kernel_rfl) (by kernel_rfl) (by rfl) ?y75 (fun _ _ _ h => h) (by assumption) ?n75
      case y75 =>
        intro w hSw
        try dsimp only at hSw
        go_simp
        try with_reducible rfl
      try simp only [Act.put, List.setIfInBounds_toArray, List.set_cons_zero, List.set_cons_succ]
      refine take_w 18 (some 83) ?v76 rfl rfl (by kernel_rfl) (by kernel_rfl) (by kernel_rfl) (by rfl) ?y76 (fun _ _ _ h => h) (by assumption) ?n76
      case y76 =>
        intro w hSw
        try dsimp only at hSw
        go_simp
        try with_reducible rfl
      try simp only [Act.put, List.setIfInBounds_toArray, List.set_cons_zero, List.set_cons_succ]
      refine take_w 19 (some 84) ?v77 rfl rfl (by kernel_rfl) (by kernel_rfl) (by kernel_rfl) (by rfl) ?y77 (fun _ _ _ h => h) (by assumption) ?n77
      case y77 =>
        intro w hSw
        try dsimp only at hSw
        go_simp
        try with_reducible rfl
      try simp only [Act.put, List.setIfInBounds_toArray, List.set_cons_zero, List.set_cons_succ]
      refine take_w 20 (some 85) ?v78 rfl rfl (by kernel_rfl) (by kernel_rfl) (by kernel_rfl) (by rfl) ?y78 (fun _ _ _ h => h) (by assumption) ?n78
      case y78 =>
        intro w hSw
        try dsimp only at hSw
        go_simp
        try with_reducible rfl
      try simp only [Act.put, List.setIfInBounds_toArray, List.set_cons_zero, List.set_cons_succ]
      refine take_w 21 (some 86) ?v79 rfl rfl (by kernel_rfl) (by kernel_rfl) (by kernel_rfl) (by rfl) ?y79 (fun _ _ _ h => h) (by assumption) ?n79
      case y79 =>
        intro w hSw
        try dsimp only at hSw
        go_simp
        try with_reducible rfl
      try simp only [Act.put, List.setIfInBounds_toArray, List.set_cons_zero, List.set_cons_succ]
      refine take_w 22 (some 87) ?v80 rfl rfl (by kernel_rfl) (by kernel_rfl) (by kernel_rfl) (by rfl) ?y80 (fun _ _ _ h => h) (by assumption) ?n80
      case y80 =>
        intro w hSw
        try dsimp only at hSw
        go_simp
        try with_reducible rfl
      try simp only [Act.put, List.setIfInBounds_toArray, List.set_cons_zero, List.set_cons_succ]
      refine take_w 23 (some 88) ?v81 rfl rfl (by kernel_rfl) (by kernel_rfl) (by kernel_rfl) (by rfl) ?y81 (fun _ _ _ h => h) (by assumption) ?n81
      case y81 =>
        intro w hSw
        try dsimp only at hSw
        go_simp
        try with_reducible rfl
      try simp only [Act.put, List.setIfInBounds_toArray, List.set_cons_zero, List.set_cons_succ]
      refine take_w 24 (some 89) ?v82 rfl rfl (by kernel_rfl) (by kernel_rfl) (by kernel_rfl) (by rfl) ?y82 (fun _ _ _ h => h) (by assumption) ?n82
      case y82 =>
        intro w hSw
        try dsimp only at hSw
        go_simp
        try with_reducible rfl
      try simp only [Act.put, List.setIfInBounds_toArray, List.set_cons_zero, List.set_cons_succ]
      refine take_w 25 (some 90) ?v83 rfl rfl (by kernel_rfl) (by kernel_rfl) (by kernel_rfl) (by rfl) ?y83 (fun _ _ _ h => h) (by assumption) ?n83
      case y83 =>
        intro w hSw
        try dsimp only at hSw
        go_simp
        try with_reducible rfl
      try simp only [Act.put, List.setIfInBounds_toArray, List.set_cons_zero, List.set_cons_succ]
      refine take_w 26 (some 91) ?v84 rfl rfl (by kernel_rfl) (by kernel_rfl) (by kernel_rfl) (by rfl) ?y84 (fun _ _ _ h => h) (by assumption) ?n84
      case y84 =>
        intro w hSw
        try dsimp only at hSw
        go_simp
        try with_reducible rfl
      try simp only [Act.put, List.setIfInBounds_toArray, List.set_cons_zero, List.set_cons_succ]
      refine take_w 27 (some 92) ?v85 rfl rfl (by kernel_rfl) (by kernel_rfl) (by kernel_rfl) (by rfl) ?y85 (fun _ _ _ h => h) (by assumption) ?n85
      case y85 =>
        intro w hSw
        try dsimp only at hSw
        go_simp
        try with_reducible rfl
      try simp only [Act.put, List.setIfInBounds_toArray, List.set_cons_zero, List.set_cons_succ]
      refine take_w 28 (some 93) ?v86 rfl rfl (by kernel_rfl) (by kernel_rfl) (by kernel_rfl) (by rfl) ?y86 (fun _ _ _ h => h) (by assumption) ?n86
      case y86 =>
        intro w hSw
        try dsimp only at hSw
        go_simp
        try with_reducible rfl
      try simp only [Act.put, List.setIfInBounds_toArray, List.set_cons_zero, List.set_cons_succ]
      refine take_w 29 (some 94) ?v87 rfl rfl (by kernel_rfl) (by kernel_rfl) (by kernel_rfl) (by rfl) ?y87 (fun _ _ _ h => h) (by assumption) ?n87
      case y87 =>
        intro w hSw
        try dsimp only at hSw
        go_simp
        try with_reducible rfl
      try simp only [Act.put, List.setIfInBounds_toArray, List.set_cons_zero, List.set_cons_succ]
      refine take_w 30 (some 95) ?v88 rfl rfl (by kernel_rfl) (by kernel_rfl) (by kernel_rfl) (by rfl) ?y88 (fun _ _ _ h => h) (by assumption) ?n88
      case y88 =>
        intro w hSw
        try dsimp only at hSw
        go_simp
        try with_reducible rfl
      try simp only [Act.put, List.setIfInBounds_toArray, List.set_cons_zero, List.set_cons_succ]
      refine take_w 31 (some 96) ?v89 rfl rfl (by kernel_rfl) (by kernel_rfl) (by kernel_rfl) (by rfl) ?y89 (fun _ _ _ h => h) (by assumption) ?n89
      case y89 =>
        intro w hSw
        try dsimp only at hSw
        go_simp
        try with_reducible rfl
      try simp only [Act.put, List.setIfInBounds_toArray, List.set_cons_zero, List.set_cons_succ]
      refine take_w 32 (some 97) ?v90 rfl rfl (by kernel_rfl) (by kernel_rfl) (by kernel_rfl) (by rfl) ?y90 (fun _ _ _ h => h) (by assumption) ?n90
      case y90 =>
        intro w hSw
        try dsimp only at hSw
        go_simp
        try with_reducible rfl
      try simp only [Act.put, List.setIfInBounds_toArray, List.set_cons_zero, List.set_cons_succ]
      refine take_w 33 (some 98) ?v91 rfl rfl (by kernel_rfl) (by kernel_rfl) (by kernel_rfl) (by rfl) ?y91 (fun _ _ _ h => h) (by assumption) ?n91
      case y91 =>
        intro w hSw
        try dsimp only at hSw
        go_simp
        try with_reducible rfl
      try simp only [Act.put, List.setIfInBounds_toArray, List.set_cons_zero, List.set_cons_succ]
      refine take_w 34 (some 99) ?v92 rfl rfl (by kernel_rfl) (by kernel_rfl) (by kernel_rfl) (by rfl) ?y92 (fun _ _ _ h => h) (by assumption) ?n92
      case y92 =>
        intro w hSw
        try dsimp only at hSw
        go_simp
        try with_reducible rfl
      try simp only [Act.put, List.setIfInBounds_toArray, List.set_cons_zero, List.set_cons_succ]
      refine take_w 35 (some 100) ?v93 rfl rfl (by kernel_rfl) (by kernel_rfl) (by kernel_rfl) (by rfl) ?y93 (fun _ _ _ h => h) (by assumption) ?n93
      case y93 =>
        intro w hSw
        try dsimp only at hSw
        go_simp
        try with_reducible rfl
      try simp only [Act.put, List.setIfInBounds_toArray, List.set_cons_zero, List.set_cons_succ]
      refine take_w 36 (some 101) ?v94 rfl rfl (by kernel_rfl) (by kernel_rfl) (by kernel_rfl) (by rfl) ?y94 (fun _ _ _ h => h) (by assumption) ?n94
      case y94 =>
        intro w hSw
        try dsimp only at hSw
        go_simp
        try with_reducible rfl
      try simp only [Act.put, List.setIfInBounds_toArray, List.set_cons_zero, List.set_cons_succ]
      refine take_w 37 (some 102) ?v95 rfl rfl (by kernel_rfl) (by kernel_rfl) (by kernel_rfl) (by rfl) ?y95 (fun _ _ _ h => h) (by assumption) ?n95
      case y95 =>
        intro w hSw
        try dsimp only at hSw
        go_simp
        try with_reducible rfl
      try simp only [Act.put, List.setIfInBounds_toArray, List.set_cons_zero, List.set_cons_succ]
      refine take_w 38 (some 103) ?v96 rfl rfl (by kernel_rfl) (by kernel_rfl) (by kernel_rfl) (by rfl) ?y96 (fun _ _ _ h => h) (by assumption) ?n96
      case y96 =>
        intro w hSw
        try dsimp only at hSw
        go_simp
        try with_reducible rfl
      try simp only [Act.put, List.setIfInBounds_toArray, List.set_cons_zero, List.set_cons_succ]
      refine take_w 39 (some 104) ?v97 rfl rfl (by kernel_rfl) (by kernel_rfl) (by kernel_rfl) (by rfl) ?y97 (fun _ _ _ h => h) (by assumption) ?n97
      case y97 =>
        intro w hSw
        try dsimp only at hSw
        go_simp
        try with_reducible rfl
      try simp only [Act.put, List.setIfInBounds_toArray, List.set_cons_zero, List.set_cons_succ]
      refine take_w 40 (some 105) ?v98 rfl rfl (by kernel_rfl) (by kernel_rfl) (by kernel_rfl) (by rfl) ?y98 (fun _ _ _ h => h) (by assumption) ?n98
      case y98 =>
        intro w hSw
        try dsimp only at hSw
        go_simp
        try with_reducible rfl
      try simp only [Act.put, List.setIfInBounds_toArray, List.set_cons_zero, List.set_cons_succ]
      refine take_w 41 (some 106) ?v99 rfl rfl (by kernel_rfl) (by kernel_rfl) (by kernel_rfl) (by rfl) ?y99 (fun _ _ _ h => h) (by assumption) ?n99
      case y99 =>
        intro w hSw
        try dsimp only at hSw
        go_simp
        try with_reducible rfl
      try simp only [Act.put, List.setIfInBounds_toArray, List.set_cons_zero, List.set_cons_succ]
      refine take_w 42 (some 107) ?v100 rfl rfl (by kernel_rfl) (by kernel_rfl) (by kernel_rfl) (by rfl) ?y100 (fun _ _ _ h => h) (by assumption) ?n100
      case y100 =>
        intro w hSw
        try dsimp only at hSw
        go_simp
        try with_reducible rfl
      try simp only [Act.put, List.setIfInBounds_toArray, List.set_cons_zero, List.set_cons_succ]
      refine take_w 43 (some 108) ?v101 rfl rfl (by kernel_rfl) (by kernel_rfl) (by kernel_rfl) (by rfl) ?y101 (fun _ _ _ h => h) (by assumption) ?n101
      case y101 =>
        intro w hSw
        try dsimp only at hSw
        go_simp
        try with_reducible rfl
      try simp only [Act.put, List.setIfInBounds_toArray, List.set_cons_zero, List.set_cons_succ]
      refine take_w 44 (some 109) ?v102 rfl rfl (by kernel_rfl) (by kernel_rfl) (by kernel_rfl) (by rfl) ?y102 (fun _ _ _ h => h) (by assumption) ?n102
      case y102 =>
        intro w hSw
        try dsimp only at hSw
        go_simp
        try with_reducible rfl
      try simp only [Act.put, List.setIfInBounds_toArray, List.set_cons_zero, List.set_cons_succ]
      refine take_w 45 (some 110) ?v103 rfl rfl (by kernel_rfl) (by kernel_rfl) (by kernel_rfl) (by rfl) ?y103 (fun _ _ _ h => h) (by assumption) ?n103
      case y103 =>
        intro w hSw
        try dsimp only at hSw
        go_simp
        try with_reducible rfl
      try simp only [Act.put, List.setIfInBounds_toArray, List.set_cons_zero, List.set_cons_succ]
      refine take_w 46 (some 111) ?v104 rfl rfl (by kernel_rfl) (by kernel_rfl) (by kernel_rfl) (by rfl) ?y104 (fun _ _ _ h => h) (by assumption) ?n104
      case y104 =>
        intro w hSw
        try dsimp only at hSw
        go_simp
        try with_reducible rfl
      try simp only [Act.put, List.setIfInBounds_toArray, List.set_cons_zero, List.set_cons_succ]
      refine take_w 49 (some 114) ?v105 rfl rfl (by kernel_rfl) (by kernel_rfl) (by kernel_rfl) (by rfl) ?y105 (fun _ _ _ h => h) (by assumption) ?n105
      case y105 =>
        intro w hSw
        try dsimp only at hSw
        go_simp
        try with_reducible rfl
      try simp only [Act.put, List.setIfInBounds_toArray, List.set_cons_zero, List.set_cons_succ]
      refine take_w 50 (some 115) ?v106 rfl rfl (by kernel_rfl) (by kernel_rfl) (by kernel_rfl) (by rfl) ?y106 (fun _ _ _ h => h) (by assumption) ?n106
      case y106 =>
        intro w hSw
        try dsimp only at hSw
        go_simp
        try with_reducible rfl
      try simp only [Act.put, List.setIfInBounds_toArray, List.set_cons_zero, List.set_cons_succ]
      refine take_w 51 (some 116) ?v107 rfl rfl (by kernel_rfl) (by kernel_rfl) (by kernel_rfl) (by rfl) ?y107 (fun _ _ _ h => h) (by assumption) ?n107
      case y107 =>
        intro w hSw
        try dsimp only at hSw
        go_simp
        try with_reducible rfl
      try simp only [Act.put, List.setIfInBounds_toArray, List.set_cons_zero, List.set_cons_succ]
      refine take_w 52 (some 117) ?v108 rfl rfl (by kernel_rfl) (by kernel_rfl) (by kernel_rfl) (by rfl) ?y108 (fun _ _ _ h => h) (by assumption) ?n108
      case y108 =>
        intro w hSw
        try dsimp only at hSw
        go_simp
        try with_reducible rfl
      try simp only [Act.put, List.setIfInBounds_toArray, List.set_cons_zero, List.set_cons_succ]
      refine take_w 53 (some 118) ?v109 rfl rfl (by kernel_rfl) (by kernel_rfl) (by kernel_rfl) (by rfl) ?y109 (fun _ _ _ h => h) (by assumption) ?n109
      case y109 =>
        intro w hSw
        try dsimp only at hSw
        go_simp
        try with_reducible rfl
      try simp only [Act.put, List.setIfInBounds_toArray, List.set_cons_zero, List.set_cons_succ]
      refine wpAnyH_ready (rs := [47]) (by kernel_rfl) (by simp) ?_
      refine AllReadyH.cons (i := 47) rfl (fun K hK => ?_) AllReadyH.nil
      go_simp
      refine (HIN.out _).mono ?_
      rintro e wv1 ⟨iA, icap, rfl, bC⟩
      have bN := bN.trans (bC.mono bN.size)
      clear bC
      go_wp2_with fail
      refine hK.out _ _ ?_ (fun hHeld => ?_)
      · exact ⟨bN, HQ0.out _ bN, HQ1.out _ bN, HQ2.out _ bN, HQ3.out _ bN, HQ4.out _ bN, HR0.out _ bN, HR1.out _ bN, HR2.out _ bN, HR3.out _ bN, HR4.out _ bN, HS0.out _ bN, HS1.out _ bN, HS2.out _ bN, HS3.out _ bN, HS4.out _ bN, HT0.out _ bN, HT1.out _ bN, HT2.out _ bN, HT3.out _ bN, HT4.out _ bN, HP0.out _ bN, HP1.out _ bN, HP2.out _ bN, HP3.out _ bN, HP4.out _ bN, HU0.out _ bN, HU1.out _ bN, HU2.out _ bN, HU3.out _ bN, HU4.out _ bN, HU5.out _ bN⟩
      clear hK K
      try simp only [Act.put, List.setIfInBounds_toArray, List.set_cons_zero, List.set_cons_succ]
      refine wpAnyH_ready (rs := [48]) (by kernel_rfl) (by simp) ?_
      refine AllReadyH.cons (i := 48) rfl (fun K hK => ?_) AllReadyH.nil
      go_simp
      refine (HOF.out _ _ _).mono ?_
      rintro e wv2 ⟨rfl, bC⟩
      have bN := bN.trans (bC.mono bN.size)
      clear bC
      go_wp2_with fail
      refine hK.out _ _ ?_ (fun hHeld => ?_)
      · exact ⟨bN, HQ0.out _ bN, HQ1.out _ bN, HQ2.out _ bN, HQ3.out _ bN, HQ4.out _ bN, HR0.out _ bN, HR1.out _ bN, HR2.out _ bN, HR3.out _ bN, HR4.out _ bN, HS0.out _ bN, HS1.out _ bN, HS2.out _ bN, HS3.out _ bN, HS4.out _ bN, HT0.out _ bN, HT1.out _ bN, HT2.out _ bN, HT3.out _ bN, HT4.out _ bN, HP0.out _ bN, HP1.out _ bN, HP2.out _ bN, HP3.out _ bN, HP4.out _ bN, HU0.out _ bN, HU1.out _ bN, HU2.out _ bN, HU3.out _ bN, HU4.out _ bN, HU5.out _ bN⟩
      clear hK K
      try simp only [Act.put, List.setIfInBounds_toArray, List.set_cons_zero, List.set_cons_succ]
      refine take_w 54 (some 119) ?v112 rfl rfl (by kernel_rfl) (by kernel_rfl) (by kernel_rfl) (by rfl) ?y112 (fun _ _ _ h => h) (by assumption) ?n112
      case y112 =>
        intro w hSw
        try dsimp only at hSw
        go_simp
        try with_reducible rfl
      try simp only [Act.put, List.setIfInBounds_toArray, List.set_cons_zero, List.set_cons_succ]
      refine take_w 55 (some 120) ?v113 rfl rfl (by kernel_rfl) (by kernel_rfl) (by kernel_rfl) (by rfl) ?y113 (fun _ _ _ h => h) (by assumption) ?n113
      case y113 =>
        intro w hSw
        try dsimp only at hSw
        go_simp
        try with_reducible rfl
      try simp only [Act.put, List.setIfInBounds_toArray, List.set_cons_zero, List.set_cons_succ]
      refine take_w 56 (some 4) ?v114 rfl rfl (by kernel_rfl) (by kernel_rfl) (by kernel_rfl) (by rfl) ?y114 (fun _ _ _ h => h) (by assumption) ?n114
      case y114 =>
        intro w hSw
        try dsimp only at hSw
        go_simp
        try with_reducible rfl
      try simp only [Act.put, List.setIfInBounds_toArray, List.set_cons_zero, List.set_cons_succ]
      refine wpAnyH_done (by kernel_rfl) ?_ _
      go_wp2_with fail
      go_ret
      exact ⟨rfl, B_17.out.trans (bN.mono B_17.out.size)⟩
end Go.Proofs.Ytpaehhlhngilcaa
