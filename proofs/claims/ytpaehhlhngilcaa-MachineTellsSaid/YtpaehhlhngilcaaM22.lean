import Derived.Test.YtpaehhlhngilcaaM10
/- what is reached of it -/
namespace Go.Proofs.Ytpaehhlhngilcaa
open Go.RowKit
set_option maxHeartbeats 16000000 in
set_option maxRecDepth 100000 in
theorem rstep_any (m : Mod) (z : Int) (w : World) : Calls Try.prog 11 #[agM m, .int .i64 z] w fun e w' => e = .returned (.tuple #[agM (stepM m z), .bool (!decide (stepM m z = m))]) ∧ Below w.heap.size w w' := by
  have HNQ := Lib.hid (fun (n : Mod) W => neqM n m W)
  have HGQ := Lib.hid (fun (n : Mod) x y W => eqGuardM .neq x y n m W)
  obtain ⟨R, hR⟩ : ∃ R, stepM m z = R := ⟨_, rfl⟩
  obtain ⟨nb, hnb⟩ : ∃ nb, (!decide (R = m)) = nb := ⟨_, rfl⟩
  rw [hR, hnb]
  obtain ⟨a, b, c, d, f⟩ := m
  obtain ⟨W2, hW2, k1, k2, b2⟩ := box_two a b c d f w
  obtain ⟨p, hp⟩ : ∃ p, w.heap.size = p := ⟨_, rfl⟩
  obtain ⟨q, hq⟩ : ∃ q, p + 1 = q := ⟨_, rfl⟩
  rw [hp, hq] at k2
  rw [hp] at k1 b2
  obtain ⟨W3, hW3⟩ : ∃ W3, W2.alloc (.cells #[.bool a, .bool b, .bool c, .bool d, .bool f] 23) = W3 := ⟨_, rfl⟩
  obtain ⟨r, hr⟩ : ∃ r, W2.heap.size = r := ⟨_, rfl⟩
  have b23 : Below W2.heap.size W2 W3 := by rw [← hW3]; exact (Below.refl _ _).alloc (Nat.le_refl _) _
  have K1 := Lib.hid (k1.below b23 k1.lt)
  have K2 := Lib.hid (k2.below b23 k2.lt)
  have K3 : Hid (Bk W3 r 23 #[.bool a, .bool b, .bool c, .bool d, .bool f]) := by rw [← hW3, ← hr]; exact Bk.new _ _ _
  have B3 : Hid (Below p w W3) := b2.trans (b23.mono (by have := k1.lt; omega))
  have HNE : Hid (p < q ∧ q < r) := by have := k2.lt; unfold Hid; omega
  have i0 : W2.cell? ⟨p, 0, none⟩ = some (.bool a) := k1.cell 0
  have i1 : W2.cell? ⟨p, 1, none⟩ = some (.bool b) := k1.cell 1
  have i2 : W2.cell? ⟨p, 2, none⟩ = some (.bool c) := k1.cell 2
  have i3 : W2.cell? ⟨p, 3, none⟩ = some (.bool d) := k1.cell 3
  have i4 : W2.cell? ⟨p, 4, none⟩ = some (.bool f) := k1.cell 4
  have HW2 := Lib.hid hW2
  have HW3 := Lib.hid hW3
  have HRR := Lib.hid hr
  have HP := Lib.hid hp
  have HQ := Lib.hid hq
  have HR := Lib.hid hR
  have HNB := Lib.hid hnb
  clear hW2 hp hq b2 k1 k2 hW3 hr b23 hR hnb
  rw [← agM_mk]
  go_enter Try.func11, Try.ntmps11
  go_upto_region 1 with fail
  (try rw [HW2.out])
  (try rw [HP.out])
  (try rw [HQ.out])
  go_upto_region 2 with fail
  (try rw [HW3.out])
  (try rw [HRR.out])
  clear i0 i1 i2 i3 i4
  have hne : ¬ q = p := by have := HNE.out; omega
  have hne2 : ¬ p = q := by have := HNE.out; omega
  have hn3 : ¬ r = p := by have := HNE.out; omega
  have hn4 : ¬ p = r := by have := HNE.out; omega
  have hn5 : ¬ r = q := by have := HNE.out; omega
  have hn6 : ¬ q = r := by have := HNE.out; omega
  have c0 : W3.cell? ⟨p, 0, none⟩ = some (.bool a) := K1.out.cell 0
  have g0 : W3.frozen? ⟨p, 0, none⟩ = false := K1.out.free 0
  have c1 : W3.cell? ⟨p, 1, none⟩ = some (.bool b) := K1.out.cell 1
  have g1 : W3.frozen? ⟨p, 1, none⟩ = false := K1.out.free 1
  have c2 : W3.cell? ⟨p, 2, none⟩ = some (.bool c) := K1.out.cell 2
  have g2 : W3.frozen? ⟨p, 2, none⟩ = false := K1.out.free 2
  have c3 : W3.cell? ⟨p, 3, none⟩ = some (.bool d) := K1.out.cell 3
  have g3 : W3.frozen? ⟨p, 3, none⟩ = false := K1.out.free 3
  have c4 : W3.cell? ⟨p, 4, none⟩ = some (.bool f) := K1.out.cell 4
  have g4 : W3.frozen? ⟨p, 4, none⟩ = false := K1.out.free 4
  by_cases h1 : z = 1
  · subst h1
    cases c
    · skip
      cases a
      · skip
        obtain ⟨w4, hw4⟩ : ∃ z, (W3.setCell ⟨p, 2, none⟩ (.bool true)) = z := ⟨_, rfl⟩
        have l1 : Bk w4 p 23 #[.bool false, .bool b, .bool true, .bool d, .bool f] := by rw [← hw4]; simpa using (K1.out.put 2 (.bool true))
        have l2 : Bk w4 q 23 #[.bool false, .bool false, .bool false, .bool false, .bool false] := by rw [← hw4]; exact (K2.out.far (p := ⟨p, 2, none⟩) hne (.bool true))
        have l3 : Bk w4 r 23 #[.bool false, .bool b, .bool false, .bool d, .bool f] := by rw [← hw4]; exact (K3.out.far (p := ⟨p, 2, none⟩) hn3 (.bool true))
        have b4 : Below p w w4 := by rw [← hw4]; exact (B3.out.setCell (p := ⟨p, 2, none⟩) (Nat.le_refl p) (.bool true))
        have m2 := laid5_bk l2 (.bool false) (.bool b) (.bool true) (.bool d) (.bool f)
        have m1 := laid5_far l1 hne2 (.bool false) (.bool b) (.bool true) (.bool d) (.bool f)
        have m3 := laid5_far l3 hn5 (.bool false) (.bool b) (.bool true) (.bool d) (.bool f)
        have b5 := laid5_below b4 (by have := HNE.out; omega : p ≤ q) (.bool false) (.bool b) (.bool true) (.bool d) (.bool f)
        obtain ⟨w5, hw5⟩ : ∃ z, laid5 w4 q (.bool false) (.bool b) (.bool true) (.bool d) (.bool f) = z := ⟨_, rfl⟩
        rw [hw5] at m1 m2 m3 b5
        have R5 := Lib.hid m2
        have B5 := Lib.hid b5
        have s0 : w4.cell? ⟨p, 0, none⟩ = some (.bool false) := l1.cell 0
        have s1 : w4.cell? ⟨p, 1, none⟩ = some (.bool b) := l1.cell 1
        have s2 : w4.cell? ⟨p, 2, none⟩ = some (.bool true) := l1.cell 2
        have s3 : w4.cell? ⟨p, 3, none⟩ = some (.bool d) := l1.cell 3
        have s4 : w4.cell? ⟨p, 4, none⟩ = some (.bool f) := l1.cell 4
        have d0 : w4.cell? ⟨q, 0, none⟩ = some (.bool false) := l2.cell 0
        have e0 : w4.frozen? ⟨q, 0, none⟩ = false := l2.free 0
        have d1 : w4.cell? ⟨q, 1, none⟩ = some (.bool false) := l2.cell 1
        have e1 : w4.frozen? ⟨q, 1, none⟩ = false := l2.free 1
        have d2 : w4.cell? ⟨q, 2, none⟩ = some (.bool false) := l2.cell 2
        have e2 : w4.frozen? ⟨q, 2, none⟩ = false := l2.free 2
        have d3 : w4.cell? ⟨q, 3, none⟩ = some (.bool false) := l2.cell 3
        have e3 : w4.frozen? ⟨q, 3, none⟩ = false := l2.free 3
        have d4 : w4.cell? ⟨q, 4, none⟩ = some (.bool false) := l2.cell 4
        have e4 : w4.frozen? ⟨q, 4, none⟩ = false := l2.free 4
        have t0 : w4.cell? ⟨r, 0, none⟩ = some (.bool false) := l3.cell 0
        have t1 : w4.cell? ⟨r, 1, none⟩ = some (.bool b) := l3.cell 1
        have t2 : w4.cell? ⟨r, 2, none⟩ = some (.bool false) := l3.cell 2
        have t3 : w4.cell? ⟨r, 3, none⟩ = some (.bool d) := l3.cell 3
        have t4 : w4.cell? ⟨r, 4, none⟩ = some (.bool f) := l3.cell 4
        have x0 : w5.cell? ⟨p, 0, none⟩ = some (.bool false) := m1.cell 0
        have x1 : w5.cell? ⟨p, 1, none⟩ = some (.bool b) := m1.cell 1
        have x2 : w5.cell? ⟨p, 2, none⟩ = some (.bool true) := m1.cell 2
        have x3 : w5.cell? ⟨p, 3, none⟩ = some (.bool d) := m1.cell 3
        have x4 : w5.cell? ⟨p, 4, none⟩ = some (.bool f) := m1.cell 4
        have y0 : w5.cell? ⟨r, 0, none⟩ = some (.bool false) := m3.cell 0
        have y1 : w5.cell? ⟨r, 1, none⟩ = some (.bool b) := m3.cell 1
        have y2 : w5.cell? ⟨r, 2, none⟩ = some (.bool false) := m3.cell 2
        have y3 : w5.cell? ⟨r, 3, none⟩ = some (.bool d) := m3.cell 3
        have y4 : w5.cell? ⟨r, 4, none⟩ = some (.bool f) := m3.cell 4
        have hres : (!decide ((⟨false, b, true, d, f⟩ : Mod) = ⟨false, b, false, d, f⟩)) = nb := by rw [← HNB.out, ← HR.out]; rfl
        have q1 : ∀ W, (binOp .neq 23 (.agg #[.bool false, .bool b, .bool true, .bool d, .bool f]) (.agg #[.bool false, .bool b, .bool false, .bool d, .bool f])).run Try.prog W = .ok (.bool nb) W := fun W => by rw [← hres]; exact HNQ.out ⟨false, b, true, d, f⟩ W
        have q2 : ∀ x y W, (eqGuard .neq 23 x y (.agg #[.bool false, .bool b, .bool true, .bool d, .bool f]) (.agg #[.bool false, .bool b, .bool false, .bool d, .bool f])).run Try.prog W = .ok () W := fun x y W => HGQ.out ⟨false, b, true, d, f⟩ x y W
        clear l1 l2 l3 m1 m2 m3 b4 b5 hres
        go_wp2_with fail
        all_goals go_region
        clear q1 q2
        clear s0 s1 s2 s3 s4 d0 d1 d2 d3 d4 t0 t1 t2 t3 t4 x0 x1 x2 x3 x4 y0 y1 y2 y3 y4 e0 e1 e2 e3 e4
        clear hw5
        go_wp2_with fail
        have j0 : w5.drew.cell? ⟨q, 0, none⟩ = some (.bool false) := R5.out.drew.cell 0
        have j1 : w5.drew.cell? ⟨q, 1, none⟩ = some (.bool b) := R5.out.drew.cell 1
        have j2 : w5.drew.cell? ⟨q, 2, none⟩ = some (.bool true) := R5.out.drew.cell 2
        have j3 : w5.drew.cell? ⟨q, 3, none⟩ = some (.bool d) := R5.out.drew.cell 3
        have j4 : w5.drew.cell? ⟨q, 4, none⟩ = some (.bool f) := R5.out.drew.cell 4
        refine bodyPost_ret (v := .tuple #[.agg #[.bool false, .bool b, .bool true, .bool d, .bool f], .bool nb]) (by simp [results, Try.results11, go_sem, j0, j1, j2, j3, j4]) rfl ?_
        rw [HP.out, ← HR.out]
        exact ⟨rfl, B5.out.drew⟩
      · skip
        obtain ⟨w4, hw4⟩ : ∃ z, (W3.setCell ⟨p, 2, none⟩ (.bool false)) = z := ⟨_, rfl⟩
        have l1 : Bk w4 p 23 #[.bool true, .bool b, .bool false, .bool d, .bool f] := by rw [← hw4]; simpa using (K1.out.put 2 (.bool false))
        have l2 : Bk w4 q 23 #[.bool false, .bool false, .bool false, .bool false, .bool false] := by rw [← hw4]; exact (K2.out.far (p := ⟨p, 2, none⟩) hne (.bool false))
        have l3 : Bk w4 r 23 #[.bool true, .bool b, .bool false, .bool d, .bool f] := by rw [← hw4]; exact (K3.out.far (p := ⟨p, 2, none⟩) hn3 (.bool false))
        have b4 : Below p w w4 := by rw [← hw4]; exact (B3.out.setCell (p := ⟨p, 2, none⟩) (Nat.le_refl p) (.bool false))
        have m2 := laid5_bk l2 (.bool true) (.bool b) (.bool false) (.bool d) (.bool f)
        have m1 := laid5_far l1 hne2 (.bool true) (.bool b) (.bool false) (.bool d) (.bool f)
        have m3 := laid5_far l3 hn5 (.bool true) (.bool b) (.bool false) (.bool d) (.bool f)
        have b5 := laid5_below b4 (by have := HNE.out; omega : p ≤ q) (.bool true) (.bool b) (.bool false) (.bool d) (.bool f)
        obtain ⟨w5, hw5⟩ : ∃ z, laid5 w4 q (.bool true) (.bool b) (.bool false) (.bool d) (.bool f) = z := ⟨_, rfl⟩
        rw [hw5] at m1 m2 m3 b5
        have R5 := Lib.hid m2
        have B5 := Lib.hid b5
        have s0 : w4.cell? ⟨p, 0, none⟩ = some (.bool true) := l1.cell 0
        have s1 : w4.cell? ⟨p, 1, none⟩ = some (.bool b) := l1.cell 1
        have s2 : w4.cell? ⟨p, 2, none⟩ = some (.bool false) := l1.cell 2
        have s3 : w4.cell? ⟨p, 3, none⟩ = some (.bool d) := l1.cell 3
        have s4 : w4.cell? ⟨p, 4, none⟩ = some (.bool f) := l1.cell 4
        have d0 : w4.cell? ⟨q, 0, none⟩ = some (.bool false) := l2.cell 0
        have e0 : w4.frozen? ⟨q, 0, none⟩ = false := l2.free 0
        have d1 : w4.cell? ⟨q, 1, none⟩ = some (.bool false) := l2.cell 1
        have e1 : w4.frozen? ⟨q, 1, none⟩ = false := l2.free 1
        have d2 : w4.cell? ⟨q, 2, none⟩ = some (.bool false) := l2.cell 2
        have e2 : w4.frozen? ⟨q, 2, none⟩ = false := l2.free 2
        have d3 : w4.cell? ⟨q, 3, none⟩ = some (.bool false) := l2.cell 3
        have e3 : w4.frozen? ⟨q, 3, none⟩ = false := l2.free 3
        have d4 : w4.cell? ⟨q, 4, none⟩ = some (.bool false) := l2.cell 4
        have e4 : w4.frozen? ⟨q, 4, none⟩ = false := l2.free 4
        have t0 : w4.cell? ⟨r, 0, none⟩ = some (.bool true) := l3.cell 0
        have t1 : w4.cell? ⟨r, 1, none⟩ = some (.bool b) := l3.cell 1
        have t2 : w4.cell? ⟨r, 2, none⟩ = some (.bool false) := l3.cell 2
        have t3 : w4.cell? ⟨r, 3, none⟩ = some (.bool d) := l3.cell 3
        have t4 : w4.cell? ⟨r, 4, none⟩ = some (.bool f) := l3.cell 4
        have x0 : w5.cell? ⟨p, 0, none⟩ = some (.bool true) := m1.cell 0
        have x1 : w5.cell? ⟨p, 1, none⟩ = some (.bool b) := m1.cell 1
        have x2 : w5.cell? ⟨p, 2, none⟩ = some (.bool false) := m1.cell 2
        have x3 : w5.cell? ⟨p, 3, none⟩ = some (.bool d) := m1.cell 3
        have x4 : w5.cell? ⟨p, 4, none⟩ = some (.bool f) := m1.cell 4
        have y0 : w5.cell? ⟨r, 0, none⟩ = some (.bool true) := m3.cell 0
        have y1 : w5.cell? ⟨r, 1, none⟩ = some (.bool b) := m3.cell 1
        have y2 : w5.cell? ⟨r, 2, none⟩ = some (.bool false) := m3.cell 2
        have y3 : w5.cell? ⟨r, 3, none⟩ = some (.bool d) := m3.cell 3
        have y4 : w5.cell? ⟨r, 4, none⟩ = some (.bool f) := m3.cell 4
        have hres : (!decide ((⟨true, b, false, d, f⟩ : Mod) = ⟨true, b, false, d, f⟩)) = nb := by rw [← HNB.out, ← HR.out]; rfl
        have q1 : ∀ W, (binOp .neq 23 (.agg #[.bool true, .bool b, .bool false, .bool d, .bool f]) (.agg #[.bool true, .bool b, .bool false, .bool d, .bool f])).run Try.prog W = .ok (.bool nb) W := fun W => by rw [← hres]; exact HNQ.out ⟨true, b, false, d, f⟩ W
        have q2 : ∀ x y W, (eqGuard .neq 23 x y (.agg #[.bool true, .bool b, .bool false, .bool d, .bool f]) (.agg #[.bool true, .bool b, .bool false, .bool d, .bool f])).run Try.prog W = .ok () W := fun x y W => HGQ.out ⟨true, b, false, d, f⟩ x y W
        clear l1 l2 l3 m1 m2 m3 b4 b5 hres
        go_wp2_with fail
        all_goals go_region
        clear q1 q2
        clear s0 s1 s2 s3 s4 d0 d1 d2 d3 d4 t0 t1 t2 t3 t4 x0 x1 x2 x3 x4 y0 y1 y2 y3 y4 e0 e1 e2 e3 e4
        clear hw5
        go_wp2_with fail
        have j0 : w5.drew.cell? ⟨q, 0, none⟩ = some (.bool true) := R5.out.drew.cell 0
        have j1 : w5.drew.cell? ⟨q, 1, none⟩ = some (.bool b) := R5.out.drew.cell 1
        have j2 : w5.drew.cell? ⟨q, 2, none⟩ = some (.bool false) := R5.out.drew.cell 2
        have j3 : w5.drew.cell? ⟨q, 3, none⟩ = some (.bool d) := R5.out.drew.cell 3
        have j4 : w5.drew.cell? ⟨q, 4, none⟩ = some (.bool f) := R5.out.drew.cell 4
        refine bodyPost_ret (v := .tuple #[.agg #[.bool true, .bool b, .bool false, .bool d, .bool f], .bool nb]) (by simp [results, Try.results11, go_sem, j0, j1, j2, j3, j4]) rfl ?_
        rw [HP.out, ← HR.out]
        exact ⟨rfl, B5.out.drew⟩
    · skip
      obtain ⟨w4, hw4⟩ : ∃ z, (W3.setCell ⟨p, 2, none⟩ (.bool true)) = z := ⟨_, rfl⟩
      have l1 : Bk w4 p 23 #[.bool a, .bool b, .bool true, .bool d, .bool f] := by rw [← hw4]; simpa using (K1.out.put 2 (.bool true))
      have l2 : Bk w4 q 23 #[.bool false, .bool false, .bool false, .bool false, .bool false] := by rw [← hw4]; exact (K2.out.far (p := ⟨p, 2, none⟩) hne (.bool true))
      have l3 : Bk w4 r 23 #[.bool a, .bool b, .bool true, .bool d, .bool f] := by rw [← hw4]; exact (K3.out.far (p := ⟨p, 2, none⟩) hn3 (.bool true))
      have b4 : Below p w w4 := by rw [← hw4]; exact (B3.out.setCell (p := ⟨p, 2, none⟩) (Nat.le_refl p) (.bool true))
      have m2 := laid5_bk l2 (.bool a) (.bool b) (.bool true) (.bool d) (.bool f)
      have m1 := laid5_far l1 hne2 (.bool a) (.bool b) (.bool true) (.bool d) (.bool f)
      have m3 := laid5_far l3 hn5 (.bool a) (.bool b) (.bool true) (.bool d) (.bool f)
      have b5 := laid5_below b4 (by have := HNE.out; omega : p ≤ q) (.bool a) (.bool b) (.bool true) (.bool d) (.bool f)
      obtain ⟨w5, hw5⟩ : ∃ z, laid5 w4 q (.bool a) (.bool b) (.bool true) (.bool d) (.bool f) = z := ⟨_, rfl⟩
      rw [hw5] at m1 m2 m3 b5
      have R5 := Lib.hid m2
      have B5 := Lib.hid b5
      have s0 : w4.cell? ⟨p, 0, none⟩ = some (.bool a) := l1.cell 0
      have s1 : w4.cell? ⟨p, 1, none⟩ = some (.bool b) := l1.cell 1
      have s2 : w4.cell? ⟨p, 2, none⟩ = some (.bool true) := l1.cell 2
      have s3 : w4.cell? ⟨p, 3, none⟩ = some (.bool d) := l1.cell 3
      have s4 : w4.cell? ⟨p, 4, none⟩ = some (.bool f) := l1.cell 4
      have d0 : w4.cell? ⟨q, 0, none⟩ = some (.bool false) := l2.cell 0
      have e0 : w4.frozen? ⟨q, 0, none⟩ = false := l2.free 0
      have d1 : w4.cell? ⟨q, 1, none⟩ = some (.bool false) := l2.cell 1
      have e1 : w4.frozen? ⟨q, 1, none⟩ = false := l2.free 1
      have d2 : w4.cell? ⟨q, 2, none⟩ = some (.bool false) := l2.cell 2
      have e2 : w4.frozen? ⟨q, 2, none⟩ = false := l2.free 2
      have d3 : w4.cell? ⟨q, 3, none⟩ = some (.bool false) := l2.cell 3
      have e3 : w4.frozen? ⟨q, 3, none⟩ = false := l2.free 3
      have d4 : w4.cell? ⟨q, 4, none⟩ = some (.bool false) := l2.cell 4
      have e4 : w4.frozen? ⟨q, 4, none⟩ = false := l2.free 4
      have t0 : w4.cell? ⟨r, 0, none⟩ = some (.bool a) := l3.cell 0
      have t1 : w4.cell? ⟨r, 1, none⟩ = some (.bool b) := l3.cell 1
      have t2 : w4.cell? ⟨r, 2, none⟩ = some (.bool true) := l3.cell 2
      have t3 : w4.cell? ⟨r, 3, none⟩ = some (.bool d) := l3.cell 3
      have t4 : w4.cell? ⟨r, 4, none⟩ = some (.bool f) := l3.cell 4
      have x0 : w5.cell? ⟨p, 0, none⟩ = some (.bool a) := m1.cell 0
      have x1 : w5.cell? ⟨p, 1, none⟩ = some (.bool b) := m1.cell 1
      have x2 : w5.cell? ⟨p, 2, none⟩ = some (.bool true) := m1.cell 2
      have x3 : w5.cell? ⟨p, 3, none⟩ = some (.bool d) := m1.cell 3
      have x4 : w5.cell? ⟨p, 4, none⟩ = some (.bool f) := m1.cell 4
      have y0 : w5.cell? ⟨r, 0, none⟩ = some (.bool a) := m3.cell 0
      have y1 : w5.cell? ⟨r, 1, none⟩ = some (.bool b) := m3.cell 1
      have y2 : w5.cell? ⟨r, 2, none⟩ = some (.bool true) := m3.cell 2
      have y3 : w5.cell? ⟨r, 3, none⟩ = some (.bool d) := m3.cell 3
      have y4 : w5.cell? ⟨r, 4, none⟩ = some (.bool f) := m3.cell 4
      have hres : (!decide ((⟨a, b, true, d, f⟩ : Mod) = ⟨a, b, true, d, f⟩)) = nb := by rw [← HNB.out, ← HR.out]; rfl
      have q1 : ∀ W, (binOp .neq 23 (.agg #[.bool a, .bool b, .bool true, .bool d, .bool f]) (.agg #[.bool a, .bool b, .bool true, .bool d, .bool f])).run Try.prog W = .ok (.bool nb) W := fun W => by rw [← hres]; exact HNQ.out ⟨a, b, true, d, f⟩ W
      have q2 : ∀ x y W, (eqGuard .neq 23 x y (.agg #[.bool a, .bool b, .bool true, .bool d, .bool f]) (.agg #[.bool a, .bool b, .bool true, .bool d, .bool f])).run Try.prog W = .ok () W := fun x y W => HGQ.out ⟨a, b, true, d, f⟩ x y W
      clear l1 l2 l3 m1 m2 m3 b4 b5 hres
      go_wp2_with fail
      all_goals go_region
      clear q1 q2
      clear s0 s1 s2 s3 s4 d0 d1 d2 d3 d4 t0 t1 t2 t3 t4 x0 x1 x2 x3 x4 y0 y1 y2 y3 y4 e0 e1 e2 e3 e4
      clear hw5
      go_wp2_with fail
      have j0 : w5.drew.cell? ⟨q, 0, none⟩ = some (.bool a) := R5.out.drew.cell 0
      have j1 : w5.drew.cell? ⟨q, 1, none⟩ = some (.bool b) := R5.out.drew.cell 1
      have j2 : w5.drew.cell? ⟨q, 2, none⟩ = some (.bool true) := R5.out.drew.cell 2
      have j3 : w5.drew.cell? ⟨q, 3, none⟩ = some (.bool d) := R5.out.drew.cell 3
      have j4 : w5.drew.cell? ⟨q, 4, none⟩ = some (.bool f) := R5.out.drew.cell 4
      refine bodyPost_ret (v := .tuple #[.agg #[.bool a, .bool b, .bool true, .bool d, .bool f], .bool nb]) (by simp [results, Try.results11, go_sem, j0, j1, j2, j3, j4]) rfl ?_
      rw [HP.out, ← HR.out]
      exact ⟨rfl, B5.out.drew⟩
  by_cases h2 : z = 2
  · subst h2
    obtain ⟨w4, hw4⟩ : ∃ z, ((W3.setCell ⟨p, 0, none⟩ (.bool false)).setCell ⟨p, 2, none⟩ (.bool false)) = z := ⟨_, rfl⟩
    have l1 : Bk w4 p 23 #[.bool false, .bool b, .bool false, .bool d, .bool f] := by rw [← hw4]; simpa using ((K1.out.put 0 (.bool false)).put 2 (.bool false))
    have l2 : Bk w4 q 23 #[.bool false, .bool false, .bool false, .bool false, .bool false] := by rw [← hw4]; exact ((K2.out.far (p := ⟨p, 0, none⟩) hne (.bool false)).far (p := ⟨p, 2, none⟩) hne (.bool false))
    have l3 : Bk w4 r 23 #[.bool a, .bool b, .bool c, .bool d, .bool f] := by rw [← hw4]; exact ((K3.out.far (p := ⟨p, 0, none⟩) hn3 (.bool false)).far (p := ⟨p, 2, none⟩) hn3 (.bool false))
    have b4 : Below p w w4 := by rw [← hw4]; exact ((B3.out.setCell (p := ⟨p, 0, none⟩) (Nat.le_refl p) (.bool false)).setCell (p := ⟨p, 2, none⟩) (Nat.le_refl p) (.bool false))
    have m2 := laid5_bk l2 (.bool false) (.bool b) (.bool false) (.bool d) (.bool f)
    have m1 := laid5_far l1 hne2 (.bool false) (.bool b) (.bool false) (.bool d) (.bool f)
    have m3 := laid5_far l3 hn5 (.bool false) (.bool b) (.bool false) (.bool d) (.bool f)
    have b5 := laid5_below b4 (by have := HNE.out; omega : p ≤ q) (.bool false) (.bool b) (.bool false) (.bool d) (.bool f)
    obtain ⟨w5, hw5⟩ : ∃ z, laid5 w4 q (.bool false) (.bool b) (.bool false) (.bool d) (.bool f) = z := ⟨_, rfl⟩
    rw [hw5] at m1 m2 m3 b5
    have R5 := Lib.hid m2
    have B5 := Lib.hid b5
    have s0 : w4.cell? ⟨p, 0, none⟩ = some (.bool false) := l1.cell 0
    have s1 : w4.cell? ⟨p, 1, none⟩ = some (.bool b) := l1.cell 1
    have s2 : w4.cell? ⟨p, 2, none⟩ = some (.bool false) := l1.cell 2
    have s3 : w4.cell? ⟨p, 3, none⟩ = some (.bool d) := l1.cell 3
    have s4 : w4.cell? ⟨p, 4, none⟩ = some (.bool f) := l1.cell 4
    have d0 : w4.cell? ⟨q, 0, none⟩ = some (.bool false) := l2.cell 0
    have e0 : w4.frozen? ⟨q, 0, none⟩ = false := l2.free 0
    have d1 : w4.cell? ⟨q, 1, none⟩ = some (.bool false) := l2.cell 1
    have e1 : w4.frozen? ⟨q, 1, none⟩ = false := l2.free 1
    have d2 : w4.cell? ⟨q, 2, none⟩ = some (.bool false) := l2.cell 2
    have e2 : w4.frozen? ⟨q, 2, none⟩ = false := l2.free 2
    have d3 : w4.cell? ⟨q, 3, none⟩ = some (.bool false) := l2.cell 3
    have e3 : w4.frozen? ⟨q, 3, none⟩ = false := l2.free 3
    have d4 : w4.cell? ⟨q, 4, none⟩ = some (.bool false) := l2.cell 4
    have e4 : w4.frozen? ⟨q, 4, none⟩ = false := l2.free 4
    have t0 : w4.cell? ⟨r, 0, none⟩ = some (.bool a) := l3.cell 0
    have t1 : w4.cell? ⟨r, 1, none⟩ = some (.bool b) := l3.cell 1
    have t2 : w4.cell? ⟨r, 2, none⟩ = some (.bool c) := l3.cell 2
    have t3 : w4.cell? ⟨r, 3, none⟩ = some (.bool d) := l3.cell 3
    have t4 : w4.cell? ⟨r, 4, none⟩ = some (.bool f) := l3.cell 4
    have x0 : w5.cell? ⟨p, 0, none⟩ = some (.bool false) := m1.cell 0
    have x1 : w5.cell? ⟨p, 1, none⟩ = some (.bool b) := m1.cell 1
    have x2 : w5.cell? ⟨p, 2, none⟩ = some (.bool false) := m1.cell 2
    have x3 : w5.cell? ⟨p, 3, none⟩ = some (.bool d) := m1.cell 3
    have x4 : w5.cell? ⟨p, 4, none⟩ = some (.bool f) := m1.cell 4
    have y0 : w5.cell? ⟨r, 0, none⟩ = some (.bool a) := m3.cell 0
    have y1 : w5.cell? ⟨r, 1, none⟩ = some (.bool b) := m3.cell 1
    have y2 : w5.cell? ⟨r, 2, none⟩ = some (.bool c) := m3.cell 2
    have y3 : w5.cell? ⟨r, 3, none⟩ = some (.bool d) := m3.cell 3
    have y4 : w5.cell? ⟨r, 4, none⟩ = some (.bool f) := m3.cell 4
    have hres : (!decide ((⟨false, b, false, d, f⟩ : Mod) = ⟨a, b, c, d, f⟩)) = nb := by rw [← HNB.out, ← HR.out]; rfl
    have q1 : ∀ W, (binOp .neq 23 (.agg #[.bool false, .bool b, .bool false, .bool d, .bool f]) (.agg #[.bool a, .bool b, .bool c, .bool d, .bool f])).run Try.prog W = .ok (.bool nb) W := fun W => by rw [← hres]; exact HNQ.out ⟨false, b, false, d, f⟩ W
    have q2 : ∀ x y W, (eqGuard .neq 23 x y (.agg #[.bool false, .bool b, .bool false, .bool d, .bool f]) (.agg #[.bool a, .bool b, .bool c, .bool d, .bool f])).run Try.prog W = .ok () W := fun x y W => HGQ.out ⟨false, b, false, d, f⟩ x y W
    clear l1 l2 l3 m1 m2 m3 b4 b5 hres
    go_wp2_with fail
    all_goals go_region
    clear q1 q2
    clear s0 s1 s2 s3 s4 d0 d1 d2 d3 d4 t0 t1 t2 t3 t4 x0 x1 x2 x3 x4 y0 y1 y2 y3 y4 e0 e1 e2 e3 e4
    clear hw5
    go_wp2_with fail
    have j0 : w5.drew.cell? ⟨q, 0, none⟩ = some (.bool false) := R5.out.drew.cell 0
    have j1 : w5.drew.cell? ⟨q, 1, none⟩ = some (.bool b) := R5.out.drew.cell 1
    have j2 : w5.drew.cell? ⟨q, 2, none⟩ = some (.bool false) := R5.out.drew.cell 2
    have j3 : w5.drew.cell? ⟨q, 3, none⟩ = some (.bool d) := R5.out.drew.cell 3
    have j4 : w5.drew.cell? ⟨q, 4, none⟩ = some (.bool f) := R5.out.drew.cell 4
    refine bodyPost_ret (v := .tuple #[.agg #[.bool false, .bool b, .bool false, .bool d, .bool f], .bool nb]) (by simp [results, Try.results11, go_sem, j0, j1, j2, j3, j4]) rfl ?_
    rw [HP.out, ← HR.out]
    exact ⟨rfl, B5.out.drew⟩
  by_cases h3 : z = 3
  · subst h3
    cases d
    · skip
      cases b
      · skip
        obtain ⟨w4, hw4⟩ : ∃ z, (W3.setCell ⟨p, 4, none⟩ (.bool true)) = z := ⟨_, rfl⟩
        have l1 : Bk w4 p 23 #[.bool a, .bool false, .bool c, .bool false, .bool true] := by rw [← hw4]; simpa using (K1.out.put 4 (.bool true))
        have l2 : Bk w4 q 23 #[.bool false, .bool false, .bool false, .bool false, .bool false] := by rw [← hw4]; exact (K2.out.far (p := ⟨p, 4, none⟩) hne (.bool true))
        have l3 : Bk w4 r 23 #[.bool a, .bool false, .bool c, .bool false, .bool f] := by rw [← hw4]; exact (K3.out.far (p := ⟨p, 4, none⟩) hn3 (.bool true))
        have b4 : Below p w w4 := by rw [← hw4]; exact (B3.out.setCell (p := ⟨p, 4, none⟩) (Nat.le_refl p) (.bool true))
        have m2 := laid5_bk l2 (.bool a) (.bool false) (.bool c) (.bool false) (.bool true)
        have m1 := laid5_far l1 hne2 (.bool a) (.bool false) (.bool c) (.bool false) (.bool true)
        have m3 := laid5_far l3 hn5 (.bool a) (.bool false) (.bool c) (.bool false) (.bool true)
        have b5 := laid5_below b4 (by have := HNE.out; omega : p ≤ q) (.bool a) (.bool false) (.bool c) (.bool false) (.bool true)
        obtain ⟨w5, hw5⟩ : ∃ z, laid5 w4 q (.bool a) (.bool false) (.bool c) (.bool false) (.bool true) = z := ⟨_, rfl⟩
        rw [hw5] at m1 m2 m3 b5
        have R5 := Lib.hid m2
        have B5 := Lib.hid b5
        have s0 : w4.cell? ⟨p, 0, none⟩ = some (.bool a) := l1.cell 0
        have s1 : w4.cell? ⟨p, 1, none⟩ = some (.bool false) := l1.cell 1
        have s2 : w4.cell? ⟨p, 2, none⟩ = some (.bool c) := l1.cell 2
        have s3 : w4.cell? ⟨p, 3, none⟩ = some (.bool false) := l1.cell 3
        have s4 : w4.cell? ⟨p, 4, none⟩ = some (.bool true) := l1.cell 4
        have d0 : w4.cell? ⟨q, 0, none⟩ = some (.bool false) := l2.cell 0
        have e0 : w4.frozen? ⟨q, 0, none⟩ = false := l2.free 0
        have d1 : w4.cell? ⟨q, 1, none⟩ = some (.bool false) := l2.cell 1
        have e1 : w4.frozen? ⟨q, 1, none⟩ = false := l2.free 1
        have d2 : w4.cell? ⟨q, 2, none⟩ = some (.bool false) := l2.cell 2
        have e2 : w4.frozen? ⟨q, 2, none⟩ = false := l2.free 2
        have d3 : w4.cell? ⟨q, 3, none⟩ = some (.bool false) := l2.cell 3
        have e3 : w4.frozen? ⟨q, 3, none⟩ = false := l2.free 3
        have d4 : w4.cell? ⟨q, 4, none⟩ = some (.bool false) := l2.cell 4
        have e4 : w4.frozen? ⟨q, 4, none⟩ = false := l2.free 4
        have t0 : w4.cell? ⟨r, 0, none⟩ = some (.bool a) := l3.cell 0
        have t1 : w4.cell? ⟨r, 1, none⟩ = some (.bool false) := l3.cell 1
        have t2 : w4.cell? ⟨r, 2, none⟩ = some (.bool c) := l3.cell 2
        have t3 : w4.cell? ⟨r, 3, none⟩ = some (.bool false) := l3.cell 3
        have t4 : w4.cell? ⟨r, 4, none⟩ = some (.bool f) := l3.cell 4
        have x0 : w5.cell? ⟨p, 0, none⟩ = some (.bool a) := m1.cell 0
        have x1 : w5.cell? ⟨p, 1, none⟩ = some (.bool false) := m1.cell 1
        have x2 : w5.cell? ⟨p, 2, none⟩ = some (.bool c) := m1.cell 2
        have x3 : w5.cell? ⟨p, 3, none⟩ = some (.bool false) := m1.cell 3
        have x4 : w5.cell? ⟨p, 4, none⟩ = some (.bool true) := m1.cell 4
        have y0 : w5.cell? ⟨r, 0, none⟩ = some (.bool a) := m3.cell 0
        have y1 : w5.cell? ⟨r, 1, none⟩ = some (.bool false) := m3.cell 1
        have y2 : w5.cell? ⟨r, 2, none⟩ = some (.bool c) := m3.cell 2
        have y3 : w5.cell? ⟨r, 3, none⟩ = some (.bool false) := m3.cell 3
        have y4 : w5.cell? ⟨r, 4, none⟩ = some (.bool f) := m3.cell 4
        have hres : (!decide ((⟨a, false, c, false, true⟩ : Mod) = ⟨a, false, c, false, f⟩)) = nb := by rw [← HNB.out, ← HR.out]; rfl
        have q1 : ∀ W, (binOp .neq 23 (.agg #[.bool a, .bool false, .bool c, .bool false, .bool true]) (.agg #[.bool a, .bool false, .bool c, .bool false, .bool f])).run Try.prog W = .ok (.bool nb) W := fun W => by rw [← hres]; exact HNQ.out ⟨a, false, c, false, true⟩ W
        have q2 : ∀ x y W, (eqGuard .neq 23 x y (.agg #[.bool a, .bool false, .bool c, .bool false, .bool true]) (.agg #[.bool a, .bool false, .bool c, .bool false, .bool f])).run Try.prog W = .ok () W := fun x y W => HGQ.out ⟨a, false, c, false, true⟩ x y W
        clear l1 l2 l3 m1 m2 m3 b4 b5 hres
        go_wp2_with fail
        all_goals go_region
        clear q1 q2
        clear s0 s1 s2 s3 s4 d0 d1 d2 d3 d4 t0 t1 t2 t3 t4 x0 x1 x2 x3 x4 y0 y1 y2 y3 y4 e0 e1 e2 e3 e4
        clear hw5
        go_wp2_with fail
        have j0 : w5.drew.cell? ⟨q, 0, none⟩ = some (.bool a) := R5.out.drew.cell 0
        have j1 : w5.drew.cell? ⟨q, 1, none⟩ = some (.bool false) := R5.out.drew.cell 1
        have j2 : w5.drew.cell? ⟨q, 2, none⟩ = some (.bool c) := R5.out.drew.cell 2
        have j3 : w5.drew.cell? ⟨q, 3, none⟩ = some (.bool false) := R5.out.drew.cell 3
        have j4 : w5.drew.cell? ⟨q, 4, none⟩ = some (.bool true) := R5.out.drew.cell 4
        refine bodyPost_ret (v := .tuple #[.agg #[.bool a, .bool false, .bool c, .bool false, .bool true], .bool nb]) (by simp [results, Try.results11, go_sem, j0, j1, j2, j3, j4]) rfl ?_
        rw [HP.out, ← HR.out]
        exact ⟨rfl, B5.out.drew⟩
      · skip
        obtain ⟨w4, hw4⟩ : ∃ z, W3 = z := ⟨_, rfl⟩
        have l1 : Bk w4 p 23 #[.bool a, .bool true, .bool c, .bool false, .bool f] := by rw [← hw4]; simpa using K1.out
        have l2 : Bk w4 q 23 #[.bool false, .bool false, .bool false, .bool false, .bool false] := by rw [← hw4]; exact K2.out
        have l3 : Bk w4 r 23 #[.bool a, .bool true, .bool c, .bool false, .bool f] := by rw [← hw4]; exact K3.out
        have b4 : Below p w w4 := by rw [← hw4]; exact B3.out
        have m2 := laid5_bk l2 (.bool a) (.bool true) (.bool c) (.bool false) (.bool f)
        have m1 := laid5_far l1 hne2 (.bool a) (.bool true) (.bool c) (.bool false) (.bool f)
        have m3 := laid5_far l3 hn5 (.bool a) (.bool true) (.bool c) (.bool false) (.bool f)
        have b5 := laid5_below b4 (by have := HNE.out; omega : p ≤ q) (.bool a) (.bool true) (.bool c) (.bool false) (.bool f)
        obtain ⟨w5, hw5⟩ : ∃ z, laid5 w4 q (.bool a) (.bool true) (.bool c) (.bool false) (.bool f) = z := ⟨_, rfl⟩
        rw [hw5] at m1 m2 m3 b5
        have R5 := Lib.hid m2
        have B5 := Lib.hid b5
        have s0 : w4.cell? ⟨p, 0, none⟩ = some (.bool a) := l1.cell 0
        have s1 : w4.cell? ⟨p, 1, none⟩ = some (.bool true) := l1.cell 1
        have s2 : w4.cell? ⟨p, 2, none⟩ = some (.bool c) := l1.cell 2
        have s3 : w4.cell? ⟨p, 3, none⟩ = some (.bool false) := l1.cell 3
        have s4 : w4.cell? ⟨p, 4, none⟩ = some (.bool f) := l1.cell 4
        have d0 : w4.cell? ⟨q, 0, none⟩ = some (.bool false) := l2.cell 0
        have e0 : w4.frozen? ⟨q, 0, none⟩ = false := l2.free 0
        have d1 : w4.cell? ⟨q, 1, none⟩ = some (.bool false) := l2.cell 1
        have e1 : w4.frozen? ⟨q, 1, none⟩ = false := l2.free 1
        have d2 : w4.cell? ⟨q, 2, none⟩ = some (.bool false) := l2.cell 2
        have e2 : w4.frozen? ⟨q, 2, none⟩ = false := l2.free 2
        have d3 : w4.cell? ⟨q, 3, none⟩ = some (.bool false) := l2.cell 3
        have e3 : w4.frozen? ⟨q, 3, none⟩ = false := l2.free 3
        have d4 : w4.cell? ⟨q, 4, none⟩ = some (.bool false) := l2.cell 4
        have e4 : w4.frozen? ⟨q, 4, none⟩ = false := l2.free 4
        have t0 : w4.cell? ⟨r, 0, none⟩ = some (.bool a) := l3.cell 0
        have t1 : w4.cell? ⟨r, 1, none⟩ = some (.bool true) := l3.cell 1
        have t2 : w4.cell? ⟨r, 2, none⟩ = some (.bool c) := l3.cell 2
        have t3 : w4.cell? ⟨r, 3, none⟩ = some (.bool false) := l3.cell 3
        have t4 : w4.cell? ⟨r, 4, none⟩ = some (.bool f) := l3.cell 4
        have x0 : w5.cell? ⟨p, 0, none⟩ = some (.bool a) := m1.cell 0
        have x1 : w5.cell? ⟨p, 1, none⟩ = some (.bool true) := m1.cell 1
        have x2 : w5.cell? ⟨p, 2, none⟩ = some (.bool c) := m1.cell 2
        have x3 : w5.cell? ⟨p, 3, none⟩ = some (.bool false) := m1.cell 3
        have x4 : w5.cell? ⟨p, 4, none⟩ = some (.bool f) := m1.cell 4
        have y0 : w5.cell? ⟨r, 0, none⟩ = some (.bool a) := m3.cell 0
        have y1 : w5.cell? ⟨r, 1, none⟩ = some (.bool true) := m3.cell 1
        have y2 : w5.cell? ⟨r, 2, none⟩ = some (.bool c) := m3.cell 2
        have y3 : w5.cell? ⟨r, 3, none⟩ = some (.bool false) := m3.cell 3
        have y4 : w5.cell? ⟨r, 4, none⟩ = some (.bool f) := m3.cell 4
        have hres : (!decide ((⟨a, true, c, false, f⟩ : Mod) = ⟨a, true, c, false, f⟩)) = nb := by rw [← HNB.out, ← HR.out]; rfl
        have q1 : ∀ W, (binOp .neq 23 (.agg #[.bool a, .bool true, .bool c, .bool false, .bool f]) (.agg #[.bool a, .bool true, .bool c, .bool false, .bool f])).run Try.prog W = .ok (.bool nb) W := fun W => by rw [← hres]; exact HNQ.out ⟨a, true, c, false, f⟩ W
        have q2 : ∀ x y W, (eqGuard .neq 23 x y (.agg #[.bool a, .bool true, .bool c, .bool false, .bool f]) (.agg #[.bool a, .bool true, .bool c, .bool false, .bool f])).run Try.prog W = .ok () W := fun x y W => HGQ.out ⟨a, true, c, false, f⟩ x y W
        clear l1 l2 l3 m1 m2 m3 b4 b5 hres
        go_wp2_with fail
        all_goals go_region
        clear q1 q2
        clear s0 s1 s2 s3 s4 d0 d1 d2 d3 d4 t0 t1 t2 t3 t4 x0 x1 x2 x3 x4 y0 y1 y2 y3 y4 e0 e1 e2 e3 e4
        clear hw5
        go_wp2_with fail
        have j0 : w5.drew.cell? ⟨q, 0, none⟩ = some (.bool a) := R5.out.drew.cell 0
        have j1 : w5.drew.cell? ⟨q, 1, none⟩ = some (.bool true) := R5.out.drew.cell 1
        have j2 : w5.drew.cell? ⟨q, 2, none⟩ = some (.bool c) := R5.out.drew.cell 2
        have j3 : w5.drew.cell? ⟨q, 3, none⟩ = some (.bool false) := R5.out.drew.cell 3
        have j4 : w5.drew.cell? ⟨q, 4, none⟩ = some (.bool f) := R5.out.drew.cell 4
        refine bodyPost_ret (v := .tuple #[.agg #[.bool a, .bool true, .bool c, .bool false, .bool f], .bool nb]) (by simp [results, Try.results11, go_sem, j0, j1, j2, j3, j4]) rfl ?_
        rw [HP.out, ← HR.out]
        exact ⟨rfl, B5.out.drew⟩
    · skip
      obtain ⟨w4, hw4⟩ : ∃ z, ((W3.setCell ⟨p, 1, none⟩ (.bool true)).setCell ⟨p, 3, none⟩ (.bool false)) = z := ⟨_, rfl⟩
      have l1 : Bk w4 p 23 #[.bool a, .bool true, .bool c, .bool false, .bool f] := by rw [← hw4]; simpa using ((K1.out.put 1 (.bool true)).put 3 (.bool false))
      have l2 : Bk w4 q 23 #[.bool false, .bool false, .bool false, .bool false, .bool false] := by rw [← hw4]; exact ((K2.out.far (p := ⟨p, 1, none⟩) hne (.bool true)).far (p := ⟨p, 3, none⟩) hne (.bool false))
      have l3 : Bk w4 r 23 #[.bool a, .bool b, .bool c, .bool true, .bool f] := by rw [← hw4]; exact ((K3.out.far (p := ⟨p, 1, none⟩) hn3 (.bool true)).far (p := ⟨p, 3, none⟩) hn3 (.bool false))
      have b4 : Below p w w4 := by rw [← hw4]; exact ((B3.out.setCell (p := ⟨p, 1, none⟩) (Nat.le_refl p) (.bool true)).setCell (p := ⟨p, 3, none⟩) (Nat.le_refl p) (.bool false))
      have m2 := laid5_bk l2 (.bool a) (.bool true) (.bool c) (.bool false) (.bool f)
      have m1 := laid5_far l1 hne2 (.bool a) (.bool true) (.bool c) (.bool false) (.bool f)
      have m3 := laid5_far l3 hn5 (.bool a) (.bool true) (.bool c) (.bool false) (.bool f)
      have b5 := laid5_below b4 (by have := HNE.out; omega : p ≤ q) (.bool a) (.bool true) (.bool c) (.bool false) (.bool f)
      obtain ⟨w5, hw5⟩ : ∃ z, laid5 w4 q (.bool a) (.bool true) (.bool c) (.bool false) (.bool f) = z := ⟨_, rfl⟩
      rw [hw5] at m1 m2 m3 b5
      have R5 := Lib.hid m2
      have B5 := Lib.hid b5
      have s0 : w4.cell? ⟨p, 0, none⟩ = some (.bool a) := l1.cell 0
      have s1 : w4.cell? ⟨p, 1, none⟩ = some (.bool true) := l1.cell 1
      have s2 : w4.cell? ⟨p, 2, none⟩ = some (.bool c) := l1.cell 2
      have s3 : w4.cell? ⟨p, 3, none⟩ = some (.bool false) := l1.cell 3
      have s4 : w4.cell? ⟨p, 4, none⟩ = some (.bool f) := l1.cell 4
      have d0 : w4.cell? ⟨q, 0, none⟩ = some (.bool false) := l2.cell 0
      have e0 : w4.frozen? ⟨q, 0, none⟩ = false := l2.free 0
      have d1 : w4.cell? ⟨q, 1, none⟩ = some (.bool false) := l2.cell 1
      have e1 : w4.frozen? ⟨q, 1, none⟩ = false := l2.free 1
      have d2 : w4.cell? ⟨q, 2, none⟩ = some (.bool false) := l2.cell 2
      have e2 : w4.frozen? ⟨q, 2, none⟩ = false := l2.free 2
      have d3 : w4.cell? ⟨q, 3, none⟩ = some (.bool false) := l2.cell 3
      have e3 : w4.frozen? ⟨q, 3, none⟩ = false := l2.free 3
      have d4 : w4.cell? ⟨q, 4, none⟩ = some (.bool false) := l2.cell 4
      have e4 : w4.frozen? ⟨q, 4, none⟩ = false := l2.free 4
      have t0 : w4.cell? ⟨r, 0, none⟩ = some (.bool a) := l3.cell 0
      have t1 : w4.cell? ⟨r, 1, none⟩ = some (.bool b) := l3.cell 1
      have t2 : w4.cell? ⟨r, 2, none⟩ = some (.bool c) := l3.cell 2
      have t3 : w4.cell? ⟨r, 3, none⟩ = some (.bool true) := l3.cell 3
      have t4 : w4.cell? ⟨r, 4, none⟩ = some (.bool f) := l3.cell 4
      have x0 : w5.cell? ⟨p, 0, none⟩ = some (.bool a) := m1.cell 0
      have x1 : w5.cell? ⟨p, 1, none⟩ = some (.bool true) := m1.cell 1
      have x2 : w5.cell? ⟨p, 2, none⟩ = some (.bool c) := m1.cell 2
      have x3 : w5.cell? ⟨p, 3, none⟩ = some (.bool false) := m1.cell 3
      have x4 : w5.cell? ⟨p, 4, none⟩ = some (.bool f) := m1.cell 4
      have y0 : w5.cell? ⟨r, 0, none⟩ = some (.bool a) := m3.cell 0
      have y1 : w5.cell? ⟨r, 1, none⟩ = some (.bool b) := m3.cell 1
      have y2 : w5.cell? ⟨r, 2, none⟩ = some (.bool c) := m3.cell 2
      have y3 : w5.cell? ⟨r, 3, none⟩ = some (.bool true) := m3.cell 3
      have y4 : w5.cell? ⟨r, 4, none⟩ = some (.bool f) := m3.cell 4
      have hres : (!decide ((⟨a, true, c, false, f⟩ : Mod) = ⟨a, b, c, true, f⟩)) = nb := by rw [← HNB.out, ← HR.out]; rfl
      have q1 : ∀ W, (binOp .neq 23 (.agg #[.bool a, .bool true, .bool c, .bool false, .bool f]) (.agg #[.bool a, .bool b, .bool c, .bool true, .bool f])).run Try.prog W = .ok (.bool nb) W := fun W => by rw [← hres]; exact HNQ.out ⟨a, true, c, false, f⟩ W
      have q2 : ∀ x y W, (eqGuard .neq 23 x y (.agg #[.bool a, .bool true, .bool c, .bool false, .bool f]) (.agg #[.bool a, .bool b, .bool c, .bool true, .bool f])).run Try.prog W = .ok () W := fun x y W => HGQ.out ⟨a, true, c, false, f⟩ x y W
      clear l1 l2 l3 m1 m2 m3 b4 b5 hres
      go_wp2_with fail
      all_goals go_region
      clear q1 q2
      clear s0 s1 s2 s3 s4 d0 d1 d2 d3 d4 t0 t1 t2 t3 t4 x0 x1 x2 x3 x4 y0 y1 y2 y3 y4 e0 e1 e2 e3 e4
      clear hw5
      go_wp2_with fail
      have j0 : w5.drew.cell? ⟨q, 0, none⟩ = some (.bool a) := R5.out.drew.cell 0
      have j1 : w5.drew.cell? ⟨q, 1, none⟩ = some (.bool true) := R5.out.drew.cell 1
      have j2 : w5.drew.cell? ⟨q, 2, none⟩ = some (.bool c) := R5.out.drew.cell 2
      have j3 : w5.drew.cell? ⟨q, 3, none⟩ = some (.bool false) := R5.out.drew.cell 3
      have j4 : w5.drew.cell? ⟨q, 4, none⟩ = some (.bool f) := R5.out.drew.cell 4
      refine bodyPost_ret (v := .tuple #[.agg #[.bool a, .bool true, .bool c, .bool false, .bool f], .bool nb]) (by simp [results, Try.results11, go_sem, j0, j1, j2, j3, j4]) rfl ?_
      rw [HP.out, ← HR.out]
      exact ⟨rfl, B5.out.drew⟩
  by_cases h4 : z = 4
  · subst h4
    obtain ⟨w4, hw4⟩ : ∃ z, (((W3.setCell ⟨p, 1, none⟩ (.bool false)).setCell ⟨p, 3, none⟩ (.bool false)).setCell ⟨p, 4, none⟩ (.bool false)) = z := ⟨_, rfl⟩
    have l1 : Bk w4 p 23 #[.bool a, .bool false, .bool c, .bool false, .bool false] := by rw [← hw4]; simpa using (((K1.out.put 1 (.bool false)).put 3 (.bool false)).put 4 (.bool false))
    have l2 : Bk w4 q 23 #[.bool false, .bool false, .bool false, .bool false, .bool false] := by rw [← hw4]; exact (((K2.out.far (p := ⟨p, 1, none⟩) hne (.bool false)).far (p := ⟨p, 3, none⟩) hne (.bool false)).far (p := ⟨p, 4, none⟩) hne (.bool false))
    have l3 : Bk w4 r 23 #[.bool a, .bool b, .bool c, .bool d, .bool f] := by rw [← hw4]; exact (((K3.out.far (p := ⟨p, 1, none⟩) hn3 (.bool false)).far (p := ⟨p, 3, none⟩) hn3 (.bool false)).far (p := ⟨p, 4, none⟩) hn3 (.bool false))
    have b4 : Below p w w4 := by rw [← hw4]; exact (((B3.out.setCell (p := ⟨p, 1, none⟩) (Nat.le_refl p) (.bool false)).setCell (p := ⟨p, 3, none⟩) (Nat.le_refl p) (.bool false)).setCell (p := ⟨p, 4, none⟩) (Nat.le_refl p) (.bool false))
    have m2 := laid5_bk l2 (.bool a) (.bool false) (.bool c) (.bool false) (.bool false)
    have m1 := laid5_far l1 hne2 (.bool a) (.bool false) (.bool c) (.bool false) (.bool false)
    have m3 := laid5_far l3 hn5 (.bool a) (.bool false) (.bool c) (.bool false) (.bool false)
    have b5 := laid5_below b4 (by have := HNE.out; omega : p ≤ q) (.bool a) (.bool false) (.bool c) (.bool false) (.bool false)
    obtain ⟨w5, hw5⟩ : ∃ z, laid5 w4 q (.bool a) (.bool false) (.bool c) (.bool false) (.bool false) = z := ⟨_, rfl⟩
    rw [hw5] at m1 m2 m3 b5
    have R5 := Lib.hid m2
    have B5 := Lib.hid b5
    have s0 : w4.cell? ⟨p, 0, none⟩ = some (.bool a) := l1.cell 0
    have s1 : w4.cell? ⟨p, 1, none⟩ = some (.bool false) := l1.cell 1
    have s2 : w4.cell? ⟨p, 2, none⟩ = some (.bool c) := l1.cell 2
    have s3 : w4.cell? ⟨p, 3, none⟩ = some (.bool false) := l1.cell 3
    have s4 : w4.cell? ⟨p, 4, none⟩ = some (.bool false) := l1.cell 4
    have d0 : w4.cell? ⟨q, 0, none⟩ = some (.bool false) := l2.cell 0
    have e0 : w4.frozen? ⟨q, 0, none⟩ = false := l2.free 0
    have d1 : w4.cell? ⟨q, 1, none⟩ = some (.bool false) := l2.cell 1
    have e1 : w4.frozen? ⟨q, 1, none⟩ = false := l2.free 1
    have d2 : w4.cell? ⟨q, 2, none⟩ = some (.bool false) := l2.cell 2
    have e2 : w4.frozen? ⟨q, 2, none⟩ = false := l2.free 2
    have d3 : w4.cell? ⟨q, 3, none⟩ = some (.bool false) := l2.cell 3
    have e3 : w4.frozen? ⟨q, 3, none⟩ = false := l2.free 3
    have d4 : w4.cell? ⟨q, 4, none⟩ = some (.bool false) := l2.cell 4
    have e4 : w4.frozen? ⟨q, 4, none⟩ = false := l2.free 4
    have t0 : w4.cell? ⟨r, 0, none⟩ = some (.bool a) := l3.cell 0
    have t1 : w4.cell? ⟨r, 1, none⟩ = some (.bool b) := l3.cell 1
    have t2 : w4.cell? ⟨r, 2, none⟩ = some (.bool c) := l3.cell 2
    have t3 : w4.cell? ⟨r, 3, none⟩ = some (.bool d) := l3.cell 3
    have t4 : w4.cell? ⟨r, 4, none⟩ = some (.bool f) := l3.cell 4
    have x0 : w5.cell? ⟨p, 0, none⟩ = some (.bool a) := m1.cell 0
    have x1 : w5.cell? ⟨p, 1, none⟩ = some (.bool false) := m1.cell 1
    have x2 : w5.cell? ⟨p, 2, none⟩ = some (.bool c) := m1.cell 2
    have x3 : w5.cell? ⟨p, 3, none⟩ = some (.bool false) := m1.cell 3
    have x4 : w5.cell? ⟨p, 4, none⟩ = some (.bool false) := m1.cell 4
    have y0 : w5.cell? ⟨r, 0, none⟩ = some (.bool a) := m3.cell 0
    have y1 : w5.cell? ⟨r, 1, none⟩ = some (.bool b) := m3.cell 1
    have y2 : w5.cell? ⟨r, 2, none⟩ = some (.bool c) := m3.cell 2
    have y3 : w5.cell? ⟨r, 3, none⟩ = some (.bool d) := m3.cell 3
    have y4 : w5.cell? ⟨r, 4, none⟩ = some (.bool f) := m3.cell 4
    have hres : (!decide ((⟨a, false, c, false, false⟩ : Mod) = ⟨a, b, c, d, f⟩)) = nb := by rw [← HNB.out, ← HR.out]; rfl
    have q1 : ∀ W, (binOp .neq 23 (.agg #[.bool a, .bool false, .bool c, .bool false, .bool false]) (.agg #[.bool a, .bool b, .bool c, .bool d, .bool f])).run Try.prog W = .ok (.bool nb) W := fun W => by rw [← hres]; exact HNQ.out ⟨a, false, c, false, false⟩ W
    have q2 : ∀ x y W, (eqGuard .neq 23 x y (.agg #[.bool a, .bool false, .bool c, .bool false, .bool false]) (.agg #[.bool a, .bool b, .bool c, .bool d, .bool f])).run Try.prog W = .ok () W := fun x y W => HGQ.out ⟨a, false, c, false, false⟩ x y W
    clear l1 l2 l3 m1 m2 m3 b4 b5 hres
    go_wp2_with fail
    all_goals go_region
    clear q1 q2
    clear s0 s1 s2 s3 s4 d0 d1 d2 d3 d4 t0 t1 t2 t3 t4 x0 x1 x2 x3 x4 y0 y1 y2 y3 y4 e0 e1 e2 e3 e4
    clear hw5
    go_wp2_with fail
    have j0 : w5.drew.cell? ⟨q, 0, none⟩ = some (.bool a) := R5.out.drew.cell 0
    have j1 : w5.drew.cell? ⟨q, 1, none⟩ = some (.bool false) := R5.out.drew.cell 1
    have j2 : w5.drew.cell? ⟨q, 2, none⟩ = some (.bool c) := R5.out.drew.cell 2
    have j3 : w5.drew.cell? ⟨q, 3, none⟩ = some (.bool false) := R5.out.drew.cell 3
    have j4 : w5.drew.cell? ⟨q, 4, none⟩ = some (.bool false) := R5.out.drew.cell 4
    refine bodyPost_ret (v := .tuple #[.agg #[.bool a, .bool false, .bool c, .bool false, .bool false], .bool nb]) (by simp [results, Try.results11, go_sem, j0, j1, j2, j3, j4]) rfl ?_
    rw [HP.out, ← HR.out]
    exact ⟨rfl, B5.out.drew⟩
  by_cases h5 : z = 5
  · subst h5
    cases b
    · skip
      cases f
      · skip
        obtain ⟨w4, hw4⟩ : ∃ z, (W3.setCell ⟨p, 3, none⟩ (.bool true)) = z := ⟨_, rfl⟩
        have l1 : Bk w4 p 23 #[.bool a, .bool false, .bool c, .bool true, .bool false] := by rw [← hw4]; simpa using (K1.out.put 3 (.bool true))
        have l2 : Bk w4 q 23 #[.bool false, .bool false, .bool false, .bool false, .bool false] := by rw [← hw4]; exact (K2.out.far (p := ⟨p, 3, none⟩) hne (.bool true))
        have l3 : Bk w4 r 23 #[.bool a, .bool false, .bool c, .bool d, .bool false] := by rw [← hw4]; exact (K3.out.far (p := ⟨p, 3, none⟩) hn3 (.bool true))
        have b4 : Below p w w4 := by rw [← hw4]; exact (B3.out.setCell (p := ⟨p, 3, none⟩) (Nat.le_refl p) (.bool true))
        have m2 := laid5_bk l2 (.bool a) (.bool false) (.bool c) (.bool true) (.bool false)
        have m1 := laid5_far l1 hne2 (.bool a) (.bool false) (.bool c) (.bool true) (.bool false)
        have m3 := laid5_far l3 hn5 (.bool a) (.bool false) (.bool c) (.bool true) (.bool false)
        have b5 := laid5_below b4 (by have := HNE.out; omega : p ≤ q) (.bool a) (.bool false) (.bool c) (.bool true) (.bool false)
        obtain ⟨w5, hw5⟩ : ∃ z, laid5 w4 q (.bool a) (.bool false) (.bool c) (.bool true) (.bool false) = z := ⟨_, rfl⟩
        rw [hw5] at m1 m2 m3 b5
        have R5 := Lib.hid m2
        have B5 := Lib.hid b5
        have s0 : w4.cell? ⟨p, 0, none⟩ = some (.bool a) := l1.cell 0
        have s1 : w4.cell? ⟨p, 1, none⟩ = some (.bool false) := l1.cell 1
        have s2 : w4.cell? ⟨p, 2, none⟩ = some (.bool c) := l1.cell 2
        have s3 : w4.cell? ⟨p, 3, none⟩ = some (.bool true) := l1.cell 3
        have s4 : w4.cell? ⟨p, 4, none⟩ = some (.bool false) := l1.cell 4
        have d0 : w4.cell? ⟨q, 0, none⟩ = some (.bool false) := l2.cell 0
        have e0 : w4.frozen? ⟨q, 0, none⟩ = false := l2.free 0
        have d1 : w4.cell? ⟨q, 1, none⟩ = some (.bool false) := l2.cell 1
        have e1 : w4.frozen? ⟨q, 1, none⟩ = false := l2.free 1
        have d2 : w4.cell? ⟨q, 2, none⟩ = some (.bool false) := l2.cell 2
        have e2 : w4.frozen? ⟨q, 2, none⟩ = false := l2.free 2
        have d3 : w4.cell? ⟨q, 3, none⟩ = some (.bool false) := l2.cell 3
        have e3 : w4.frozen? ⟨q, 3, none⟩ = false := l2.free 3
        have d4 : w4.cell? ⟨q, 4, none⟩ = some (.bool false) := l2.cell 4
        have e4 : w4.frozen? ⟨q, 4, none⟩ = false := l2.free 4
        have t0 : w4.cell? ⟨r, 0, none⟩ = some (.bool a) := l3.cell 0
        have t1 : w4.cell? ⟨r, 1, none⟩ = some (.bool false) := l3.cell 1
        have t2 : w4.cell? ⟨r, 2, none⟩ = some (.bool c) := l3.cell 2
        have t3 : w4.cell? ⟨r, 3, none⟩ = some (.bool d) := l3.cell 3
        have t4 : w4.cell? ⟨r, 4, none⟩ = some (.bool false) := l3.cell 4
        have x0 : w5.cell? ⟨p, 0, none⟩ = some (.bool a) := m1.cell 0
        have x1 : w5.cell? ⟨p, 1, none⟩ = some (.bool false) := m1.cell 1
        have x2 : w5.cell? ⟨p, 2, none⟩ = some (.bool c) := m1.cell 2
        have x3 : w5.cell? ⟨p, 3, none⟩ = some (.bool true) := m1.cell 3
        have x4 : w5.cell? ⟨p, 4, none⟩ = some (.bool false) := m1.cell 4
        have y0 : w5.cell? ⟨r, 0, none⟩ = some (.bool a) := m3.cell 0
        have y1 : w5.cell? ⟨r, 1, none⟩ = some (.bool false) := m3.cell 1
        have y2 : w5.cell? ⟨r, 2, none⟩ = some (.bool c) := m3.cell 2
        have y3 : w5.cell? ⟨r, 3, none⟩ = some (.bool d) := m3.cell 3
        have y4 : w5.cell? ⟨r, 4, none⟩ = some (.bool false) := m3.cell 4
        have hres : (!decide ((⟨a, false, c, true, false⟩ : Mod) = ⟨a, false, c, d, false⟩)) = nb := by rw [← HNB.out, ← HR.out]; rfl
        have q1 : ∀ W, (binOp .neq 23 (.agg #[.bool a, .bool false, .bool c, .bool true, .bool false]) (.agg #[.bool a, .bool false, .bool c, .bool d, .bool false])).run Try.prog W = .ok (.bool nb) W := fun W => by rw [← hres]; exact HNQ.out ⟨a, false, c, true, false⟩ W
        have q2 : ∀ x y W, (eqGuard .neq 23 x y (.agg #[.bool a, .bool false, .bool c, .bool true, .bool false]) (.agg #[.bool a, .bool false, .bool c, .bool d, .bool false])).run Try.prog W = .ok () W := fun x y W => HGQ.out ⟨a, false, c, true, false⟩ x y W
        clear l1 l2 l3 m1 m2 m3 b4 b5 hres
        go_wp2_with fail
        all_goals go_region
        clear q1 q2
        clear s0 s1 s2 s3 s4 d0 d1 d2 d3 d4 t0 t1 t2 t3 t4 x0 x1 x2 x3 x4 y0 y1 y2 y3 y4 e0 e1 e2 e3 e4
        clear hw5
        go_wp2_with fail
        have j0 : w5.drew.cell? ⟨q, 0, none⟩ = some (.bool a) := R5.out.drew.cell 0
        have j1 : w5.drew.cell? ⟨q, 1, none⟩ = some (.bool false) := R5.out.drew.cell 1
        have j2 : w5.drew.cell? ⟨q, 2, none⟩ = some (.bool c) := R5.out.drew.cell 2
        have j3 : w5.drew.cell? ⟨q, 3, none⟩ = some (.bool true) := R5.out.drew.cell 3
        have j4 : w5.drew.cell? ⟨q, 4, none⟩ = some (.bool false) := R5.out.drew.cell 4
        refine bodyPost_ret (v := .tuple #[.agg #[.bool a, .bool false, .bool c, .bool true, .bool false], .bool nb]) (by simp [results, Try.results11, go_sem, j0, j1, j2, j3, j4]) rfl ?_
        rw [HP.out, ← HR.out]
        exact ⟨rfl, B5.out.drew⟩
      · skip
        obtain ⟨w4, hw4⟩ : ∃ z, ((W3.setCell ⟨p, 1, none⟩ (.bool true)).setCell ⟨p, 4, none⟩ (.bool false)) = z := ⟨_, rfl⟩
        have l1 : Bk w4 p 23 #[.bool a, .bool true, .bool c, .bool d, .bool false] := by rw [← hw4]; simpa using ((K1.out.put 1 (.bool true)).put 4 (.bool false))
        have l2 : Bk w4 q 23 #[.bool false, .bool false, .bool false, .bool false, .bool false] := by rw [← hw4]; exact ((K2.out.far (p := ⟨p, 1, none⟩) hne (.bool true)).far (p := ⟨p, 4, none⟩) hne (.bool false))
        have l3 : Bk w4 r 23 #[.bool a, .bool false, .bool c, .bool d, .bool true] := by rw [← hw4]; exact ((K3.out.far (p := ⟨p, 1, none⟩) hn3 (.bool true)).far (p := ⟨p, 4, none⟩) hn3 (.bool false))
        have b4 : Below p w w4 := by rw [← hw4]; exact ((B3.out.setCell (p := ⟨p, 1, none⟩) (Nat.le_refl p) (.bool true)).setCell (p := ⟨p, 4, none⟩) (Nat.le_refl p) (.bool false))
        have m2 := laid5_bk l2 (.bool a) (.bool true) (.bool c) (.bool d) (.bool false)
        have m1 := laid5_far l1 hne2 (.bool a) (.bool true) (.bool c) (.bool d) (.bool false)
        have m3 := laid5_far l3 hn5 (.bool a) (.bool true) (.bool c) (.bool d) (.bool false)
        have b5 := laid5_below b4 (by have := HNE.out; omega : p ≤ q) (.bool a) (.bool true) (.bool c) (.bool d) (.bool false)
        obtain ⟨w5, hw5⟩ : ∃ z, laid5 w4 q (.bool a) (.bool true) (.bool c) (.bool d) (.bool false) = z := ⟨_, rfl⟩
        rw [hw5] at m1 m2 m3 b5
        have R5 := Lib.hid m2
        have B5 := Lib.hid b5
        have s0 : w4.cell? ⟨p, 0, none⟩ = some (.bool a) := l1.cell 0
        have s1 : w4.cell? ⟨p, 1, none⟩ = some (.bool true) := l1.cell 1
        have s2 : w4.cell? ⟨p, 2, none⟩ = some (.bool c) := l1.cell 2
        have s3 : w4.cell? ⟨p, 3, none⟩ = some (.bool d) := l1.cell 3
        have s4 : w4.cell? ⟨p, 4, none⟩ = some (.bool false) := l1.cell 4
        have d0 : w4.cell? ⟨q, 0, none⟩ = some (.bool false) := l2.cell 0
        have e0 : w4.frozen? ⟨q, 0, none⟩ = false := l2.free 0
        have d1 : w4.cell? ⟨q, 1, none⟩ = some (.bool false) := l2.cell 1
        have e1 : w4.frozen? ⟨q, 1, none⟩ = false := l2.free 1
        have d2 : w4.cell? ⟨q, 2, none⟩ = some (.bool false) := l2.cell 2
        have e2 : w4.frozen? ⟨q, 2, none⟩ = false := l2.free 2
        have d3 : w4.cell? ⟨q, 3, none⟩ = some (.bool false) := l2.cell 3
        have e3 : w4.frozen? ⟨q, 3, none⟩ = false := l2.free 3
        have d4 : w4.cell? ⟨q, 4, none⟩ = some (.bool false) := l2.cell 4
        have e4 : w4.frozen? ⟨q, 4, none⟩ = false := l2.free 4
        have t0 : w4.cell? ⟨r, 0, none⟩ = some (.bool a) := l3.cell 0
        have t1 : w4.cell? ⟨r, 1, none⟩ = some (.bool false) := l3.cell 1
        have t2 : w4.cell? ⟨r, 2, none⟩ = some (.bool c) := l3.cell 2
        have t3 : w4.cell? ⟨r, 3, none⟩ = some (.bool d) := l3.cell 3
        have t4 : w4.cell? ⟨r, 4, none⟩ = some (.bool true) := l3.cell 4
        have x0 : w5.cell? ⟨p, 0, none⟩ = some (.bool a) := m1.cell 0
        have x1 : w5.cell? ⟨p, 1, none⟩ = some (.bool true) := m1.cell 1
        have x2 : w5.cell? ⟨p, 2, none⟩ = some (.bool c) := m1.cell 2
        have x3 : w5.cell? ⟨p, 3, none⟩ = some (.bool d) := m1.cell 3
        have x4 : w5.cell? ⟨p, 4, none⟩ = some (.bool false) := m1.cell 4
        have y0 : w5.cell? ⟨r, 0, none⟩ = some (.bool a) := m3.cell 0
        have y1 : w5.cell? ⟨r, 1, none⟩ = some (.bool false) := m3.cell 1
        have y2 : w5.cell? ⟨r, 2, none⟩ = some (.bool c) := m3.cell 2
        have y3 : w5.cell? ⟨r, 3, none⟩ = some (.bool d) := m3.cell 3
        have y4 : w5.cell? ⟨r, 4, none⟩ = some (.bool true) := m3.cell 4
        have hres : (!decide ((⟨a, true, c, d, false⟩ : Mod) = ⟨a, false, c, d, true⟩)) = nb := by rw [← HNB.out, ← HR.out]; rfl
        have q1 : ∀ W, (binOp .neq 23 (.agg #[.bool a, .bool true, .bool c, .bool d, .bool false]) (.agg #[.bool a, .bool false, .bool c, .bool d, .bool true])).run Try.prog W = .ok (.bool nb) W := fun W => by rw [← hres]; exact HNQ.out ⟨a, true, c, d, false⟩ W
        have q2 : ∀ x y W, (eqGuard .neq 23 x y (.agg #[.bool a, .bool true, .bool c, .bool d, .bool false]) (.agg #[.bool a, .bool false, .bool c, .bool d, .bool true])).run Try.prog W = .ok () W := fun x y W => HGQ.out ⟨a, true, c, d, false⟩ x y W
        clear l1 l2 l3 m1 m2 m3 b4 b5 hres
        go_wp2_with fail
        all_goals go_region
        clear q1 q2
        clear s0 s1 s2 s3 s4 d0 d1 d2 d3 d4 t0 t1 t2 t3 t4 x0 x1 x2 x3 x4 y0 y1 y2 y3 y4 e0 e1 e2 e3 e4
        clear hw5
        go_wp2_with fail
        have j0 : w5.drew.cell? ⟨q, 0, none⟩ = some (.bool a) := R5.out.drew.cell 0
        have j1 : w5.drew.cell? ⟨q, 1, none⟩ = some (.bool true) := R5.out.drew.cell 1
        have j2 : w5.drew.cell? ⟨q, 2, none⟩ = some (.bool c) := R5.out.drew.cell 2
        have j3 : w5.drew.cell? ⟨q, 3, none⟩ = some (.bool d) := R5.out.drew.cell 3
        have j4 : w5.drew.cell? ⟨q, 4, none⟩ = some (.bool false) := R5.out.drew.cell 4
        refine bodyPost_ret (v := .tuple #[.agg #[.bool a, .bool true, .bool c, .bool d, .bool false], .bool nb]) (by simp [results, Try.results11, go_sem, j0, j1, j2, j3, j4]) rfl ?_
        rw [HP.out, ← HR.out]
        exact ⟨rfl, B5.out.drew⟩
    · skip
      obtain ⟨w4, hw4⟩ : ∃ z, W3 = z := ⟨_, rfl⟩
      have l1 : Bk w4 p 23 #[.bool a, .bool true, .bool c, .bool d, .bool f] := by rw [← hw4]; simpa using K1.out
      have l2 : Bk w4 q 23 #[.bool false, .bool false, .bool false, .bool false, .bool false] := by rw [← hw4]; exact K2.out
      have l3 : Bk w4 r 23 #[.bool a, .bool true, .bool c, .bool d, .bool f] := by rw [← hw4]; exact K3.out
      have b4 : Below p w w4 := by rw [← hw4]; exact B3.out
      have m2 := laid5_bk l2 (.bool a) (.bool true) (.bool c) (.bool d) (.bool f)
      have m1 := laid5_far l1 hne2 (.bool a) (.bool true) (.bool c) (.bool d) (.bool f)
      have m3 := laid5_far l3 hn5 (.bool a) (.bool true) (.bool c) (.bool d) (.bool f)
      have b5 := laid5_below b4 (by have := HNE.out; omega : p ≤ q) (.bool a) (.bool true) (.bool c) (.bool d) (.bool f)
      obtain ⟨w5, hw5⟩ : ∃ z, laid5 w4 q (.bool a) (.bool true) (.bool c) (.bool d) (.bool f) = z := ⟨_, rfl⟩
      rw [hw5] at m1 m2 m3 b5
      have R5 := Lib.hid m2
      have B5 := Lib.hid b5
      have s0 : w4.cell? ⟨p, 0, none⟩ = some (.bool a) := l1.cell 0
      have s1 : w4.cell? ⟨p, 1, none⟩ = some (.bool true) := l1.cell 1
      have s2 : w4.cell? ⟨p, 2, none⟩ = some (.bool c) := l1.cell 2
      have s3 : w4.cell? ⟨p, 3, none⟩ = some (.bool d) := l1.cell 3
      have s4 : w4.cell? ⟨p, 4, none⟩ = some (.bool f) := l1.cell 4
      have d0 : w4.cell? ⟨q, 0, none⟩ = some (.bool false) := l2.cell 0
      have e0 : w4.frozen? ⟨q, 0, none⟩ = false := l2.free 0
      have d1 : w4.cell? ⟨q, 1, none⟩ = some (.bool false) := l2.cell 1
      have e1 : w4.frozen? ⟨q, 1, none⟩ = false := l2.free 1
      have d2 : w4.cell? ⟨q, 2, none⟩ = some (.bool false) := l2.cell 2
      have e2 : w4.frozen? ⟨q, 2, none⟩ = false := l2.free 2
      have d3 : w4.cell? ⟨q, 3, none⟩ = some (.bool false) := l2.cell 3
      have e3 : w4.frozen? ⟨q, 3, none⟩ = false := l2.free 3
      have d4 : w4.cell? ⟨q, 4, none⟩ = some (.bool false) := l2.cell 4
      have e4 : w4.frozen? ⟨q, 4, none⟩ = false := l2.free 4
      have t0 : w4.cell? ⟨r, 0, none⟩ = some (.bool a) := l3.cell 0
      have t1 : w4.cell? ⟨r, 1, none⟩ = some (.bool true) := l3.cell 1
      have t2 : w4.cell? ⟨r, 2, none⟩ = some (.bool c) := l3.cell 2
      have t3 : w4.cell? ⟨r, 3, none⟩ = some (.bool d) := l3.cell 3
      have t4 : w4.cell? ⟨r, 4, none⟩ = some (.bool f) := l3.cell 4
      have x0 : w5.cell? ⟨p, 0, none⟩ = some (.bool a) := m1.cell 0
      have x1 : w5.cell? ⟨p, 1, none⟩ = some (.bool true) := m1.cell 1
      have x2 : w5.cell? ⟨p, 2, none⟩ = some (.bool c) := m1.cell 2
      have x3 : w5.cell? ⟨p, 3, none⟩ = some (.bool d) := m1.cell 3
      have x4 : w5.cell? ⟨p, 4, none⟩ = some (.bool f) := m1.cell 4
      have y0 : w5.cell? ⟨r, 0, none⟩ = some (.bool a) := m3.cell 0
      have y1 : w5.cell? ⟨r, 1, none⟩ = some (.bool true) := m3.cell 1
      have y2 : w5.cell? ⟨r, 2, none⟩ = some (.bool c) := m3.cell 2
      have y3 : w5.cell? ⟨r, 3, none⟩ = some (.bool d) := m3.cell 3
      have y4 : w5.cell? ⟨r, 4, none⟩ = some (.bool f) := m3.cell 4
      clear l1 l2 l3 m1 m2 m3 b4 b5
      go_wp2_with fail
      have j0 : w5.cell? ⟨q, 0, none⟩ = some (.bool a) := R5.out.cell 0
      have j1 : w5.cell? ⟨q, 1, none⟩ = some (.bool true) := R5.out.cell 1
      have j2 : w5.cell? ⟨q, 2, none⟩ = some (.bool c) := R5.out.cell 2
      have j3 : w5.cell? ⟨q, 3, none⟩ = some (.bool d) := R5.out.cell 3
      have j4 : w5.cell? ⟨q, 4, none⟩ = some (.bool f) := R5.out.cell 4
      refine bodyPost_ret (v := .tuple #[.agg #[.bool a, .bool true, .bool c, .bool d, .bool f], .bool false]) (by simp [results, Try.results11, go_sem, j0, j1, j2, j3, j4]) rfl ?_
      have hh := HNB.out
      rw [HP.out]
      exact ⟨by rw [← hh, ← HR.out]; simp [stepM, waitM, agM], B5.out⟩
  by_cases h6 : z = 6
  · subst h6
    obtain ⟨w4, hw4⟩ : ∃ z, ((W3.setCell ⟨p, 1, none⟩ (.bool false)).setCell ⟨p, 3, none⟩ (.bool false)) = z := ⟨_, rfl⟩
    have l1 : Bk w4 p 23 #[.bool a, .bool false, .bool c, .bool false, .bool f] := by rw [← hw4]; simpa using ((K1.out.put 1 (.bool false)).put 3 (.bool false))
    have l2 : Bk w4 q 23 #[.bool false, .bool false, .bool false, .bool false, .bool false] := by rw [← hw4]; exact ((K2.out.far (p := ⟨p, 1, none⟩) hne (.bool false)).far (p := ⟨p, 3, none⟩) hne (.bool false))
    have l3 : Bk w4 r 23 #[.bool a, .bool b, .bool c, .bool d, .bool f] := by rw [← hw4]; exact ((K3.out.far (p := ⟨p, 1, none⟩) hn3 (.bool false)).far (p := ⟨p, 3, none⟩) hn3 (.bool false))
    have b4 : Below p w w4 := by rw [← hw4]; exact ((B3.out.setCell (p := ⟨p, 1, none⟩) (Nat.le_refl p) (.bool false)).setCell (p := ⟨p, 3, none⟩) (Nat.le_refl p) (.bool false))
    have m2 := laid5_bk l2 (.bool a) (.bool false) (.bool c) (.bool false) (.bool f)
    have m1 := laid5_far l1 hne2 (.bool a) (.bool false) (.bool c) (.bool false) (.bool f)
    have m3 := laid5_far l3 hn5 (.bool a) (.bool false) (.bool c) (.bool false) (.bool f)
    have b5 := laid5_below b4 (by have := HNE.out; omega : p ≤ q) (.bool a) (.bool false) (.bool c) (.bool false) (.bool f)
    obtain ⟨w5, hw5⟩ : ∃ z, laid5 w4 q (.bool a) (.bool false) (.bool c) (.bool false) (.bool f) = z := ⟨_, rfl⟩
    rw [hw5] at m1 m2 m3 b5
    have R5 := Lib.hid m2
    have B5 := Lib.hid b5
    have s0 : w4.cell? ⟨p, 0, none⟩ = some (.bool a) := l1.cell 0
    have s1 : w4.cell? ⟨p, 1, none⟩ = some (.bool false) := l1.cell 1
    have s2 : w4.cell? ⟨p, 2, none⟩ = some (.bool c) := l1.cell 2
    have s3 : w4.cell? ⟨p, 3, none⟩ = some (.bool false) := l1.cell 3
    have s4 : w4.cell? ⟨p, 4, none⟩ = some (.bool f) := l1.cell 4
    have d0 : w4.cell? ⟨q, 0, none⟩ = some (.bool false) := l2.cell 0
    have e0 : w4.frozen? ⟨q, 0, none⟩ = false := l2.free 0
    have d1 : w4.cell? ⟨q, 1, none⟩ = some (.bool false) := l2.cell 1
    have e1 : w4.frozen? ⟨q, 1, none⟩ = false := l2.free 1
    have d2 : w4.cell? ⟨q, 2, none⟩ = some (.bool false) := l2.cell 2
    have e2 : w4.frozen? ⟨q, 2, none⟩ = false := l2.free 2
    have d3 : w4.cell? ⟨q, 3, none⟩ = some (.bool false) := l2.cell 3
    have e3 : w4.frozen? ⟨q, 3, none⟩ = false := l2.free 3
    have d4 : w4.cell? ⟨q, 4, none⟩ = some (.bool false) := l2.cell 4
    have e4 : w4.frozen? ⟨q, 4, none⟩ = false := l2.free 4
    have t0 : w4.cell? ⟨r, 0, none⟩ = some (.bool a) := l3.cell 0
    have t1 : w4.cell? ⟨r, 1, none⟩ = some (.bool b) := l3.cell 1
    have t2 : w4.cell? ⟨r, 2, none⟩ = some (.bool c) := l3.cell 2
    have t3 : w4.cell? ⟨r, 3, none⟩ = some (.bool d) := l3.cell 3
    have t4 : w4.cell? ⟨r, 4, none⟩ = some (.bool f) := l3.cell 4
    have x0 : w5.cell? ⟨p, 0, none⟩ = some (.bool a) := m1.cell 0
    have x1 : w5.cell? ⟨p, 1, none⟩ = some (.bool false) := m1.cell 1
    have x2 : w5.cell? ⟨p, 2, none⟩ = some (.bool c) := m1.cell 2
    have x3 : w5.cell? ⟨p, 3, none⟩ = some (.bool false) := m1.cell 3
    have x4 : w5.cell? ⟨p, 4, none⟩ = some (.bool f) := m1.cell 4
    have y0 : w5.cell? ⟨r, 0, none⟩ = some (.bool a) := m3.cell 0
    have y1 : w5.cell? ⟨r, 1, none⟩ = some (.bool b) := m3.cell 1
    have y2 : w5.cell? ⟨r, 2, none⟩ = some (.bool c) := m3.cell 2
    have y3 : w5.cell? ⟨r, 3, none⟩ = some (.bool d) := m3.cell 3
    have y4 : w5.cell? ⟨r, 4, none⟩ = some (.bool f) := m3.cell 4
    have hres : (!decide ((⟨a, false, c, false, f⟩ : Mod) = ⟨a, b, c, d, f⟩)) = nb := by rw [← HNB.out, ← HR.out]; rfl
    have q1 : ∀ W, (binOp .neq 23 (.agg #[.bool a, .bool false, .bool c, .bool false, .bool f]) (.agg #[.bool a, .bool b, .bool c, .bool d, .bool f])).run Try.prog W = .ok (.bool nb) W := fun W => by rw [← hres]; exact HNQ.out ⟨a, false, c, false, f⟩ W
    have q2 : ∀ x y W, (eqGuard .neq 23 x y (.agg #[.bool a, .bool false, .bool c, .bool false, .bool f]) (.agg #[.bool a, .bool b, .bool c, .bool d, .bool f])).run Try.prog W = .ok () W := fun x y W => HGQ.out ⟨a, false, c, false, f⟩ x y W
    clear l1 l2 l3 m1 m2 m3 b4 b5 hres
    go_wp2_with fail
    all_goals go_region
    clear q1 q2
    clear s0 s1 s2 s3 s4 d0 d1 d2 d3 d4 t0 t1 t2 t3 t4 x0 x1 x2 x3 x4 y0 y1 y2 y3 y4 e0 e1 e2 e3 e4
    clear hw5
    go_wp2_with fail
    have j0 : w5.drew.cell? ⟨q, 0, none⟩ = some (.bool a) := R5.out.drew.cell 0
    have j1 : w5.drew.cell? ⟨q, 1, none⟩ = some (.bool false) := R5.out.drew.cell 1
    have j2 : w5.drew.cell? ⟨q, 2, none⟩ = some (.bool c) := R5.out.drew.cell 2
    have j3 : w5.drew.cell? ⟨q, 3, none⟩ = some (.bool false) := R5.out.drew.cell 3
    have j4 : w5.drew.cell? ⟨q, 4, none⟩ = some (.bool f) := R5.out.drew.cell 4
    refine bodyPost_ret (v := .tuple #[.agg #[.bool a, .bool false, .bool c, .bool false, .bool f], .bool nb]) (by simp [results, Try.results11, go_sem, j0, j1, j2, j3, j4]) rfl ?_
    rw [HP.out, ← HR.out]
    exact ⟨rfl, B5.out.drew⟩
  by_cases h7 : z = 7
  · subst h7
    cases c
    · skip
      obtain ⟨w4, hw4⟩ : ∃ z, W3 = z := ⟨_, rfl⟩
      have l1 : Bk w4 p 23 #[.bool a, .bool b, .bool false, .bool d, .bool f] := by rw [← hw4]; simpa using K1.out
      have l2 : Bk w4 q 23 #[.bool false, .bool false, .bool false, .bool false, .bool false] := by rw [← hw4]; exact K2.out
      have l3 : Bk w4 r 23 #[.bool a, .bool b, .bool false, .bool d, .bool f] := by rw [← hw4]; exact K3.out
      have b4 : Below p w w4 := by rw [← hw4]; exact B3.out
      have m2 := laid5_bk l2 (.bool a) (.bool b) (.bool false) (.bool d) (.bool f)
      have m1 := laid5_far l1 hne2 (.bool a) (.bool b) (.bool false) (.bool d) (.bool f)
      have m3 := laid5_far l3 hn5 (.bool a) (.bool b) (.bool false) (.bool d) (.bool f)
      have b5 := laid5_below b4 (by have := HNE.out; omega : p ≤ q) (.bool a) (.bool b) (.bool false) (.bool d) (.bool f)
      obtain ⟨w5, hw5⟩ : ∃ z, laid5 w4 q (.bool a) (.bool b) (.bool false) (.bool d) (.bool f) = z := ⟨_, rfl⟩
      rw [hw5] at m1 m2 m3 b5
      have R5 := Lib.hid m2
      have B5 := Lib.hid b5
      have s0 : w4.cell? ⟨p, 0, none⟩ = some (.bool a) := l1.cell 0
      have s1 : w4.cell? ⟨p, 1, none⟩ = some (.bool b) := l1.cell 1
      have s2 : w4.cell? ⟨p, 2, none⟩ = some (.bool false) := l1.cell 2
      have s3 : w4.cell? ⟨p, 3, none⟩ = some (.bool d) := l1.cell 3
      have s4 : w4.cell? ⟨p, 4, none⟩ = some (.bool f) := l1.cell 4
      have d0 : w4.cell? ⟨q, 0, none⟩ = some (.bool false) := l2.cell 0
      have e0 : w4.frozen? ⟨q, 0, none⟩ = false := l2.free 0
      have d1 : w4.cell? ⟨q, 1, none⟩ = some (.bool false) := l2.cell 1
      have e1 : w4.frozen? ⟨q, 1, none⟩ = false := l2.free 1
      have d2 : w4.cell? ⟨q, 2, none⟩ = some (.bool false) := l2.cell 2
      have e2 : w4.frozen? ⟨q, 2, none⟩ = false := l2.free 2
      have d3 : w4.cell? ⟨q, 3, none⟩ = some (.bool false) := l2.cell 3
      have e3 : w4.frozen? ⟨q, 3, none⟩ = false := l2.free 3
      have d4 : w4.cell? ⟨q, 4, none⟩ = some (.bool false) := l2.cell 4
      have e4 : w4.frozen? ⟨q, 4, none⟩ = false := l2.free 4
      have t0 : w4.cell? ⟨r, 0, none⟩ = some (.bool a) := l3.cell 0
      have t1 : w4.cell? ⟨r, 1, none⟩ = some (.bool b) := l3.cell 1
      have t2 : w4.cell? ⟨r, 2, none⟩ = some (.bool false) := l3.cell 2
      have t3 : w4.cell? ⟨r, 3, none⟩ = some (.bool d) := l3.cell 3
      have t4 : w4.cell? ⟨r, 4, none⟩ = some (.bool f) := l3.cell 4
      have x0 : w5.cell? ⟨p, 0, none⟩ = some (.bool a) := m1.cell 0
      have x1 : w5.cell? ⟨p, 1, none⟩ = some (.bool b) := m1.cell 1
      have x2 : w5.cell? ⟨p, 2, none⟩ = some (.bool false) := m1.cell 2
      have x3 : w5.cell? ⟨p, 3, none⟩ = some (.bool d) := m1.cell 3
      have x4 : w5.cell? ⟨p, 4, none⟩ = some (.bool f) := m1.cell 4
      have y0 : w5.cell? ⟨r, 0, none⟩ = some (.bool a) := m3.cell 0
      have y1 : w5.cell? ⟨r, 1, none⟩ = some (.bool b) := m3.cell 1
      have y2 : w5.cell? ⟨r, 2, none⟩ = some (.bool false) := m3.cell 2
      have y3 : w5.cell? ⟨r, 3, none⟩ = some (.bool d) := m3.cell 3
      have y4 : w5.cell? ⟨r, 4, none⟩ = some (.bool f) := m3.cell 4
      have hres : (!decide ((⟨a, b, false, d, f⟩ : Mod) = ⟨a, b, false, d, f⟩)) = nb := by rw [← HNB.out, ← HR.out]; rfl
      have q1 : ∀ W, (binOp .neq 23 (.agg #[.bool a, .bool b, .bool false, .bool d, .bool f]) (.agg #[.bool a, .bool b, .bool false, .bool d, .bool f])).run Try.prog W = .ok (.bool nb) W := fun W => by rw [← hres]; exact HNQ.out ⟨a, b, false, d, f⟩ W
      have q2 : ∀ x y W, (eqGuard .neq 23 x y (.agg #[.bool a, .bool b, .bool false, .bool d, .bool f]) (.agg #[.bool a, .bool b, .bool false, .bool d, .bool f])).run Try.prog W = .ok () W := fun x y W => HGQ.out ⟨a, b, false, d, f⟩ x y W
      clear l1 l2 l3 m1 m2 m3 b4 b5 hres
      go_wp2_with fail
      all_goals go_region
      clear q1 q2
      clear s0 s1 s2 s3 s4 d0 d1 d2 d3 d4 t0 t1 t2 t3 t4 x0 x1 x2 x3 x4 y0 y1 y2 y3 y4 e0 e1 e2 e3 e4
      clear hw5
      go_wp2_with fail
      have j0 : w5.drew.cell? ⟨q, 0, none⟩ = some (.bool a) := R5.out.drew.cell 0
      have j1 : w5.drew.cell? ⟨q, 1, none⟩ = some (.bool b) := R5.out.drew.cell 1
      have j2 : w5.drew.cell? ⟨q, 2, none⟩ = some (.bool false) := R5.out.drew.cell 2
      have j3 : w5.drew.cell? ⟨q, 3, none⟩ = some (.bool d) := R5.out.drew.cell 3
      have j4 : w5.drew.cell? ⟨q, 4, none⟩ = some (.bool f) := R5.out.drew.cell 4
      refine bodyPost_ret (v := .tuple #[.agg #[.bool a, .bool b, .bool false, .bool d, .bool f], .bool nb]) (by simp [results, Try.results11, go_sem, j0, j1, j2, j3, j4]) rfl ?_
      rw [HP.out, ← HR.out]
      exact ⟨rfl, B5.out.drew⟩
    · skip
      obtain ⟨w4, hw4⟩ : ∃ z, ((W3.setCell ⟨p, 0, none⟩ (.bool true)).setCell ⟨p, 2, none⟩ (.bool false)) = z := ⟨_, rfl⟩
      have l1 : Bk w4 p 23 #[.bool true, .bool b, .bool false, .bool d, .bool f] := by rw [← hw4]; simpa using ((K1.out.put 0 (.bool true)).put 2 (.bool false))
      have l2 : Bk w4 q 23 #[.bool false, .bool false, .bool false, .bool false, .bool false] := by rw [← hw4]; exact ((K2.out.far (p := ⟨p, 0, none⟩) hne (.bool true)).far (p := ⟨p, 2, none⟩) hne (.bool false))
      have l3 : Bk w4 r 23 #[.bool a, .bool b, .bool true, .bool d, .bool f] := by rw [← hw4]; exact ((K3.out.far (p := ⟨p, 0, none⟩) hn3 (.bool true)).far (p := ⟨p, 2, none⟩) hn3 (.bool false))
      have b4 : Below p w w4 := by rw [← hw4]; exact ((B3.out.setCell (p := ⟨p, 0, none⟩) (Nat.le_refl p) (.bool true)).setCell (p := ⟨p, 2, none⟩) (Nat.le_refl p) (.bool false))
      have m2 := laid5_bk l2 (.bool true) (.bool b) (.bool false) (.bool d) (.bool f)
      have m1 := laid5_far l1 hne2 (.bool true) (.bool b) (.bool false) (.bool d) (.bool f)
      have m3 := laid5_far l3 hn5 (.bool true) (.bool b) (.bool false) (.bool d) (.bool f)
      have b5 := laid5_below b4 (by have := HNE.out; omega : p ≤ q) (.bool true) (.bool b) (.bool false) (.bool d) (.bool f)
      obtain ⟨w5, hw5⟩ : ∃ z, laid5 w4 q (.bool true) (.bool b) (.bool false) (.bool d) (.bool f) = z := ⟨_, rfl⟩
      rw [hw5] at m1 m2 m3 b5
      have R5 := Lib.hid m2
      have B5 := Lib.hid b5
      have s0 : w4.cell? ⟨p, 0, none⟩ = some (.bool true) := l1.cell 0
      have s1 : w4.cell? ⟨p, 1, none⟩ = some (.bool b) := l1.cell 1
      have s2 : w4.cell? ⟨p, 2, none⟩ = some (.bool false) := l1.cell 2
      have s3 : w4.cell? ⟨p, 3, none⟩ = some (.bool d) := l1.cell 3
      have s4 : w4.cell? ⟨p, 4, none⟩ = some (.bool f) := l1.cell 4
      have d0 : w4.cell? ⟨q, 0, none⟩ = some (.bool false) := l2.cell 0
      have e0 : w4.frozen? ⟨q, 0, none⟩ = false := l2.free 0
      have d1 : w4.cell? ⟨q, 1, none⟩ = some (.bool false) := l2.cell 1
      have e1 : w4.frozen? ⟨q, 1, none⟩ = false := l2.free 1
      have d2 : w4.cell? ⟨q, 2, none⟩ = some (.bool false) := l2.cell 2
      have e2 : w4.frozen? ⟨q, 2, none⟩ = false := l2.free 2
      have d3 : w4.cell? ⟨q, 3, none⟩ = some (.bool false) := l2.cell 3
      have e3 : w4.frozen? ⟨q, 3, none⟩ = false := l2.free 3
      have d4 : w4.cell? ⟨q, 4, none⟩ = some (.bool false) := l2.cell 4
      have e4 : w4.frozen? ⟨q, 4, none⟩ = false := l2.free 4
      have t0 : w4.cell? ⟨r, 0, none⟩ = some (.bool a) := l3.cell 0
      have t1 : w4.cell? ⟨r, 1, none⟩ = some (.bool b) := l3.cell 1
      have t2 : w4.cell? ⟨r, 2, none⟩ = some (.bool true) := l3.cell 2
      have t3 : w4.cell? ⟨r, 3, none⟩ = some (.bool d) := l3.cell 3
      have t4 : w4.cell? ⟨r, 4, none⟩ = some (.bool f) := l3.cell 4
      have x0 : w5.cell? ⟨p, 0, none⟩ = some (.bool true) := m1.cell 0
      have x1 : w5.cell? ⟨p, 1, none⟩ = some (.bool b) := m1.cell 1
      have x2 : w5.cell? ⟨p, 2, none⟩ = some (.bool false) := m1.cell 2
      have x3 : w5.cell? ⟨p, 3, none⟩ = some (.bool d) := m1.cell 3
      have x4 : w5.cell? ⟨p, 4, none⟩ = some (.bool f) := m1.cell 4
      have y0 : w5.cell? ⟨r, 0, none⟩ = some (.bool a) := m3.cell 0
      have y1 : w5.cell? ⟨r, 1, none⟩ = some (.bool b) := m3.cell 1
      have y2 : w5.cell? ⟨r, 2, none⟩ = some (.bool true) := m3.cell 2
      have y3 : w5.cell? ⟨r, 3, none⟩ = some (.bool d) := m3.cell 3
      have y4 : w5.cell? ⟨r, 4, none⟩ = some (.bool f) := m3.cell 4
      have hres : (!decide ((⟨true, b, false, d, f⟩ : Mod) = ⟨a, b, true, d, f⟩)) = nb := by rw [← HNB.out, ← HR.out]; rfl
      have q1 : ∀ W, (binOp .neq 23 (.agg #[.bool true, .bool b, .bool false, .bool d, .bool f]) (.agg #[.bool a, .bool b, .bool true, .bool d, .bool f])).run Try.prog W = .ok (.bool nb) W := fun W => by rw [← hres]; exact HNQ.out ⟨true, b, false, d, f⟩ W
      have q2 : ∀ x y W, (eqGuard .neq 23 x y (.agg #[.bool true, .bool b, .bool false, .bool d, .bool f]) (.agg #[.bool a, .bool b, .bool true, .bool d, .bool f])).run Try.prog W = .ok () W := fun x y W => HGQ.out ⟨true, b, false, d, f⟩ x y W
      clear l1 l2 l3 m1 m2 m3 b4 b5 hres
      go_wp2_with fail
      all_goals go_region
      clear q1 q2
      clear s0 s1 s2 s3 s4 d0 d1 d2 d3 d4 t0 t1 t2 t3 t4 x0 x1 x2 x3 x4 y0 y1 y2 y3 y4 e0 e1 e2 e3 e4
      clear hw5
      go_wp2_with fail
      have j0 : w5.drew.cell? ⟨q, 0, none⟩ = some (.bool true) := R5.out.drew.cell 0
      have j1 : w5.drew.cell? ⟨q, 1, none⟩ = some (.bool b) := R5.out.drew.cell 1
      have j2 : w5.drew.cell? ⟨q, 2, none⟩ = some (.bool false) := R5.out.drew.cell 2
      have j3 : w5.drew.cell? ⟨q, 3, none⟩ = some (.bool d) := R5.out.drew.cell 3
      have j4 : w5.drew.cell? ⟨q, 4, none⟩ = some (.bool f) := R5.out.drew.cell 4
      refine bodyPost_ret (v := .tuple #[.agg #[.bool true, .bool b, .bool false, .bool d, .bool f], .bool nb]) (by simp [results, Try.results11, go_sem, j0, j1, j2, j3, j4]) rfl ?_
      rw [HP.out, ← HR.out]
      exact ⟨rfl, B5.out.drew⟩
  by_cases h8 : z = 8
  · subst h8
    obtain ⟨w4, hw4⟩ : ∃ z, ((W3.setCell ⟨p, 0, none⟩ (.bool false)).setCell ⟨p, 2, none⟩ (.bool false)) = z := ⟨_, rfl⟩
    have l1 : Bk w4 p 23 #[.bool false, .bool b, .bool false, .bool d, .bool f] := by rw [← hw4]; simpa using ((K1.out.put 0 (.bool false)).put 2 (.bool false))
    have l2 : Bk w4 q 23 #[.bool false, .bool false, .bool false, .bool false, .bool false] := by rw [← hw4]; exact ((K2.out.far (p := ⟨p, 0, none⟩) hne (.bool false)).far (p := ⟨p, 2, none⟩) hne (.bool false))
    have l3 : Bk w4 r 23 #[.bool a, .bool b, .bool c, .bool d, .bool f] := by rw [← hw4]; exact ((K3.out.far (p := ⟨p, 0, none⟩) hn3 (.bool false)).far (p := ⟨p, 2, none⟩) hn3 (.bool false))
    have b4 : Below p w w4 := by rw [← hw4]; exact ((B3.out.setCell (p := ⟨p, 0, none⟩) (Nat.le_refl p) (.bool false)).setCell (p := ⟨p, 2, none⟩) (Nat.le_refl p) (.bool false))
    have m2 := laid5_bk l2 (.bool false) (.bool b) (.bool false) (.bool d) (.bool f)
    have m1 := laid5_far l1 hne2 (.bool false) (.bool b) (.bool false) (.bool d) (.bool f)
    have m3 := laid5_far l3 hn5 (.bool false) (.bool b) (.bool false) (.bool d) (.bool f)
    have b5 := laid5_below b4 (by have := HNE.out; omega : p ≤ q) (.bool false) (.bool b) (.bool false) (.bool d) (.bool f)
    obtain ⟨w5, hw5⟩ : ∃ z, laid5 w4 q (.bool false) (.bool b) (.bool false) (.bool d) (.bool f) = z := ⟨_, rfl⟩
    rw [hw5] at m1 m2 m3 b5
    have R5 := Lib.hid m2
    have B5 := Lib.hid b5
    have s0 : w4.cell? ⟨p, 0, none⟩ = some (.bool false) := l1.cell 0
    have s1 : w4.cell? ⟨p, 1, none⟩ = some (.bool b) := l1.cell 1
    have s2 : w4.cell? ⟨p, 2, none⟩ = some (.bool false) := l1.cell 2
    have s3 : w4.cell? ⟨p, 3, none⟩ = some (.bool d) := l1.cell 3
    have s4 : w4.cell? ⟨p, 4, none⟩ = some (.bool f) := l1.cell 4
    have d0 : w4.cell? ⟨q, 0, none⟩ = some (.bool false) := l2.cell 0
    have e0 : w4.frozen? ⟨q, 0, none⟩ = false := l2.free 0
    have d1 : w4.cell? ⟨q, 1, none⟩ = some (.bool false) := l2.cell 1
    have e1 : w4.frozen? ⟨q, 1, none⟩ = false := l2.free 1
    have d2 : w4.cell? ⟨q, 2, none⟩ = some (.bool false) := l2.cell 2
    have e2 : w4.frozen? ⟨q, 2, none⟩ = false := l2.free 2
    have d3 : w4.cell? ⟨q, 3, none⟩ = some (.bool false) := l2.cell 3
    have e3 : w4.frozen? ⟨q, 3, none⟩ = false := l2.free 3
    have d4 : w4.cell? ⟨q, 4, none⟩ = some (.bool false) := l2.cell 4
    have e4 : w4.frozen? ⟨q, 4, none⟩ = false := l2.free 4
    have t0 : w4.cell? ⟨r, 0, none⟩ = some (.bool a) := l3.cell 0
    have t1 : w4.cell? ⟨r, 1, none⟩ = some (.bool b) := l3.cell 1
    have t2 : w4.cell? ⟨r, 2, none⟩ = some (.bool c) := l3.cell 2
    have t3 : w4.cell? ⟨r, 3, none⟩ = some (.bool d) := l3.cell 3
    have t4 : w4.cell? ⟨r, 4, none⟩ = some (.bool f) := l3.cell 4
    have x0 : w5.cell? ⟨p, 0, none⟩ = some (.bool false) := m1.cell 0
    have x1 : w5.cell? ⟨p, 1, none⟩ = some (.bool b) := m1.cell 1
    have x2 : w5.cell? ⟨p, 2, none⟩ = some (.bool false) := m1.cell 2
    have x3 : w5.cell? ⟨p, 3, none⟩ = some (.bool d) := m1.cell 3
    have x4 : w5.cell? ⟨p, 4, none⟩ = some (.bool f) := m1.cell 4
    have y0 : w5.cell? ⟨r, 0, none⟩ = some (.bool a) := m3.cell 0
    have y1 : w5.cell? ⟨r, 1, none⟩ = some (.bool b) := m3.cell 1
    have y2 : w5.cell? ⟨r, 2, none⟩ = some (.bool c) := m3.cell 2
    have y3 : w5.cell? ⟨r, 3, none⟩ = some (.bool d) := m3.cell 3
    have y4 : w5.cell? ⟨r, 4, none⟩ = some (.bool f) := m3.cell 4
    have hres : (!decide ((⟨false, b, false, d, f⟩ : Mod) = ⟨a, b, c, d, f⟩)) = nb := by rw [← HNB.out, ← HR.out]; rfl
    have q1 : ∀ W, (binOp .neq 23 (.agg #[.bool false, .bool b, .bool false, .bool d, .bool f]) (.agg #[.bool a, .bool b, .bool c, .bool d, .bool f])).run Try.prog W = .ok (.bool nb) W := fun W => by rw [← hres]; exact HNQ.out ⟨false, b, false, d, f⟩ W
    have q2 : ∀ x y W, (eqGuard .neq 23 x y (.agg #[.bool false, .bool b, .bool false, .bool d, .bool f]) (.agg #[.bool a, .bool b, .bool c, .bool d, .bool f])).run Try.prog W = .ok () W := fun x y W => HGQ.out ⟨false, b, false, d, f⟩ x y W
    clear l1 l2 l3 m1 m2 m3 b4 b5 hres
    go_wp2_with fail
    all_goals go_region
    clear q1 q2
    clear s0 s1 s2 s3 s4 d0 d1 d2 d3 d4 t0 t1 t2 t3 t4 x0 x1 x2 x3 x4 y0 y1 y2 y3 y4 e0 e1 e2 e3 e4
    clear hw5
    go_wp2_with fail
    have j0 : w5.drew.cell? ⟨q, 0, none⟩ = some (.bool false) := R5.out.drew.cell 0
    have j1 : w5.drew.cell? ⟨q, 1, none⟩ = some (.bool b) := R5.out.drew.cell 1
    have j2 : w5.drew.cell? ⟨q, 2, none⟩ = some (.bool false) := R5.out.drew.cell 2
    have j3 : w5.drew.cell? ⟨q, 3, none⟩ = some (.bool d) := R5.out.drew.cell 3
    have j4 : w5.drew.cell? ⟨q, 4, none⟩ = some (.bool f) := R5.out.drew.cell 4
    refine bodyPost_ret (v := .tuple #[.agg #[.bool false, .bool b, .bool false, .bool d, .bool f], .bool nb]) (by simp [results, Try.results11, go_sem, j0, j1, j2, j3, j4]) rfl ?_
    rw [HP.out, ← HR.out]
    exact ⟨rfl, B5.out.drew⟩
  have q1 : (z == 1) = false := by simpa using h1
  have u1 : decide (z = 1) = false := decide_eq_false h1
  have q2 : (z == 2) = false := by simpa using h2
  have u2 : decide (z = 2) = false := decide_eq_false h2
  have q3 : (z == 3) = false := by simpa using h3
  have u3 : decide (z = 3) = false := decide_eq_false h3
  have q4 : (z == 4) = false := by simpa using h4
  have u4 : decide (z = 4) = false := decide_eq_false h4
  have q5 : (z == 5) = false := by simpa using h5
  have u5 : decide (z = 5) = false := decide_eq_false h5
  have q6 : (z == 6) = false := by simpa using h6
  have u6 : decide (z = 6) = false := decide_eq_false h6
  have q7 : (z == 7) = false := by simpa using h7
  have u7 : decide (z = 7) = false := decide_eq_false h7
  have q8 : (z == 8) = false := by simpa using h8
  have u8 : decide (z = 8) = false := decide_eq_false h8
  have hst : stepM ⟨a, b, c, d, f⟩ z = ⟨a, b, c, d, f⟩ := by unfold stepM; rw [if_neg h1, if_neg h2, if_neg h3, if_neg h4, if_neg h5, if_neg h6, if_neg h7, if_neg h8]
  have hr9 := HR.out
  rw [hst] at hr9
  subst hr9
  have HST := Lib.hid hst
  clear h1 h2 h3 h4 h5 h6 h7 h8 hst
  obtain ⟨w4, hw4⟩ : ∃ z, W3 = z := ⟨_, rfl⟩
  have l1 : Bk w4 p 23 #[.bool a, .bool b, .bool c, .bool d, .bool f] := by rw [← hw4]; simpa using K1.out
  have l2 : Bk w4 q 23 #[.bool false, .bool false, .bool false, .bool false, .bool false] := by rw [← hw4]; exact K2.out
  have l3 : Bk w4 r 23 #[.bool a, .bool b, .bool c, .bool d, .bool f] := by rw [← hw4]; exact K3.out
  have b4 : Below p w w4 := by rw [← hw4]; exact B3.out
  have m2 := laid5_bk l2 (.bool a) (.bool b) (.bool c) (.bool d) (.bool f)
  have m1 := laid5_far l1 hne2 (.bool a) (.bool b) (.bool c) (.bool d) (.bool f)
  have m3 := laid5_far l3 hn5 (.bool a) (.bool b) (.bool c) (.bool d) (.bool f)
  have b5 := laid5_below b4 (by have := HNE.out; omega : p ≤ q) (.bool a) (.bool b) (.bool c) (.bool d) (.bool f)
  obtain ⟨w5, hw5⟩ : ∃ z, laid5 w4 q (.bool a) (.bool b) (.bool c) (.bool d) (.bool f) = z := ⟨_, rfl⟩
  rw [hw5] at m1 m2 m3 b5
  have R5 := Lib.hid m2
  have B5 := Lib.hid b5
  have s0 : w4.cell? ⟨p, 0, none⟩ = some (.bool a) := l1.cell 0
  have s1 : w4.cell? ⟨p, 1, none⟩ = some (.bool b) := l1.cell 1
  have s2 : w4.cell? ⟨p, 2, none⟩ = some (.bool c) := l1.cell 2
  have s3 : w4.cell? ⟨p, 3, none⟩ = some (.bool d) := l1.cell 3
  have s4 : w4.cell? ⟨p, 4, none⟩ = some (.bool f) := l1.cell 4
  have d0 : w4.cell? ⟨q, 0, none⟩ = some (.bool false) := l2.cell 0
  have e0 : w4.frozen? ⟨q, 0, none⟩ = false := l2.free 0
  have d1 : w4.cell? ⟨q, 1, none⟩ = some (.bool false) := l2.cell 1
  have e1 : w4.frozen? ⟨q, 1, none⟩ = false := l2.free 1
  have d2 : w4.cell? ⟨q, 2, none⟩ = some (.bool false) := l2.cell 2
  have e2 : w4.frozen? ⟨q, 2, none⟩ = false := l2.free 2
  have d3 : w4.cell? ⟨q, 3, none⟩ = some (.bool false) := l2.cell 3
  have e3 : w4.frozen? ⟨q, 3, none⟩ = false := l2.free 3
  have d4 : w4.cell? ⟨q, 4, none⟩ = some (.bool false) := l2.cell 4
  have e4 : w4.frozen? ⟨q, 4, none⟩ = false := l2.free 4
  have t0 : w4.cell? ⟨r, 0, none⟩ = some (.bool a) := l3.cell 0
  have t1 : w4.cell? ⟨r, 1, none⟩ = some (.bool b) := l3.cell 1
  have t2 : w4.cell? ⟨r, 2, none⟩ = some (.bool c) := l3.cell 2
  have t3 : w4.cell? ⟨r, 3, none⟩ = some (.bool d) := l3.cell 3
  have t4 : w4.cell? ⟨r, 4, none⟩ = some (.bool f) := l3.cell 4
  have x0 : w5.cell? ⟨p, 0, none⟩ = some (.bool a) := m1.cell 0
  have x1 : w5.cell? ⟨p, 1, none⟩ = some (.bool b) := m1.cell 1
  have x2 : w5.cell? ⟨p, 2, none⟩ = some (.bool c) := m1.cell 2
  have x3 : w5.cell? ⟨p, 3, none⟩ = some (.bool d) := m1.cell 3
  have x4 : w5.cell? ⟨p, 4, none⟩ = some (.bool f) := m1.cell 4
  have y0 : w5.cell? ⟨r, 0, none⟩ = some (.bool a) := m3.cell 0
  have y1 : w5.cell? ⟨r, 1, none⟩ = some (.bool b) := m3.cell 1
  have y2 : w5.cell? ⟨r, 2, none⟩ = some (.bool c) := m3.cell 2
  have y3 : w5.cell? ⟨r, 3, none⟩ = some (.bool d) := m3.cell 3
  have y4 : w5.cell? ⟨r, 4, none⟩ = some (.bool f) := m3.cell 4
  have hres : (!decide ((⟨a, b, c, d, f⟩ : Mod) = ⟨a, b, c, d, f⟩)) = nb := by exact HNB.out
  have qq1 : ∀ W, (binOp .neq 23 (.agg #[.bool a, .bool b, .bool c, .bool d, .bool f]) (.agg #[.bool a, .bool b, .bool c, .bool d, .bool f])).run Try.prog W = .ok (.bool nb) W := fun W => by rw [← hres]; exact HNQ.out ⟨a, b, c, d, f⟩ W
  have qq2 : ∀ x y W, (eqGuard .neq 23 x y (.agg #[.bool a, .bool b, .bool c, .bool d, .bool f]) (.agg #[.bool a, .bool b, .bool c, .bool d, .bool f])).run Try.prog W = .ok () W := fun x y W => HGQ.out ⟨a, b, c, d, f⟩ x y W
  clear l1 l2 l3 m1 m2 m3 b4 b5 hres
  go_wp2_with fail
  all_goals go_region
  clear qq1 qq2
  clear s0 s1 s2 s3 s4 d0 d1 d2 d3 d4 t0 t1 t2 t3 t4 x0 x1 x2 x3 x4 y0 y1 y2 y3 y4 e0 e1 e2 e3 e4
  clear hw5
  go_wp2_with fail
  have j0 : w5.drew.cell? ⟨q, 0, none⟩ = some (.bool a) := R5.out.drew.cell 0
  have j1 : w5.drew.cell? ⟨q, 1, none⟩ = some (.bool b) := R5.out.drew.cell 1
  have j2 : w5.drew.cell? ⟨q, 2, none⟩ = some (.bool c) := R5.out.drew.cell 2
  have j3 : w5.drew.cell? ⟨q, 3, none⟩ = some (.bool d) := R5.out.drew.cell 3
  have j4 : w5.drew.cell? ⟨q, 4, none⟩ = some (.bool f) := R5.out.drew.cell 4
  refine bodyPost_ret (v := .tuple #[.agg #[.bool a, .bool b, .bool c, .bool d, .bool f], .bool nb]) (by simp [results, Try.results11, go_sem, j0, j1, j2, j3, j4]) rfl ?_
  rw [HP.out]
  exact ⟨rfl, B5.out.drew⟩
end Go.Proofs.Ytpaehhlhngilcaa
