import Derived.Test.YtpaehhlhngilcaaM32
/- what is reached of it -/
namespace Go.Proofs.Ytpaehhlhngilcaa
open Go.RowKit Tx Vc Ct
set_option maxHeartbeats 8000000 in
set_option maxRecDepth 100000 in
theorem rinto_any (x : Itm) (gv : Value) (m : Mod) (w : World) (hR : ReadT w.heap.size w gv (sts x.groups)) (hl : x.groups.length ≤ 8796093022208) :
    Calls Try.prog 18 #[agI x gv, agM m] w fun e w' => e = .returned (agI (intoM x m) gv) ∧ Below w.heap.size w w' := by
  obtain ⟨A, cp, hv, _⟩ := id hR
  obtain ⟨n, hnn⟩ : ∃ n, (sts x.groups).length = n := ⟨_, rfl⟩
  rw [hnn] at hv
  subst hv
  have hgl : x.groups.length = n := by rw [← hnn]; exact (List.length_map _).symm
  obtain ⟨jid, name, groups, s, k, u⟩ := x
  obtain ⟨a, b, c, d, f⟩ := m
  have hai : ∀ A cp, agI ⟨jid, name, groups, s, k, u⟩ (.slice A n cp) = .agg #[.string (bts jid), .string (bts name), .slice A n cp, .int .i64 s, .bool k, .bool u] := fun A cp => rfl
  have hai2 : ∀ A cp, agI (intoM ⟨jid, name, groups, s, k, u⟩ ⟨a, b, c, d, f⟩) (.slice A n cp) = .agg #[.string (bts jid), .string (bts name), .slice A n cp, .int .i64 (subM ⟨a, b, c, d, f⟩), .bool c, .bool f] := fun A cp => rfl
  rw [hai, ← agM_mk]
  have HAI := Lib.hid hai2
  obtain ⟨T, hT⟩ : ∃ T, intoM ⟨jid, name, groups, s, k, u⟩ ⟨a, b, c, d, f⟩ = T := ⟨_, rfl⟩
  rw [hT] at HAI ⊢
  obtain ⟨J, hJ⟩ : ∃ J, bts jid = J := ⟨_, rfl⟩
  obtain ⟨N, hN⟩ : ∃ J, bts name = J := ⟨_, rfl⟩
  rw [hJ, hN] at HAI ⊢
  obtain ⟨W1, hW1⟩ : ∃ W1, w.alloc (.cells #[.string J, .string N, .slice A n cp, .int .i64 s, .bool k, .bool u] 26) = W1 := ⟨_, rfl⟩
  obtain ⟨p, hp⟩ : ∃ p, w.heap.size = p := ⟨_, rfl⟩
  obtain ⟨W2, hW2⟩ : ∃ W2, W1.alloc (.cells #[.bool a, .bool b, .bool c, .bool d, .bool f] 23) = W2 := ⟨_, rfl⟩
  obtain ⟨q, hq⟩ : ∃ q, p + 1 = q := ⟨_, rfl⟩
  have hq1 : W1.heap.size = q := by rw [← hW1, World.size_alloc, hp, hq]
  obtain ⟨W3, hW3⟩ : ∃ W3, W2.alloc (.cells #[.string ⟨#[]⟩, .string ⟨#[]⟩, .slice none 0 0, .int .i64 0, .bool false, .bool false] 26) = W3 := ⟨_, rfl⟩
  obtain ⟨r, hr⟩ : ∃ r, q + 1 = r := ⟨_, rfl⟩
  have hr1 : W2.heap.size = r := by rw [← hW2, World.size_alloc, hq1, hr]
  have K1 : Hid (Bk W3 p 26 #[.string J, .string N, .slice A n cp, .int .i64 s, .bool k, .bool u]) := by rw [← hW3, ← hW2, ← hW1, ← hp]; exact ((Bk.new _ _ _).alloc _).alloc _
  have K2 : Hid (Bk W3 q 23 #[.bool a, .bool b, .bool c, .bool d, .bool f]) := by rw [← hW3, ← hW2, ← hq1]; exact (Bk.new _ _ _).alloc _
  have K3 : Hid (Bk W3 r 26 #[.string ⟨#[]⟩, .string ⟨#[]⟩, .slice none 0 0, .int .i64 0, .bool false, .bool false]) := by rw [← hW3, ← hr1]; exact Bk.new _ _ _
  have B3 : Hid (Below w.heap.size w W3) := by rw [← hW3, ← hW2, ← hW1]; exact (((Below.refl _ _).alloc (Nat.le_refl _) _).alloc (by rw [World.size_alloc]; omega) _).alloc (by rw [World.size_alloc, World.size_alloc]; omega) _
  have hn1 : ¬ q = p := by omega
  have hn2 : ¬ p = q := by omega
  have hn3 : ¬ r = p := by omega
  have hn4 : ¬ p = r := by omega
  have hn5 : ¬ r = q := by omega
  have hn6 : ¬ q = r := by omega
  have HLE : Hid (w.heap.size ≤ p ∧ w.heap.size ≤ r) := by unfold Hid; omega
  have HW1 := Lib.hid hW1
  have HW2 := Lib.hid hW2
  have HW3 := Lib.hid hW3
  have HP := Lib.hid hp
  have HQ := Lib.hid hq
  have HRR := Lib.hid hr
  clear hW1 hW2 hW3 hp hq hr hq1 hr1 hT hJ hN hai hai2 hR hl hnn hgl
  go_enter Try.func18, Try.ntmps18
  go_upto_region 1 with fail
  (try rw [HW1.out])
  (try rw [HP.out])
  (try rw [HQ.out])
  (try rw [HW2.out])
  (try rw [HRR.out])
  (try rw [HW3.out])
  have c0 : W3.cell? ⟨p, 0, none⟩ = some (.string J) := K1.out.cell 0
  have g0 : W3.frozen? ⟨p, 0, none⟩ = false := K1.out.free 0
  have c1 : W3.cell? ⟨p, 1, none⟩ = some (.string N) := K1.out.cell 1
  have g1 : W3.frozen? ⟨p, 1, none⟩ = false := K1.out.free 1
  have c2 : W3.cell? ⟨p, 2, none⟩ = some (.slice A n cp) := K1.out.cell 2
  have g2 : W3.frozen? ⟨p, 2, none⟩ = false := K1.out.free 2
  have c3 : W3.cell? ⟨p, 3, none⟩ = some (.int .i64 s) := K1.out.cell 3
  have g3 : W3.frozen? ⟨p, 3, none⟩ = false := K1.out.free 3
  have c4 : W3.cell? ⟨p, 4, none⟩ = some (.bool k) := K1.out.cell 4
  have g4 : W3.frozen? ⟨p, 4, none⟩ = false := K1.out.free 4
  have c5 : W3.cell? ⟨p, 5, none⟩ = some (.bool u) := K1.out.cell 5
  have g5 : W3.frozen? ⟨p, 5, none⟩ = false := K1.out.free 5
  have m0 : W3.cell? ⟨q, 0, none⟩ = some (.bool a) := K2.out.cell 0
  have m1 : W3.cell? ⟨q, 1, none⟩ = some (.bool b) := K2.out.cell 1
  have m2 : W3.cell? ⟨q, 2, none⟩ = some (.bool c) := K2.out.cell 2
  have m3 : W3.cell? ⟨q, 3, none⟩ = some (.bool d) := K2.out.cell 3
  have m4 : W3.cell? ⟨q, 4, none⟩ = some (.bool f) := K2.out.cell 4
  cases a <;> cases b
  · obtain ⟨w4, hw4⟩ : ∃ z, (W3.setCell ⟨p, 3, none⟩ (.int .i64 0)) = z := ⟨_, rfl⟩
    have l1 : Bk w4 p 26 #[.string J, .string N, .slice A n cp, .int .i64 0, .bool k, .bool u] := by rw [← hw4]; simpa using (K1.out.put 3 (.int .i64 0))
    have l2 : Bk w4 q 23 #[.bool false, .bool false, .bool c, .bool d, .bool f] := by rw [← hw4]; exact (K2.out.far (p := ⟨p, 3, none⟩) hn1 (.int .i64 0))
    have l3 : Bk w4 r 26 #[.string ⟨#[]⟩, .string ⟨#[]⟩, .slice none 0 0, .int .i64 0, .bool false, .bool false] := by rw [← hw4]; exact (K3.out.far (p := ⟨p, 3, none⟩) hn3 (.int .i64 0))
    have b4 : Hid (Below w.heap.size w w4) := by rw [← hw4]; exact (B3.out.setCell (p := ⟨p, 3, none⟩) HLE.out.1 (.int .i64 0))
    have M0 : w4.cell? ⟨q, 0, none⟩ = some (.bool false) := l2.cell 0
    have M1 : w4.cell? ⟨q, 1, none⟩ = some (.bool false) := l2.cell 1
    have M2 : w4.cell? ⟨q, 2, none⟩ = some (.bool c) := l2.cell 2
    have M3 : w4.cell? ⟨q, 3, none⟩ = some (.bool d) := l2.cell 3
    have M4 : w4.cell? ⟨q, 4, none⟩ = some (.bool f) := l2.cell 4
    go_upto_region 6 with fail
    clear c0 c1 c2 c3 c4 c5 g0 g1 g2 g3 g4 g5 m0 m1 m2 m3 m4 hw4
    clear M0 M1 M2 M3 M4
    obtain ⟨wb, hwb⟩ : ∃ z, (w4.setCell ⟨p, 4, none⟩ (.bool c)).setCell ⟨p, 5, none⟩ (.bool f) = z := ⟨_, rfl⟩
    have n1 : Bk wb p 26 #[.string J, .string N, .slice A n cp, .int .i64 0, .bool c, .bool f] := by rw [← hwb]; simpa using (l1.put 4 (.bool c)).put 5 (.bool f)
    have n2 : Bk wb q 23 #[.bool false, .bool false, .bool c, .bool d, .bool f] := by rw [← hwb]; exact (l2.far (p := ⟨p, 4, none⟩) hn1 _).far (p := ⟨p, 5, none⟩) hn1 _
    have n3 : Bk wb r 26 #[.string ⟨#[]⟩, .string ⟨#[]⟩, .slice none 0 0, .int .i64 0, .bool false, .bool false] := by rw [← hwb]; exact (l3.far (p := ⟨p, 4, none⟩) hn3 _).far (p := ⟨p, 5, none⟩) hn3 _
    have nb : Hid (Below w.heap.size w wb) := by rw [← hwb]; exact (b4.out.setCell (p := ⟨p, 4, none⟩) HLE.out.1 _).setCell (p := ⟨p, 5, none⟩) HLE.out.1 _
    have m0 : w4.cell? ⟨q, 0, none⟩ = some (.bool false) := l2.cell 0
    have m1 : w4.cell? ⟨q, 1, none⟩ = some (.bool false) := l2.cell 1
    have m2 : w4.cell? ⟨q, 2, none⟩ = some (.bool c) := l2.cell 2
    have m3 : w4.cell? ⟨q, 3, none⟩ = some (.bool d) := l2.cell 3
    have m4 : w4.cell? ⟨q, 4, none⟩ = some (.bool f) := l2.cell 4
    have v4 : w4.cell? ⟨p, 4, none⟩ = some (.bool k) := l1.cell 4
    have v5 : w4.cell? ⟨p, 5, none⟩ = some (.bool u) := l1.cell 5
    have x4 : w4.frozen? ⟨p, 4, none⟩ = false := l1.free 4
    have x5 : w4.frozen? ⟨p, 5, none⟩ = false := l1.free 5
    have y0 : wb.cell? ⟨q, 0, none⟩ = some (.bool false) := n2.cell 0
    have y1 : wb.cell? ⟨q, 1, none⟩ = some (.bool false) := n2.cell 1
    have y2 : wb.cell? ⟨q, 2, none⟩ = some (.bool c) := n2.cell 2
    have y3 : wb.cell? ⟨q, 3, none⟩ = some (.bool d) := n2.cell 3
    have y4 : wb.cell? ⟨q, 4, none⟩ = some (.bool f) := n2.cell 4
    have N1 := Lib.hid n1
    have N3 := Lib.hid n3
    clear l1 l2 l3 n1 n2 n3
    first | go_region | (go_simp; go_region) | (go_step; go_region)
    clear m0 m1 m2 m3 m4 y0 y1 y2 y3 y4 v4 v5 x4 x5 hwb
    obtain ⟨wd, hwd⟩ : ∃ z, wb.drew = z := ⟨_, rfl⟩
    have N1d : Bk wd p 26 #[.string J, .string N, .slice A n cp, .int .i64 0, .bool c, .bool f] := by rw [← hwd]; exact N1.out.drew
    have N3d : Bk wd r 26 #[.string ⟨#[]⟩, .string ⟨#[]⟩, .slice none 0 0, .int .i64 0, .bool false, .bool false] := by rw [← hwd]; exact N3.out.drew
    have NBd : Below w.heap.size w wd := by rw [← hwd]; exact nb.out.drew
    rw [hwd]
    have i0 : wd.cell? ⟨p, 0, none⟩ = some (.string J) := N1d.cell 0
    have i1 : wd.cell? ⟨p, 1, none⟩ = some (.string N) := N1d.cell 1
    have i2 : wd.cell? ⟨p, 2, none⟩ = some (.slice A n cp) := N1d.cell 2
    have i3 : wd.cell? ⟨p, 3, none⟩ = some (.int .i64 0) := N1d.cell 3
    have i4 : wd.cell? ⟨p, 4, none⟩ = some (.bool c) := N1d.cell 4
    have i5 : wd.cell? ⟨p, 5, none⟩ = some (.bool f) := N1d.cell 5
    have r0 : wd.cell? ⟨r, 0, none⟩ = some (.string ⟨#[]⟩) := N3d.cell 0
    have g0 : wd.frozen? ⟨r, 0, none⟩ = false := N3d.free 0
    have r1 : wd.cell? ⟨r, 1, none⟩ = some (.string ⟨#[]⟩) := N3d.cell 1
    have g1 : wd.frozen? ⟨r, 1, none⟩ = false := N3d.free 1
    have r2 : wd.cell? ⟨r, 2, none⟩ = some (.slice none 0 0) := N3d.cell 2
    have g2 : wd.frozen? ⟨r, 2, none⟩ = false := N3d.free 2
    have r3 : wd.cell? ⟨r, 3, none⟩ = some (.int .i64 0) := N3d.cell 3
    have g3 : wd.frozen? ⟨r, 3, none⟩ = false := N3d.free 3
    have r4 : wd.cell? ⟨r, 4, none⟩ = some (.bool false) := N3d.cell 4
    have g4 : wd.frozen? ⟨r, 4, none⟩ = false := N3d.free 4
    have r5 : wd.cell? ⟨r, 5, none⟩ = some (.bool false) := N3d.cell 5
    have g5 : wd.frozen? ⟨r, 5, none⟩ = false := N3d.free 5
    have R5 := Lib.hid (laid6M_bk N3d (.string J) (.string N) (.slice A n cp) (.int .i64 0) (.bool c) (.bool f))
    have B5 := Lib.hid (laid6M_below NBd HLE.out.2 (.string J) (.string N) (.slice A n cp) (.int .i64 0) (.bool c) (.bool f))
    obtain ⟨w5, hw5⟩ : ∃ z, laid6M wd r (.string J) (.string N) (.slice A n cp) (.int .i64 0) (.bool c) (.bool f) = z := ⟨_, rfl⟩
    rw [hw5] at R5 B5
    go_wp2_with fail
    have j0 : w5.cell? ⟨r, 0, none⟩ = some (.string J) := R5.out.cell 0
    have j1 : w5.cell? ⟨r, 1, none⟩ = some (.string N) := R5.out.cell 1
    have j2 : w5.cell? ⟨r, 2, none⟩ = some (.slice A n cp) := R5.out.cell 2
    have j3 : w5.cell? ⟨r, 3, none⟩ = some (.int .i64 0) := R5.out.cell 3
    have j4 : w5.cell? ⟨r, 4, none⟩ = some (.bool c) := R5.out.cell 4
    have j5 : w5.cell? ⟨r, 5, none⟩ = some (.bool f) := R5.out.cell 5
    refine bodyPost_ret (v := .agg #[.string J, .string N, .slice A n cp, .int .i64 0, .bool c, .bool f]) (by simp [results, Try.results18, go_sem, j0, j1, j2, j3, j4, j5]) rfl ?_
    exact ⟨by rw [HAI.out]; rfl, B5.out⟩
  · obtain ⟨w4, hw4⟩ : ∃ z, ((W3.setCell ⟨p, 3, none⟩ (.int .i64 0)).setCell ⟨p, 3, none⟩ (.int .i64 2)) = z := ⟨_, rfl⟩
    have l1 : Bk w4 p 26 #[.string J, .string N, .slice A n cp, .int .i64 2, .bool k, .bool u] := by rw [← hw4]; simpa using ((K1.out.put 3 (.int .i64 0)).put 3 (.int .i64 2))
    have l2 : Bk w4 q 23 #[.bool false, .bool true, .bool c, .bool d, .bool f] := by rw [← hw4]; exact ((K2.out.far (p := ⟨p, 3, none⟩) hn1 (.int .i64 0)).far (p := ⟨p, 3, none⟩) hn1 (.int .i64 2))
    have l3 : Bk w4 r 26 #[.string ⟨#[]⟩, .string ⟨#[]⟩, .slice none 0 0, .int .i64 0, .bool false, .bool false] := by rw [← hw4]; exact ((K3.out.far (p := ⟨p, 3, none⟩) hn3 (.int .i64 0)).far (p := ⟨p, 3, none⟩) hn3 (.int .i64 2))
    have b4 : Hid (Below w.heap.size w w4) := by rw [← hw4]; exact ((B3.out.setCell (p := ⟨p, 3, none⟩) HLE.out.1 (.int .i64 0)).setCell (p := ⟨p, 3, none⟩) HLE.out.1 (.int .i64 2))
    have M0 : w4.cell? ⟨q, 0, none⟩ = some (.bool false) := l2.cell 0
    have M1 : w4.cell? ⟨q, 1, none⟩ = some (.bool true) := l2.cell 1
    have M2 : w4.cell? ⟨q, 2, none⟩ = some (.bool c) := l2.cell 2
    have M3 : w4.cell? ⟨q, 3, none⟩ = some (.bool d) := l2.cell 3
    have M4 : w4.cell? ⟨q, 4, none⟩ = some (.bool f) := l2.cell 4
    go_upto_region 6 with fail
    clear c0 c1 c2 c3 c4 c5 g0 g1 g2 g3 g4 g5 m0 m1 m2 m3 m4 hw4
    clear M0 M1 M2 M3 M4
    obtain ⟨wb, hwb⟩ : ∃ z, (w4.setCell ⟨p, 4, none⟩ (.bool c)).setCell ⟨p, 5, none⟩ (.bool f) = z := ⟨_, rfl⟩
    have n1 : Bk wb p 26 #[.string J, .string N, .slice A n cp, .int .i64 2, .bool c, .bool f] := by rw [← hwb]; simpa using (l1.put 4 (.bool c)).put 5 (.bool f)
    have n2 : Bk wb q 23 #[.bool false, .bool true, .bool c, .bool d, .bool f] := by rw [← hwb]; exact (l2.far (p := ⟨p, 4, none⟩) hn1 _).far (p := ⟨p, 5, none⟩) hn1 _
    have n3 : Bk wb r 26 #[.string ⟨#[]⟩, .string ⟨#[]⟩, .slice none 0 0, .int .i64 0, .bool false, .bool false] := by rw [← hwb]; exact (l3.far (p := ⟨p, 4, none⟩) hn3 _).far (p := ⟨p, 5, none⟩) hn3 _
    have nb : Hid (Below w.heap.size w wb) := by rw [← hwb]; exact (b4.out.setCell (p := ⟨p, 4, none⟩) HLE.out.1 _).setCell (p := ⟨p, 5, none⟩) HLE.out.1 _
    have m0 : w4.cell? ⟨q, 0, none⟩ = some (.bool false) := l2.cell 0
    have m1 : w4.cell? ⟨q, 1, none⟩ = some (.bool true) := l2.cell 1
    have m2 : w4.cell? ⟨q, 2, none⟩ = some (.bool c) := l2.cell 2
    have m3 : w4.cell? ⟨q, 3, none⟩ = some (.bool d) := l2.cell 3
    have m4 : w4.cell? ⟨q, 4, none⟩ = some (.bool f) := l2.cell 4
    have v4 : w4.cell? ⟨p, 4, none⟩ = some (.bool k) := l1.cell 4
    have v5 : w4.cell? ⟨p, 5, none⟩ = some (.bool u) := l1.cell 5
    have x4 : w4.frozen? ⟨p, 4, none⟩ = false := l1.free 4
    have x5 : w4.frozen? ⟨p, 5, none⟩ = false := l1.free 5
    have y0 : wb.cell? ⟨q, 0, none⟩ = some (.bool false) := n2.cell 0
    have y1 : wb.cell? ⟨q, 1, none⟩ = some (.bool true) := n2.cell 1
    have y2 : wb.cell? ⟨q, 2, none⟩ = some (.bool c) := n2.cell 2
    have y3 : wb.cell? ⟨q, 3, none⟩ = some (.bool d) := n2.cell 3
    have y4 : wb.cell? ⟨q, 4, none⟩ = some (.bool f) := n2.cell 4
    have N1 := Lib.hid n1
    have N3 := Lib.hid n3
    clear l1 l2 l3 n1 n2 n3
    first | go_region | (go_simp; go_region) | (go_step; go_region)
    clear m0 m1 m2 m3 m4 y0 y1 y2 y3 y4 v4 v5 x4 x5 hwb
    obtain ⟨wd, hwd⟩ : ∃ z, wb.drew = z := ⟨_, rfl⟩
    have N1d : Bk wd p 26 #[.string J, .string N, .slice A n cp, .int .i64 2, .bool c, .bool f] := by rw [← hwd]; exact N1.out.drew
    have N3d : Bk wd r 26 #[.string ⟨#[]⟩, .string ⟨#[]⟩, .slice none 0 0, .int .i64 0, .bool false, .bool false] := by rw [← hwd]; exact N3.out.drew
    have NBd : Below w.heap.size w wd := by rw [← hwd]; exact nb.out.drew
    rw [hwd]
    have i0 : wd.cell? ⟨p, 0, none⟩ = some (.string J) := N1d.cell 0
    have i1 : wd.cell? ⟨p, 1, none⟩ = some (.string N) := N1d.cell 1
    have i2 : wd.cell? ⟨p, 2, none⟩ = some (.slice A n cp) := N1d.cell 2
    have i3 : wd.cell? ⟨p, 3, none⟩ = some (.int .i64 2) := N1d.cell 3
    have i4 : wd.cell? ⟨p, 4, none⟩ = some (.bool c) := N1d.cell 4
    have i5 : wd.cell? ⟨p, 5, none⟩ = some (.bool f) := N1d.cell 5
    have r0 : wd.cell? ⟨r, 0, none⟩ = some (.string ⟨#[]⟩) := N3d.cell 0
    have g0 : wd.frozen? ⟨r, 0, none⟩ = false := N3d.free 0
    have r1 : wd.cell? ⟨r, 1, none⟩ = some (.string ⟨#[]⟩) := N3d.cell 1
    have g1 : wd.frozen? ⟨r, 1, none⟩ = false := N3d.free 1
    have r2 : wd.cell? ⟨r, 2, none⟩ = some (.slice none 0 0) := N3d.cell 2
    have g2 : wd.frozen? ⟨r, 2, none⟩ = false := N3d.free 2
    have r3 : wd.cell? ⟨r, 3, none⟩ = some (.int .i64 0) := N3d.cell 3
    have g3 : wd.frozen? ⟨r, 3, none⟩ = false := N3d.free 3
    have r4 : wd.cell? ⟨r, 4, none⟩ = some (.bool false) := N3d.cell 4
    have g4 : wd.frozen? ⟨r, 4, none⟩ = false := N3d.free 4
    have r5 : wd.cell? ⟨r, 5, none⟩ = some (.bool false) := N3d.cell 5
    have g5 : wd.frozen? ⟨r, 5, none⟩ = false := N3d.free 5
    have R5 := Lib.hid (laid6M_bk N3d (.string J) (.string N) (.slice A n cp) (.int .i64 2) (.bool c) (.bool f))
    have B5 := Lib.hid (laid6M_below NBd HLE.out.2 (.string J) (.string N) (.slice A n cp) (.int .i64 2) (.bool c) (.bool f))
    obtain ⟨w5, hw5⟩ : ∃ z, laid6M wd r (.string J) (.string N) (.slice A n cp) (.int .i64 2) (.bool c) (.bool f) = z := ⟨_, rfl⟩
    rw [hw5] at R5 B5
    go_wp2_with fail
    have j0 : w5.cell? ⟨r, 0, none⟩ = some (.string J) := R5.out.cell 0
    have j1 : w5.cell? ⟨r, 1, none⟩ = some (.string N) := R5.out.cell 1
    have j2 : w5.cell? ⟨r, 2, none⟩ = some (.slice A n cp) := R5.out.cell 2
    have j3 : w5.cell? ⟨r, 3, none⟩ = some (.int .i64 2) := R5.out.cell 3
    have j4 : w5.cell? ⟨r, 4, none⟩ = some (.bool c) := R5.out.cell 4
    have j5 : w5.cell? ⟨r, 5, none⟩ = some (.bool f) := R5.out.cell 5
    refine bodyPost_ret (v := .agg #[.string J, .string N, .slice A n cp, .int .i64 2, .bool c, .bool f]) (by simp [results, Try.results18, go_sem, j0, j1, j2, j3, j4, j5]) rfl ?_
    exact ⟨by rw [HAI.out]; rfl, B5.out⟩
  · obtain ⟨w4, hw4⟩ : ∃ z, ((W3.setCell ⟨p, 3, none⟩ (.int .i64 0)).setCell ⟨p, 3, none⟩ (.int .i64 1)) = z := ⟨_, rfl⟩
    have l1 : Bk w4 p 26 #[.string J, .string N, .slice A n cp, .int .i64 1, .bool k, .bool u] := by rw [← hw4]; simpa using ((K1.out.put 3 (.int .i64 0)).put 3 (.int .i64 1))
    have l2 : Bk w4 q 23 #[.bool true, .bool false, .bool c, .bool d, .bool f] := by rw [← hw4]; exact ((K2.out.far (p := ⟨p, 3, none⟩) hn1 (.int .i64 0)).far (p := ⟨p, 3, none⟩) hn1 (.int .i64 1))
    have l3 : Bk w4 r 26 #[.string ⟨#[]⟩, .string ⟨#[]⟩, .slice none 0 0, .int .i64 0, .bool false, .bool false] := by rw [← hw4]; exact ((K3.out.far (p := ⟨p, 3, none⟩) hn3 (.int .i64 0)).far (p := ⟨p, 3, none⟩) hn3 (.int .i64 1))
    have b4 : Hid (Below w.heap.size w w4) := by rw [← hw4]; exact ((B3.out.setCell (p := ⟨p, 3, none⟩) HLE.out.1 (.int .i64 0)).setCell (p := ⟨p, 3, none⟩) HLE.out.1 (.int .i64 1))
    have M0 : w4.cell? ⟨q, 0, none⟩ = some (.bool true) := l2.cell 0
    have M1 : w4.cell? ⟨q, 1, none⟩ = some (.bool false) := l2.cell 1
    have M2 : w4.cell? ⟨q, 2, none⟩ = some (.bool c) := l2.cell 2
    have M3 : w4.cell? ⟨q, 3, none⟩ = some (.bool d) := l2.cell 3
    have M4 : w4.cell? ⟨q, 4, none⟩ = some (.bool f) := l2.cell 4
    go_upto_region 6 with fail
    clear c0 c1 c2 c3 c4 c5 g0 g1 g2 g3 g4 g5 m0 m1 m2 m3 m4 hw4
    clear M0 M1 M2 M3 M4
    obtain ⟨wb, hwb⟩ : ∃ z, (w4.setCell ⟨p, 4, none⟩ (.bool c)).setCell ⟨p, 5, none⟩ (.bool f) = z := ⟨_, rfl⟩
    have n1 : Bk wb p 26 #[.string J, .string N, .slice A n cp, .int .i64 1, .bool c, .bool f] := by rw [← hwb]; simpa using (l1.put 4 (.bool c)).put 5 (.bool f)
    have n2 : Bk wb q 23 #[.bool true, .bool false, .bool c, .bool d, .bool f] := by rw [← hwb]; exact (l2.far (p := ⟨p, 4, none⟩) hn1 _).far (p := ⟨p, 5, none⟩) hn1 _
    have n3 : Bk wb r 26 #[.string ⟨#[]⟩, .string ⟨#[]⟩, .slice none 0 0, .int .i64 0, .bool false, .bool false] := by rw [← hwb]; exact (l3.far (p := ⟨p, 4, none⟩) hn3 _).far (p := ⟨p, 5, none⟩) hn3 _
    have nb : Hid (Below w.heap.size w wb) := by rw [← hwb]; exact (b4.out.setCell (p := ⟨p, 4, none⟩) HLE.out.1 _).setCell (p := ⟨p, 5, none⟩) HLE.out.1 _
    have m0 : w4.cell? ⟨q, 0, none⟩ = some (.bool true) := l2.cell 0
    have m1 : w4.cell? ⟨q, 1, none⟩ = some (.bool false) := l2.cell 1
    have m2 : w4.cell? ⟨q, 2, none⟩ = some (.bool c) := l2.cell 2
    have m3 : w4.cell? ⟨q, 3, none⟩ = some (.bool d) := l2.cell 3
    have m4 : w4.cell? ⟨q, 4, none⟩ = some (.bool f) := l2.cell 4
    have v4 : w4.cell? ⟨p, 4, none⟩ = some (.bool k) := l1.cell 4
    have v5 : w4.cell? ⟨p, 5, none⟩ = some (.bool u) := l1.cell 5
    have x4 : w4.frozen? ⟨p, 4, none⟩ = false := l1.free 4
    have x5 : w4.frozen? ⟨p, 5, none⟩ = false := l1.free 5
    have y0 : wb.cell? ⟨q, 0, none⟩ = some (.bool true) := n2.cell 0
    have y1 : wb.cell? ⟨q, 1, none⟩ = some (.bool false) := n2.cell 1
    have y2 : wb.cell? ⟨q, 2, none⟩ = some (.bool c) := n2.cell 2
    have y3 : wb.cell? ⟨q, 3, none⟩ = some (.bool d) := n2.cell 3
    have y4 : wb.cell? ⟨q, 4, none⟩ = some (.bool f) := n2.cell 4
    have N1 := Lib.hid n1
    have N3 := Lib.hid n3
    clear l1 l2 l3 n1 n2 n3
    first | go_region | (go_simp; go_region) | (go_step; go_region)
    clear m0 m1 m2 m3 m4 y0 y1 y2 y3 y4 v4 v5 x4 x5 hwb
    obtain ⟨wd, hwd⟩ : ∃ z, wb.drew = z := ⟨_, rfl⟩
    have N1d : Bk wd p 26 #[.string J, .string N, .slice A n cp, .int .i64 1, .bool c, .bool f] := by rw [← hwd]; exact N1.out.drew
    have N3d : Bk wd r 26 #[.string ⟨#[]⟩, .string ⟨#[]⟩, .slice none 0 0, .int .i64 0, .bool false, .bool false] := by rw [← hwd]; exact N3.out.drew
    have NBd : Below w.heap.size w wd := by rw [← hwd]; exact nb.out.drew
    rw [hwd]
    have i0 : wd.cell? ⟨p, 0, none⟩ = some (.string J) := N1d.cell 0
    have i1 : wd.cell? ⟨p, 1, none⟩ = some (.string N) := N1d.cell 1
    have i2 : wd.cell? ⟨p, 2, none⟩ = some (.slice A n cp) := N1d.cell 2
    have i3 : wd.cell? ⟨p, 3, none⟩ = some (.int .i64 1) := N1d.cell 3
    have i4 : wd.cell? ⟨p, 4, none⟩ = some (.bool c) := N1d.cell 4
    have i5 : wd.cell? ⟨p, 5, none⟩ = some (.bool f) := N1d.cell 5
    have r0 : wd.cell? ⟨r, 0, none⟩ = some (.string ⟨#[]⟩) := N3d.cell 0
    have g0 : wd.frozen? ⟨r, 0, none⟩ = false := N3d.free 0
    have r1 : wd.cell? ⟨r, 1, none⟩ = some (.string ⟨#[]⟩) := N3d.cell 1
    have g1 : wd.frozen? ⟨r, 1, none⟩ = false := N3d.free 1
    have r2 : wd.cell? ⟨r, 2, none⟩ = some (.slice none 0 0) := N3d.cell 2
    have g2 : wd.frozen? ⟨r, 2, none⟩ = false := N3d.free 2
    have r3 : wd.cell? ⟨r, 3, none⟩ = some (.int .i64 0) := N3d.cell 3
    have g3 : wd.frozen? ⟨r, 3, none⟩ = false := N3d.free 3
    have r4 : wd.cell? ⟨r, 4, none⟩ = some (.bool false) := N3d.cell 4
    have g4 : wd.frozen? ⟨r, 4, none⟩ = false := N3d.free 4
    have r5 : wd.cell? ⟨r, 5, none⟩ = some (.bool false) := N3d.cell 5
    have g5 : wd.frozen? ⟨r, 5, none⟩ = false := N3d.free 5
    have R5 := Lib.hid (laid6M_bk N3d (.string J) (.string N) (.slice A n cp) (.int .i64 1) (.bool c) (.bool f))
    have B5 := Lib.hid (laid6M_below NBd HLE.out.2 (.string J) (.string N) (.slice A n cp) (.int .i64 1) (.bool c) (.bool f))
    obtain ⟨w5, hw5⟩ : ∃ z, laid6M wd r (.string J) (.string N) (.slice A n cp) (.int .i64 1) (.bool c) (.bool f) = z := ⟨_, rfl⟩
    rw [hw5] at R5 B5
    go_wp2_with fail
    have j0 : w5.cell? ⟨r, 0, none⟩ = some (.string J) := R5.out.cell 0
    have j1 : w5.cell? ⟨r, 1, none⟩ = some (.string N) := R5.out.cell 1
    have j2 : w5.cell? ⟨r, 2, none⟩ = some (.slice A n cp) := R5.out.cell 2
    have j3 : w5.cell? ⟨r, 3, none⟩ = some (.int .i64 1) := R5.out.cell 3
    have j4 : w5.cell? ⟨r, 4, none⟩ = some (.bool c) := R5.out.cell 4
    have j5 : w5.cell? ⟨r, 5, none⟩ = some (.bool f) := R5.out.cell 5
    refine bodyPost_ret (v := .agg #[.string J, .string N, .slice A n cp, .int .i64 1, .bool c, .bool f]) (by simp [results, Try.results18, go_sem, j0, j1, j2, j3, j4, j5]) rfl ?_
    exact ⟨by rw [HAI.out]; rfl, B5.out⟩
  · obtain ⟨w4, hw4⟩ : ∃ z, (((W3.setCell ⟨p, 3, none⟩ (.int .i64 0)).setCell ⟨p, 3, none⟩ (.int .i64 1)).setCell ⟨p, 3, none⟩ (.int .i64 3)) = z := ⟨_, rfl⟩
    have l1 : Bk w4 p 26 #[.string J, .string N, .slice A n cp, .int .i64 3, .bool k, .bool u] := by rw [← hw4]; simpa using (((K1.out.put 3 (.int .i64 0)).put 3 (.int .i64 1)).put 3 (.int .i64 3))
    have l2 : Bk w4 q 23 #[.bool true, .bool true, .bool c, .bool d, .bool f] := by rw [← hw4]; exact (((K2.out.far (p := ⟨p, 3, none⟩) hn1 (.int .i64 0)).far (p := ⟨p, 3, none⟩) hn1 (.int .i64 1)).far (p := ⟨p, 3, none⟩) hn1 (.int .i64 3))
    have l3 : Bk w4 r 26 #[.string ⟨#[]⟩, .string ⟨#[]⟩, .slice none 0 0, .int .i64 0, .bool false, .bool false] := by rw [← hw4]; exact (((K3.out.far (p := ⟨p, 3, none⟩) hn3 (.int .i64 0)).far (p := ⟨p, 3, none⟩) hn3 (.int .i64 1)).far (p := ⟨p, 3, none⟩) hn3 (.int .i64 3))
    have b4 : Hid (Below w.heap.size w w4) := by rw [← hw4]; exact (((B3.out.setCell (p := ⟨p, 3, none⟩) HLE.out.1 (.int .i64 0)).setCell (p := ⟨p, 3, none⟩) HLE.out.1 (.int .i64 1)).setCell (p := ⟨p, 3, none⟩) HLE.out.1 (.int .i64 3))
    have M0 : w4.cell? ⟨q, 0, none⟩ = some (.bool true) := l2.cell 0
    have M1 : w4.cell? ⟨q, 1, none⟩ = some (.bool true) := l2.cell 1
    have M2 : w4.cell? ⟨q, 2, none⟩ = some (.bool c) := l2.cell 2
    have M3 : w4.cell? ⟨q, 3, none⟩ = some (.bool d) := l2.cell 3
    have M4 : w4.cell? ⟨q, 4, none⟩ = some (.bool f) := l2.cell 4
    go_upto_region 6 with fail
    clear c0 c1 c2 c3 c4 c5 g0 g1 g2 g3 g4 g5 m0 m1 m2 m3 m4 hw4
    clear M0 M1 M2 M3 M4
    obtain ⟨wb, hwb⟩ : ∃ z, (w4.setCell ⟨p, 4, none⟩ (.bool c)).setCell ⟨p, 5, none⟩ (.bool f) = z := ⟨_, rfl⟩
    have n1 : Bk wb p 26 #[.string J, .string N, .slice A n cp, .int .i64 3, .bool c, .bool f] := by rw [← hwb]; simpa using (l1.put 4 (.bool c)).put 5 (.bool f)
    have n2 : Bk wb q 23 #[.bool true, .bool true, .bool c, .bool d, .bool f] := by rw [← hwb]; exact (l2.far (p := ⟨p, 4, none⟩) hn1 _).far (p := ⟨p, 5, none⟩) hn1 _
    have n3 : Bk wb r 26 #[.string ⟨#[]⟩, .string ⟨#[]⟩, .slice none 0 0, .int .i64 0, .bool false, .bool false] := by rw [← hwb]; exact (l3.far (p := ⟨p, 4, none⟩) hn3 _).far (p := ⟨p, 5, none⟩) hn3 _
    have nb : Hid (Below w.heap.size w wb) := by rw [← hwb]; exact (b4.out.setCell (p := ⟨p, 4, none⟩) HLE.out.1 _).setCell (p := ⟨p, 5, none⟩) HLE.out.1 _
    have m0 : w4.cell? ⟨q, 0, none⟩ = some (.bool true) := l2.cell 0
    have m1 : w4.cell? ⟨q, 1, none⟩ = some (.bool true) := l2.cell 1
    have m2 : w4.cell? ⟨q, 2, none⟩ = some (.bool c) := l2.cell 2
    have m3 : w4.cell? ⟨q, 3, none⟩ = some (.bool d) := l2.cell 3
    have m4 : w4.cell? ⟨q, 4, none⟩ = some (.bool f) := l2.cell 4
    have v4 : w4.cell? ⟨p, 4, none⟩ = some (.bool k) := l1.cell 4
    have v5 : w4.cell? ⟨p, 5, none⟩ = some (.bool u) := l1.cell 5
    have x4 : w4.frozen? ⟨p, 4, none⟩ = false := l1.free 4
    have x5 : w4.frozen? ⟨p, 5, none⟩ = false := l1.free 5
    have y0 : wb.cell? ⟨q, 0, none⟩ = some (.bool true) := n2.cell 0
    have y1 : wb.cell? ⟨q, 1, none⟩ = some (.bool true) := n2.cell 1
    have y2 : wb.cell? ⟨q, 2, none⟩ = some (.bool c) := n2.cell 2
    have y3 : wb.cell? ⟨q, 3, none⟩ = some (.bool d) := n2.cell 3
    have y4 : wb.cell? ⟨q, 4, none⟩ = some (.bool f) := n2.cell 4
    have N1 := Lib.hid n1
    have N3 := Lib.hid n3
    clear l1 l2 l3 n1 n2 n3
    first | go_region | (go_simp; go_region) | (go_step; go_region)
    clear m0 m1 m2 m3 m4 y0 y1 y2 y3 y4 v4 v5 x4 x5 hwb
    obtain ⟨wd, hwd⟩ : ∃ z, wb.drew = z := ⟨_, rfl⟩
    have N1d : Bk wd p 26 #[.string J, .string N, .slice A n cp, .int .i64 3, .bool c, .bool f] := by rw [← hwd]; exact N1.out.drew
    have N3d : Bk wd r 26 #[.string ⟨#[]⟩, .string ⟨#[]⟩, .slice none 0 0, .int .i64 0, .bool false, .bool false] := by rw [← hwd]; exact N3.out.drew
    have NBd : Below w.heap.size w wd := by rw [← hwd]; exact nb.out.drew
    rw [hwd]
    have i0 : wd.cell? ⟨p, 0, none⟩ = some (.string J) := N1d.cell 0
    have i1 : wd.cell? ⟨p, 1, none⟩ = some (.string N) := N1d.cell 1
    have i2 : wd.cell? ⟨p, 2, none⟩ = some (.slice A n cp) := N1d.cell 2
    have i3 : wd.cell? ⟨p, 3, none⟩ = some (.int .i64 3) := N1d.cell 3
    have i4 : wd.cell? ⟨p, 4, none⟩ = some (.bool c) := N1d.cell 4
    have i5 : wd.cell? ⟨p, 5, none⟩ = some (.bool f) := N1d.cell 5
    have r0 : wd.cell? ⟨r, 0, none⟩ = some (.string ⟨#[]⟩) := N3d.cell 0
    have g0 : wd.frozen? ⟨r, 0, none⟩ = false := N3d.free 0
    have r1 : wd.cell? ⟨r, 1, none⟩ = some (.string ⟨#[]⟩) := N3d.cell 1
    have g1 : wd.frozen? ⟨r, 1, none⟩ = false := N3d.free 1
    have r2 : wd.cell? ⟨r, 2, none⟩ = some (.slice none 0 0) := N3d.cell 2
    have g2 : wd.frozen? ⟨r, 2, none⟩ = false := N3d.free 2
    have r3 : wd.cell? ⟨r, 3, none⟩ = some (.int .i64 0) := N3d.cell 3
    have g3 : wd.frozen? ⟨r, 3, none⟩ = false := N3d.free 3
    have r4 : wd.cell? ⟨r, 4, none⟩ = some (.bool false) := N3d.cell 4
    have g4 : wd.frozen? ⟨r, 4, none⟩ = false := N3d.free 4
    have r5 : wd.cell? ⟨r, 5, none⟩ = some (.bool false) := N3d.cell 5
    have g5 : wd.frozen? ⟨r, 5, none⟩ = false := N3d.free 5
    have R5 := Lib.hid (laid6M_bk N3d (.string J) (.string N) (.slice A n cp) (.int .i64 3) (.bool c) (.bool f))
    have B5 := Lib.hid (laid6M_below NBd HLE.out.2 (.string J) (.string N) (.slice A n cp) (.int .i64 3) (.bool c) (.bool f))
    obtain ⟨w5, hw5⟩ : ∃ z, laid6M wd r (.string J) (.string N) (.slice A n cp) (.int .i64 3) (.bool c) (.bool f) = z := ⟨_, rfl⟩
    rw [hw5] at R5 B5
    go_wp2_with fail
    have j0 : w5.cell? ⟨r, 0, none⟩ = some (.string J) := R5.out.cell 0
    have j1 : w5.cell? ⟨r, 1, none⟩ = some (.string N) := R5.out.cell 1
    have j2 : w5.cell? ⟨r, 2, none⟩ = some (.slice A n cp) := R5.out.cell 2
    have j3 : w5.cell? ⟨r, 3, none⟩ = some (.int .i64 3) := R5.out.cell 3
    have j4 : w5.cell? ⟨r, 4, none⟩ = some (.bool c) := R5.out.cell 4
    have j5 : w5.cell? ⟨r, 5, none⟩ = some (.bool f) := R5.out.cell 5
    refine bodyPost_ret (v := .agg #[.string J, .string N, .slice A n cp, .int .i64 3, .bool c, .bool f]) (by simp [results, Try.results18, go_sem, j0, j1, j2, j3, j4, j5]) rfl ?_
    exact ⟨by rw [HAI.out]; rfl, B5.out⟩
end Go.Proofs.Ytpaehhlhngilcaa
