import Derived.Test.YtpaehhlhngilcaaM10
import Derived.Test.YtpaehhlhngilcaaM30
/- what is reached of it -/
namespace Go.Proofs.Ytpaehhlhngilcaa
open Go.RowKit Tx Vc Ct
def subM (m : Mod) : Int := if m.to then (if m.fr then 3 else 1) else (if m.fr then 2 else 0)
/-- the mode that an item tells of -/
def ofM (x : Itm) : Mod := ⟨decide (x.sub = 1) || decide (x.sub = 3), decide (x.sub = 2) || decide (x.sub = 3), x.ask, false, x.app⟩

set_option maxHeartbeats 2000000 in
theorem sub_any (a b c d f : Bool) (w : World) : Calls Try.prog 23 #[.agg #[.bool a, .bool b, .bool c, .bool d, .bool f]] w fun e w' => e = .returned (.int .i64 (subM ⟨a, b, c, d, f⟩)) ∧ Below w.heap.size w w' := by
  obtain ⟨W2, hW2⟩ : ∃ W2, w.alloc (.cells #[.bool a, .bool b, .bool c, .bool d, .bool f] 23) = W2 := ⟨_, rfl⟩
  obtain ⟨p, hp⟩ : ∃ p, w.heap.size = p := ⟨_, rfl⟩
  have k1 : Bk W2 p 23 #[.bool a, .bool b, .bool c, .bool d, .bool f] := by rw [← hW2, ← hp]; exact Bk.new _ _ _
  have B2 : Hid (Below w.heap.size w W2) := by rw [← hW2]; exact (Below.refl _ _).alloc (Nat.le_refl _) _
  have c0 : W2.cell? ⟨p, 0, none⟩ = some (.bool a) := k1.cell 0
  have c1 : W2.cell? ⟨p, 1, none⟩ = some (.bool b) := k1.cell 1
  have c2 : W2.cell? ⟨p, 2, none⟩ = some (.bool c) := k1.cell 2
  have c3 : W2.cell? ⟨p, 3, none⟩ = some (.bool d) := k1.cell 3
  have c4 : W2.cell? ⟨p, 4, none⟩ = some (.bool f) := k1.cell 4
  have HW2 := Lib.hid hW2
  have HP := Lib.hid hp
  clear hW2 hp k1
  go_enter Try.func23, Try.ntmps23
  go_upto_region 1 with fail
  (try rw [HW2.out])
  (try rw [HP.out])
  cases a <;> cases b
  all_goals (go_wp2_with fail; go_ret; exact ⟨rfl, B2.out⟩)
set_option maxHeartbeats 4000000 in
set_option maxRecDepth 100000 in
theorem of_any (x : Itm) (A : Option Addr) (n cp : Nat) (w : World) : Calls Try.prog 14 #[agI x (.slice A n cp)] w fun e w' => e = .returned (agM (ofM x)) ∧ Below w.heap.size w w' := by
  obtain ⟨jid, name, groups, s, k, u⟩ := x
  have hg : agI ⟨jid, name, groups, s, k, u⟩ (.slice A n cp) = .agg #[.string (bts jid), .string (bts name), .slice A n cp, .int .i64 s, .bool k, .bool u] := rfl
  rw [hg]
  have hof : agM (ofM ⟨jid, name, groups, s, k, u⟩) = .agg #[.bool (decide (s = 1) || decide (s = 3)), .bool (decide (s = 2) || decide (s = 3)), .bool k, .bool false, .bool u] := rfl
  rw [hof]
  obtain ⟨J, hJ⟩ : ∃ J, bts jid = J := ⟨_, rfl⟩
  obtain ⟨N, hN⟩ : ∃ J, bts name = J := ⟨_, rfl⟩
  rw [hJ, hN]
  clear hg hof hJ hN
  obtain ⟨W1, hW1⟩ : ∃ W1, w.alloc (.cells #[.string J, .string N, .slice A n cp, .int .i64 s, .bool k, .bool u] 26) = W1 := ⟨_, rfl⟩
  obtain ⟨p, hp⟩ : ∃ p, w.heap.size = p := ⟨_, rfl⟩
  obtain ⟨W2, hW2⟩ : ∃ W2, W1.alloc (.cells #[.bool false, .bool false, .bool false, .bool false, .bool false] 23) = W2 := ⟨_, rfl⟩
  obtain ⟨q, hq⟩ : ∃ q, p + 1 = q := ⟨_, rfl⟩
  have hq1 : W1.heap.size = q := by rw [← hW1, World.size_alloc, hp, hq]
  have k1 : Bk W2 p 26 #[.string J, .string N, .slice A n cp, .int .i64 s, .bool k, .bool u] := by rw [← hW2, ← hW1, ← hp]; exact (Bk.new _ _ _).alloc _
  have k2 : Bk W2 q 23 #[.bool false, .bool false, .bool false, .bool false, .bool false] := by rw [← hW2, ← hq1]; exact Bk.new _ _ _
  have B2 : Hid (Below w.heap.size w W2) := by rw [← hW2, ← hW1]; exact ((Below.refl _ _).alloc (Nat.le_refl _) _).alloc (by rw [World.size_alloc]; omega) _
  have hne : ¬ q = p := by omega
  have hne2 : ¬ p = q := by omega
  have c3 : W2.cell? ⟨p, 3, none⟩ = some (.int .i64 s) := k1.cell 3
  have c4 : W2.cell? ⟨p, 4, none⟩ = some (.bool k) := k1.cell 4
  have c5 : W2.cell? ⟨p, 5, none⟩ = some (.bool u) := k1.cell 5
  have d0 : W2.cell? ⟨q, 0, none⟩ = some (.bool false) := k2.cell 0
  have e0 : W2.frozen? ⟨q, 0, none⟩ = false := k2.free 0
  have d1 : W2.cell? ⟨q, 1, none⟩ = some (.bool false) := k2.cell 1
  have e1 : W2.frozen? ⟨q, 1, none⟩ = false := k2.free 1
  have d2 : W2.cell? ⟨q, 2, none⟩ = some (.bool false) := k2.cell 2
  have e2 : W2.frozen? ⟨q, 2, none⟩ = false := k2.free 2
  have d3 : W2.cell? ⟨q, 3, none⟩ = some (.bool false) := k2.cell 3
  have e3 : W2.frozen? ⟨q, 3, none⟩ = false := k2.free 3
  have d4 : W2.cell? ⟨q, 4, none⟩ = some (.bool false) := k2.cell 4
  have e4 : W2.frozen? ⟨q, 4, none⟩ = false := k2.free 4
  have K2 := Lib.hid k2
  have HW1 := Lib.hid hW1
  have HW2 := Lib.hid hW2
  have HP := Lib.hid hp
  have HQ := Lib.hid hq
  have HLE : Hid (w.heap.size ≤ q) := by unfold Hid; omega
  clear hW1 hW2 hp hq k1 k2 hq1
  go_enter Try.func14, Try.ntmps14
  go_upto_region 1 with fail
  (try rw [HW1.out])
  (try rw [HP.out])
  (try rw [HQ.out])
  (try rw [HW2.out])
  by_cases h1 : s = 1
  · subst h1
    have R5 := Lib.hid (laid5_bk K2.out (.bool true) (.bool false) (.bool k) (.bool false) (.bool u))
    have B5 := Lib.hid (laid5_below B2.out HLE.out (.bool true) (.bool false) (.bool k) (.bool false) (.bool u))
    obtain ⟨w5, hw5⟩ : ∃ z, laid5 W2 q (.bool true) (.bool false) (.bool k) (.bool false) (.bool u) = z := ⟨_, rfl⟩
    rw [hw5] at R5 B5
    go_wp2_with fail
    have j0 : w5.cell? ⟨q, 0, none⟩ = some (.bool true) := R5.out.cell 0
    have j1 : w5.cell? ⟨q, 1, none⟩ = some (.bool false) := R5.out.cell 1
    have j2 : w5.cell? ⟨q, 2, none⟩ = some (.bool k) := R5.out.cell 2
    have j3 : w5.cell? ⟨q, 3, none⟩ = some (.bool false) := R5.out.cell 3
    have j4 : w5.cell? ⟨q, 4, none⟩ = some (.bool u) := R5.out.cell 4
    refine bodyPost_ret (v := .agg #[.bool true, .bool false, .bool k, .bool false, .bool u]) (by simp [results, Try.results14, go_sem, j0, j1, j2, j3, j4]) rfl ?_
    exact ⟨by simp, B5.out⟩
  by_cases h3 : s = 3
  · subst h3
    have R5 := Lib.hid (laid5_bk K2.out (.bool true) (.bool true) (.bool k) (.bool false) (.bool u))
    have B5 := Lib.hid (laid5_below B2.out HLE.out (.bool true) (.bool true) (.bool k) (.bool false) (.bool u))
    obtain ⟨w5, hw5⟩ : ∃ z, laid5 W2 q (.bool true) (.bool true) (.bool k) (.bool false) (.bool u) = z := ⟨_, rfl⟩
    rw [hw5] at R5 B5
    go_wp2_with fail
    have j0 : w5.cell? ⟨q, 0, none⟩ = some (.bool true) := R5.out.cell 0
    have j1 : w5.cell? ⟨q, 1, none⟩ = some (.bool true) := R5.out.cell 1
    have j2 : w5.cell? ⟨q, 2, none⟩ = some (.bool k) := R5.out.cell 2
    have j3 : w5.cell? ⟨q, 3, none⟩ = some (.bool false) := R5.out.cell 3
    have j4 : w5.cell? ⟨q, 4, none⟩ = some (.bool u) := R5.out.cell 4
    refine bodyPost_ret (v := .agg #[.bool true, .bool true, .bool k, .bool false, .bool u]) (by simp [results, Try.results14, go_sem, j0, j1, j2, j3, j4]) rfl ?_
    exact ⟨by simp, B5.out⟩
  by_cases h2 : s = 2
  · subst h2
    have R5 := Lib.hid (laid5_bk K2.out (.bool false) (.bool true) (.bool k) (.bool false) (.bool u))
    have B5 := Lib.hid (laid5_below B2.out HLE.out (.bool false) (.bool true) (.bool k) (.bool false) (.bool u))
    obtain ⟨w5, hw5⟩ : ∃ z, laid5 W2 q (.bool false) (.bool true) (.bool k) (.bool false) (.bool u) = z := ⟨_, rfl⟩
    rw [hw5] at R5 B5
    go_wp2_with fail
    have j0 : w5.cell? ⟨q, 0, none⟩ = some (.bool false) := R5.out.cell 0
    have j1 : w5.cell? ⟨q, 1, none⟩ = some (.bool true) := R5.out.cell 1
    have j2 : w5.cell? ⟨q, 2, none⟩ = some (.bool k) := R5.out.cell 2
    have j3 : w5.cell? ⟨q, 3, none⟩ = some (.bool false) := R5.out.cell 3
    have j4 : w5.cell? ⟨q, 4, none⟩ = some (.bool u) := R5.out.cell 4
    refine bodyPost_ret (v := .agg #[.bool false, .bool true, .bool k, .bool false, .bool u]) (by simp [results, Try.results14, go_sem, j0, j1, j2, j3, j4]) rfl ?_
    exact ⟨by simp, B5.out⟩
  · have q1 : (s == 1) = false := by simpa using h1
    have q2 : (s == 2) = false := by simpa using h2
    have q3 : (s == 3) = false := by simpa using h3
    have r1 : decide (s = 1) = false := decide_eq_false h1
    have r2 : decide (s = 2) = false := decide_eq_false h2
    have r3 : decide (s = 3) = false := decide_eq_false h3
    clear h1 h2 h3
    have R5 := Lib.hid (laid5_bk K2.out (.bool false) (.bool false) (.bool k) (.bool false) (.bool u))
    have B5 := Lib.hid (laid5_below B2.out HLE.out (.bool false) (.bool false) (.bool k) (.bool false) (.bool u))
    obtain ⟨w5, hw5⟩ : ∃ z, laid5 W2 q (.bool false) (.bool false) (.bool k) (.bool false) (.bool u) = z := ⟨_, rfl⟩
    rw [hw5] at R5 B5
    go_wp2_with fail
    have j0 : w5.cell? ⟨q, 0, none⟩ = some (.bool false) := R5.out.cell 0
    have j1 : w5.cell? ⟨q, 1, none⟩ = some (.bool false) := R5.out.cell 1
    have j2 : w5.cell? ⟨q, 2, none⟩ = some (.bool k) := R5.out.cell 2
    have j3 : w5.cell? ⟨q, 3, none⟩ = some (.bool false) := R5.out.cell 3
    have j4 : w5.cell? ⟨q, 4, none⟩ = some (.bool u) := R5.out.cell 4
    refine bodyPost_ret (v := .agg #[.bool false, .bool false, .bool k, .bool false, .bool u]) (by simp [results, Try.results14, go_sem, j0, j1, j2, j3, j4]) rfl ?_
    exact ⟨by simp [r1, r2, r3], B5.out⟩
set_option maxHeartbeats 4000000 in
set_option maxRecDepth 100000 in
theorem modeOf_any (x : Itm) (A : Option Addr) (n cp : Nat) (w : World) : Calls Try.prog 15 #[agI x (.slice A n cp)] w fun e w' => e = .returned (agM (ofM x)) ∧ Below w.heap.size w w' := by
  obtain ⟨jid, name, groups, s, k, u⟩ := x
  have hg : agI ⟨jid, name, groups, s, k, u⟩ (.slice A n cp) = .agg #[.string (bts jid), .string (bts name), .slice A n cp, .int .i64 s, .bool k, .bool u] := rfl
  rw [hg]
  have hof : agM (ofM ⟨jid, name, groups, s, k, u⟩) = .agg #[.bool (decide (s = 1) || decide (s = 3)), .bool (decide (s = 2) || decide (s = 3)), .bool k, .bool false, .bool u] := rfl
  rw [hof]
  obtain ⟨J, hJ⟩ : ∃ J, bts jid = J := ⟨_, rfl⟩
  obtain ⟨N, hN⟩ : ∃ J, bts name = J := ⟨_, rfl⟩
  rw [hJ, hN]
  clear hg hof hJ hN
  obtain ⟨W1, hW1⟩ : ∃ W1, w.alloc (.cells #[.string J, .string N, .slice A n cp, .int .i64 s, .bool k, .bool u] 26) = W1 := ⟨_, rfl⟩
  obtain ⟨p, hp⟩ : ∃ p, w.heap.size = p := ⟨_, rfl⟩
  obtain ⟨W2, hW2⟩ : ∃ W2, W1.alloc (.cells #[.bool false, .bool false, .bool false, .bool false, .bool false] 23) = W2 := ⟨_, rfl⟩
  obtain ⟨q, hq⟩ : ∃ q, p + 1 = q := ⟨_, rfl⟩
  have hq1 : W1.heap.size = q := by rw [← hW1, World.size_alloc, hp, hq]
  have k1 : Bk W2 p 26 #[.string J, .string N, .slice A n cp, .int .i64 s, .bool k, .bool u] := by rw [← hW2, ← hW1, ← hp]; exact (Bk.new _ _ _).alloc _
  have k2 : Bk W2 q 23 #[.bool false, .bool false, .bool false, .bool false, .bool false] := by rw [← hW2, ← hq1]; exact Bk.new _ _ _
  have B2 : Hid (Below w.heap.size w W2) := by rw [← hW2, ← hW1]; exact ((Below.refl _ _).alloc (Nat.le_refl _) _).alloc (by rw [World.size_alloc]; omega) _
  have hne : ¬ q = p := by omega
  have hne2 : ¬ p = q := by omega
  have c3 : W2.cell? ⟨p, 3, none⟩ = some (.int .i64 s) := k1.cell 3
  have c4 : W2.cell? ⟨p, 4, none⟩ = some (.bool k) := k1.cell 4
  have c5 : W2.cell? ⟨p, 5, none⟩ = some (.bool u) := k1.cell 5
  have d0 : W2.cell? ⟨q, 0, none⟩ = some (.bool false) := k2.cell 0
  have e0 : W2.frozen? ⟨q, 0, none⟩ = false := k2.free 0
  have d1 : W2.cell? ⟨q, 1, none⟩ = some (.bool false) := k2.cell 1
  have e1 : W2.frozen? ⟨q, 1, none⟩ = false := k2.free 1
  have d2 : W2.cell? ⟨q, 2, none⟩ = some (.bool false) := k2.cell 2
  have e2 : W2.frozen? ⟨q, 2, none⟩ = false := k2.free 2
  have d3 : W2.cell? ⟨q, 3, none⟩ = some (.bool false) := k2.cell 3
  have e3 : W2.frozen? ⟨q, 3, none⟩ = false := k2.free 3
  have d4 : W2.cell? ⟨q, 4, none⟩ = some (.bool false) := k2.cell 4
  have e4 : W2.frozen? ⟨q, 4, none⟩ = false := k2.free 4
  have K2 := Lib.hid k2
  have HW1 := Lib.hid hW1
  have HW2 := Lib.hid hW2
  have HP := Lib.hid hp
  have HQ := Lib.hid hq
  have HLE : Hid (w.heap.size ≤ q) := by unfold Hid; omega
  clear hW1 hW2 hp hq k1 k2 hq1
  go_enter Try.func15, Try.ntmps15
  go_upto_region 1 with fail
  (try rw [HW1.out])
  (try rw [HP.out])
  (try rw [HQ.out])
  (try rw [HW2.out])
  by_cases h1 : s = 1
  · subst h1
    have R5 := Lib.hid (laid5_bk K2.out (.bool true) (.bool false) (.bool k) (.bool false) (.bool u))
    have B5 := Lib.hid (laid5_below B2.out HLE.out (.bool true) (.bool false) (.bool k) (.bool false) (.bool u))
    obtain ⟨w5, hw5⟩ : ∃ z, laid5 W2 q (.bool true) (.bool false) (.bool k) (.bool false) (.bool u) = z := ⟨_, rfl⟩
    rw [hw5] at R5 B5
    go_wp2_with fail
    have j0 : w5.cell? ⟨q, 0, none⟩ = some (.bool true) := R5.out.cell 0
    have j1 : w5.cell? ⟨q, 1, none⟩ = some (.bool false) := R5.out.cell 1
    have j2 : w5.cell? ⟨q, 2, none⟩ = some (.bool k) := R5.out.cell 2
    have j3 : w5.cell? ⟨q, 3, none⟩ = some (.bool false) := R5.out.cell 3
    have j4 : w5.cell? ⟨q, 4, none⟩ = some (.bool u) := R5.out.cell 4
    refine bodyPost_ret (v := .agg #[.bool true, .bool false, .bool k, .bool false, .bool u]) (by simp [results, Try.results15, go_sem, j0, j1, j2, j3, j4]) rfl ?_
    exact ⟨by simp, B5.out⟩
  by_cases h3 : s = 3
  · subst h3
    have R5 := Lib.hid (laid5_bk K2.out (.bool true) (.bool true) (.bool k) (.bool false) (.bool u))
    have B5 := Lib.hid (laid5_below B2.out HLE.out (.bool true) (.bool true) (.bool k) (.bool false) (.bool u))
    obtain ⟨w5, hw5⟩ : ∃ z, laid5 W2 q (.bool true) (.bool true) (.bool k) (.bool false) (.bool u) = z := ⟨_, rfl⟩
    rw [hw5] at R5 B5
    go_wp2_with fail
    have j0 : w5.cell? ⟨q, 0, none⟩ = some (.bool true) := R5.out.cell 0
    have j1 : w5.cell? ⟨q, 1, none⟩ = some (.bool true) := R5.out.cell 1
    have j2 : w5.cell? ⟨q, 2, none⟩ = some (.bool k) := R5.out.cell 2
    have j3 : w5.cell? ⟨q, 3, none⟩ = some (.bool false) := R5.out.cell 3
    have j4 : w5.cell? ⟨q, 4, none⟩ = some (.bool u) := R5.out.cell 4
    refine bodyPost_ret (v := .agg #[.bool true, .bool true, .bool k, .bool false, .bool u]) (by simp [results, Try.results15, go_sem, j0, j1, j2, j3, j4]) rfl ?_
    exact ⟨by simp, B5.out⟩
  by_cases h2 : s = 2
  · subst h2
    have R5 := Lib.hid (laid5_bk K2.out (.bool false) (.bool true) (.bool k) (.bool false) (.bool u))
    have B5 := Lib.hid (laid5_below B2.out HLE.out (.bool false) (.bool true) (.bool k) (.bool false) (.bool u))
    obtain ⟨w5, hw5⟩ : ∃ z, laid5 W2 q (.bool false) (.bool true) (.bool k) (.bool false) (.bool u) = z := ⟨_, rfl⟩
    rw [hw5] at R5 B5
    go_wp2_with fail
    have j0 : w5.cell? ⟨q, 0, none⟩ = some (.bool false) := R5.out.cell 0
    have j1 : w5.cell? ⟨q, 1, none⟩ = some (.bool true) := R5.out.cell 1
    have j2 : w5.cell? ⟨q, 2, none⟩ = some (.bool k) := R5.out.cell 2
    have j3 : w5.cell? ⟨q, 3, none⟩ = some (.bool false) := R5.out.cell 3
    have j4 : w5.cell? ⟨q, 4, none⟩ = some (.bool u) := R5.out.cell 4
    refine bodyPost_ret (v := .agg #[.bool false, .bool true, .bool k, .bool false, .bool u]) (by simp [results, Try.results15, go_sem, j0, j1, j2, j3, j4]) rfl ?_
    exact ⟨by simp, B5.out⟩
  · have q1 : (s == 1) = false := by simpa using h1
    have q2 : (s == 2) = false := by simpa using h2
    have q3 : (s == 3) = false := by simpa using h3
    have r1 : decide (s = 1) = false := decide_eq_false h1
    have r2 : decide (s = 2) = false := decide_eq_false h2
    have r3 : decide (s = 3) = false := decide_eq_false h3
    clear h1 h2 h3
    have R5 := Lib.hid (laid5_bk K2.out (.bool false) (.bool false) (.bool k) (.bool false) (.bool u))
    have B5 := Lib.hid (laid5_below B2.out HLE.out (.bool false) (.bool false) (.bool k) (.bool false) (.bool u))
    obtain ⟨w5, hw5⟩ : ∃ z, laid5 W2 q (.bool false) (.bool false) (.bool k) (.bool false) (.bool u) = z := ⟨_, rfl⟩
    rw [hw5] at R5 B5
    go_wp2_with fail
    have j0 : w5.cell? ⟨q, 0, none⟩ = some (.bool false) := R5.out.cell 0
    have j1 : w5.cell? ⟨q, 1, none⟩ = some (.bool false) := R5.out.cell 1
    have j2 : w5.cell? ⟨q, 2, none⟩ = some (.bool k) := R5.out.cell 2
    have j3 : w5.cell? ⟨q, 3, none⟩ = some (.bool false) := R5.out.cell 3
    have j4 : w5.cell? ⟨q, 4, none⟩ = some (.bool u) := R5.out.cell 4
    refine bodyPost_ret (v := .agg #[.bool false, .bool false, .bool k, .bool false, .bool u]) (by simp [results, Try.results15, go_sem, j0, j1, j2, j3, j4]) rfl ?_
    exact ⟨by simp [r1, r2, r3], B5.out⟩
end Go.Proofs.Ytpaehhlhngilcaa
