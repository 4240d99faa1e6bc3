import Derived.Test.YtpaehhlhngilcaaProg
import Derived.Test.YtpaehhlhngilcaaM06
import Derived.BigQuiet
import Derived.Deep.Cut
/- what is reached of it -/
namespace Go.Proofs.Ytpaehhlhngilcaa
open Go.RowKit
/-- a mode -/
structure Mod where
  to : Bool
  fr : Bool
  ask : Bool
  inn : Bool
  app : Bool
deriving DecidableEq
def agM (m : Mod) : Value := .agg #[.bool m.to, .bool m.fr, .bool m.ask, .bool m.inn, .bool m.app]
def rightM (m : Mod) : Bool := !(m.to && m.ask) && !(m.fr && m.inn) && !(m.fr && m.app) && !(m.inn && m.app)
def askM (m : Mod) : Mod := { m with ask := m.ask || !m.to }
def leaveM (m : Mod) : Mod := { m with to := false, ask := false }
def letM (m : Mod) : Mod := if m.inn then { m with fr := true, inn := false } else if m.fr then m else { m with app := true }
def loseM (m : Mod) : Mod := { m with fr := false, inn := false }
def refuseM (m : Mod) : Mod := { m with fr := false, inn := false, app := false }
def waitM (m : Mod) : Mod := if m.fr then m else if m.app then { m with fr := true, app := false } else { m with inn := true }
def seeM (m : Mod) : Mod := if m.ask then { m with to := true, ask := false } else m
def stepM (m : Mod) (e : Int) : Mod :=
  if e = 1 then askM m else if e = 2 then leaveM m else if e = 3 then letM m else if e = 4 then refuseM m else if e = 5 then waitM m else if e = 6 then loseM m else if e = 7 then seeM m else if e = 8 then leaveM m else m

/-- the world with a box of a mode, and a block of results behind it -/
theorem box_two (a b c d f : Bool) (w : World) : ∃ W, (w.alloc (.cells #[.bool a, .bool b, .bool c, .bool d, .bool f] 23)).alloc (.cells #[.bool false, .bool false, .bool false, .bool false, .bool false] 23) = W ∧
    Bk W w.heap.size 23 #[.bool a, .bool b, .bool c, .bool d, .bool f] ∧ Bk W (w.heap.size + 1) 23 #[.bool false, .bool false, .bool false, .bool false, .bool false] ∧ Below w.heap.size w W := by
  refine ⟨_, rfl, ?_, ?_, ?_⟩
  · exact (Bk.new _ _ _).alloc _
  · exact Bk.new1 _ _ _ _
  · exact ((Below.refl _ _).alloc (Nat.le_refl _) _).alloc (by rw [World.size_alloc]; omega) _
abbrev laid5 (w : World) (g : Nat) (a b c d e : Value) : World := ((((w.setCell ⟨g, 0, none⟩ a).setCell ⟨g, 1, none⟩ b).setCell ⟨g, 2, none⟩ c).setCell ⟨g, 3, none⟩ d).setCell ⟨g, 4, none⟩ e
theorem laid5_bk {w : World} {g : Nat} {t : TypeId} {x0 x1 x2 x3 x4 : Value} (h : Bk w g t #[x0, x1, x2, x3, x4]) (a b c d e : Value) : Bk (laid5 w g a b c d e) g t #[a, b, c, d, e] := by
  have := ((((h.put 0 a).put 1 b).put 2 c).put 3 d).put 4 e
  simpa [laid5] using this
theorem laid5_below {w0 w : World} {B g : Nat} (h : Below B w0 w) (hg : B ≤ g) (a b c d e : Value) : Below B w0 (laid5 w g a b c d e) :=
  ((((h.setCell (p := ⟨g, 0, none⟩) hg _).setCell (p := ⟨g, 1, none⟩) hg _).setCell (p := ⟨g, 2, none⟩) hg _).setCell (p := ⟨g, 3, none⟩) hg _).setCell (p := ⟨g, 4, none⟩) hg _
theorem laid5_far {w : World} {g g' : Nat} {t : TypeId} {cs : Array Value} (h : Bk w g' t cs) (hn : g' ≠ g) (a b c d e : Value) : Bk (laid5 w g a b c d e) g' t cs :=
  ((((h.far (p := ⟨g, 0, none⟩) hn a).far (p := ⟨g, 1, none⟩) hn b).far (p := ⟨g, 2, none⟩) hn c).far (p := ⟨g, 3, none⟩) hn d).far (p := ⟨g, 4, none⟩) hn e
set_option maxHeartbeats 800000 in
theorem ask_any (a b c d f : Bool) (w : World) : Calls Try.prog 26 #[.agg #[.bool a, .bool b, .bool c, .bool d, .bool f]] w fun e w' => e = .returned (agM (askM ⟨a, b, c, d, f⟩)) ∧ Below w.heap.size w w' := by
  obtain ⟨W2, hW2, k1, k2, b2⟩ := box_two a b c d f w
  obtain ⟨p, hp⟩ : ∃ p, w.heap.size = p := ⟨_, rfl⟩
  obtain ⟨q, hq⟩ : ∃ q, p + 1 = q := ⟨_, rfl⟩
  rw [hp, hq] at k2
  rw [hp] at k1 b2
  have c0 : W2.cell? ⟨p, 0, none⟩ = some (.bool a) := k1.cell 0
  have g0 : W2.frozen? ⟨p, 0, none⟩ = false := k1.free 0
  have d0 : W2.cell? ⟨q, 0, none⟩ = some (.bool false) := k2.cell 0
  have e0 : W2.frozen? ⟨q, 0, none⟩ = false := k2.free 0
  have c1 : W2.cell? ⟨p, 1, none⟩ = some (.bool b) := k1.cell 1
  have g1 : W2.frozen? ⟨p, 1, none⟩ = false := k1.free 1
  have d1 : W2.cell? ⟨q, 1, none⟩ = some (.bool false) := k2.cell 1
  have e1 : W2.frozen? ⟨q, 1, none⟩ = false := k2.free 1
  have c2 : W2.cell? ⟨p, 2, none⟩ = some (.bool c) := k1.cell 2
  have g2 : W2.frozen? ⟨p, 2, none⟩ = false := k1.free 2
  have d2 : W2.cell? ⟨q, 2, none⟩ = some (.bool false) := k2.cell 2
  have e2 : W2.frozen? ⟨q, 2, none⟩ = false := k2.free 2
  have c3 : W2.cell? ⟨p, 3, none⟩ = some (.bool d) := k1.cell 3
  have g3 : W2.frozen? ⟨p, 3, none⟩ = false := k1.free 3
  have d3 : W2.cell? ⟨q, 3, none⟩ = some (.bool false) := k2.cell 3
  have e3 : W2.frozen? ⟨q, 3, none⟩ = false := k2.free 3
  have c4 : W2.cell? ⟨p, 4, none⟩ = some (.bool f) := k1.cell 4
  have g4 : W2.frozen? ⟨p, 4, none⟩ = false := k1.free 4
  have d4 : W2.cell? ⟨q, 4, none⟩ = some (.bool false) := k2.cell 4
  have e4 : W2.frozen? ⟨q, 4, none⟩ = false := k2.free 4
  have hne : ¬ q = p := by omega
  have hne2 : ¬ p = q := by omega
  have HW2 := Lib.hid hW2
  have K2 := Lib.hid k2
  have HP := Lib.hid hp
  have HQ := Lib.hid hq
  have B2 := Lib.hid b2
  clear hW2 hp hq b2 k1 k2
  go_enter Try.func26, Try.ntmps26
  go_upto_region 1 with fail
  (try rw [HW2.out])
  (try rw [HP.out])
  (try rw [HQ.out])
  cases a
  · skip
    have R5 := Lib.hid (laid5_bk (K2.out.far (p := ⟨p, 2, none⟩) hne (.bool true)) (.bool false) (.bool b) (.bool true) (.bool d) (.bool f))
    have B5 := Lib.hid (laid5_below (B2.out.setCell (p := ⟨p, 2, none⟩) (Nat.le_refl p) (.bool true)) (by have := HQ.out; omega : p ≤ q) (.bool false) (.bool b) (.bool true) (.bool d) (.bool f))
    obtain ⟨w5, hw5⟩ : ∃ z, laid5 (W2.setCell ⟨p, 2, none⟩ (.bool true)) q (.bool false) (.bool b) (.bool true) (.bool d) (.bool f) = z := ⟨_, rfl⟩
    rw [hw5] at R5 B5
    go_wp2_with fail
    have j0 : w5.cell? ⟨q, 0, none⟩ = some (.bool false) := R5.out.cell 0
    have j1 : w5.cell? ⟨q, 1, none⟩ = some (.bool b) := R5.out.cell 1
    have j2 : w5.cell? ⟨q, 2, none⟩ = some (.bool true) := R5.out.cell 2
    have j3 : w5.cell? ⟨q, 3, none⟩ = some (.bool d) := R5.out.cell 3
    have j4 : w5.cell? ⟨q, 4, none⟩ = some (.bool f) := R5.out.cell 4
    refine bodyPost_ret (v := .agg #[.bool false, .bool b, .bool true, .bool d, .bool f]) (by simp [results, Try.results26, go_sem, j0, j1, j2, j3, j4]) rfl ?_
    rw [HP.out]
    exact ⟨by simp [agM, askM], B5.out⟩
  · skip
    have R5 := Lib.hid (laid5_bk K2.out (.bool true) (.bool b) (.bool c) (.bool d) (.bool f))
    have B5 := Lib.hid (laid5_below B2.out (by have := HQ.out; omega : p ≤ q) (.bool true) (.bool b) (.bool c) (.bool d) (.bool f))
    obtain ⟨w5, hw5⟩ : ∃ z, laid5 W2 q (.bool true) (.bool b) (.bool c) (.bool d) (.bool f) = z := ⟨_, rfl⟩
    rw [hw5] at R5 B5
    go_wp2_with fail
    have j0 : w5.cell? ⟨q, 0, none⟩ = some (.bool true) := R5.out.cell 0
    have j1 : w5.cell? ⟨q, 1, none⟩ = some (.bool b) := R5.out.cell 1
    have j2 : w5.cell? ⟨q, 2, none⟩ = some (.bool c) := R5.out.cell 2
    have j3 : w5.cell? ⟨q, 3, none⟩ = some (.bool d) := R5.out.cell 3
    have j4 : w5.cell? ⟨q, 4, none⟩ = some (.bool f) := R5.out.cell 4
    refine bodyPost_ret (v := .agg #[.bool true, .bool b, .bool c, .bool d, .bool f]) (by simp [results, Try.results26, go_sem, j0, j1, j2, j3, j4]) rfl ?_
    rw [HP.out]
    exact ⟨by simp [agM, askM], B5.out⟩
set_option maxHeartbeats 800000 in
theorem leave_any (a b c d f : Bool) (w : World) : Calls Try.prog 27 #[.agg #[.bool a, .bool b, .bool c, .bool d, .bool f]] w fun e w' => e = .returned (agM (leaveM ⟨a, b, c, d, f⟩)) ∧ Below w.heap.size w w' := by
  obtain ⟨W2, hW2, k1, k2, b2⟩ := box_two a b c d f w
  obtain ⟨p, hp⟩ : ∃ p, w.heap.size = p := ⟨_, rfl⟩
  obtain ⟨q, hq⟩ : ∃ q, p + 1 = q := ⟨_, rfl⟩
  rw [hp, hq] at k2
  rw [hp] at k1 b2
  have c0 : W2.cell? ⟨p, 0, none⟩ = some (.bool a) := k1.cell 0
  have g0 : W2.frozen? ⟨p, 0, none⟩ = false := k1.free 0
  have d0 : W2.cell? ⟨q, 0, none⟩ = some (.bool false) := k2.cell 0
  have e0 : W2.frozen? ⟨q, 0, none⟩ = false := k2.free 0
  have c1 : W2.cell? ⟨p, 1, none⟩ = some (.bool b) := k1.cell 1
  have g1 : W2.frozen? ⟨p, 1, none⟩ = false := k1.free 1
  have d1 : W2.cell? ⟨q, 1, none⟩ = some (.bool false) := k2.cell 1
  have e1 : W2.frozen? ⟨q, 1, none⟩ = false := k2.free 1
  have c2 : W2.cell? ⟨p, 2, none⟩ = some (.bool c) := k1.cell 2
  have g2 : W2.frozen? ⟨p, 2, none⟩ = false := k1.free 2
  have d2 : W2.cell? ⟨q, 2, none⟩ = some (.bool false) := k2.cell 2
  have e2 : W2.frozen? ⟨q, 2, none⟩ = false := k2.free 2
  have c3 : W2.cell? ⟨p, 3, none⟩ = some (.bool d) := k1.cell 3
  have g3 : W2.frozen? ⟨p, 3, none⟩ = false := k1.free 3
  have d3 : W2.cell? ⟨q, 3, none⟩ = some (.bool false) := k2.cell 3
  have e3 : W2.frozen? ⟨q, 3, none⟩ = false := k2.free 3
  have c4 : W2.cell? ⟨p, 4, none⟩ = some (.bool f) := k1.cell 4
  have g4 : W2.frozen? ⟨p, 4, none⟩ = false := k1.free 4
  have d4 : W2.cell? ⟨q, 4, none⟩ = some (.bool false) := k2.cell 4
  have e4 : W2.frozen? ⟨q, 4, none⟩ = false := k2.free 4
  have hne : ¬ q = p := by omega
  have hne2 : ¬ p = q := by omega
  have HW2 := Lib.hid hW2
  have K2 := Lib.hid k2
  have HP := Lib.hid hp
  have HQ := Lib.hid hq
  have B2 := Lib.hid b2
  clear hW2 hp hq b2 k1 k2
  go_enter Try.func27, Try.ntmps27
  go_upto_region 1 with fail
  (try rw [HW2.out])
  (try rw [HP.out])
  (try rw [HQ.out])
  have R5 := Lib.hid (laid5_bk ((K2.out.far (p := ⟨p, 0, none⟩) hne (.bool false)).far (p := ⟨p, 2, none⟩) hne (.bool false)) (.bool false) (.bool b) (.bool false) (.bool d) (.bool f))
  have B5 := Lib.hid (laid5_below ((B2.out.setCell (p := ⟨p, 0, none⟩) (Nat.le_refl p) (.bool false)).setCell (p := ⟨p, 2, none⟩) (Nat.le_refl p) (.bool false)) (by have := HQ.out; omega : p ≤ q) (.bool false) (.bool b) (.bool false) (.bool d) (.bool f))
  obtain ⟨w5, hw5⟩ : ∃ z, laid5 ((W2.setCell ⟨p, 0, none⟩ (.bool false)).setCell ⟨p, 2, none⟩ (.bool false)) q (.bool false) (.bool b) (.bool false) (.bool d) (.bool f) = z := ⟨_, rfl⟩
  rw [hw5] at R5 B5
  go_wp2_with fail
  have j0 : w5.cell? ⟨q, 0, none⟩ = some (.bool false) := R5.out.cell 0
  have j1 : w5.cell? ⟨q, 1, none⟩ = some (.bool b) := R5.out.cell 1
  have j2 : w5.cell? ⟨q, 2, none⟩ = some (.bool false) := R5.out.cell 2
  have j3 : w5.cell? ⟨q, 3, none⟩ = some (.bool d) := R5.out.cell 3
  have j4 : w5.cell? ⟨q, 4, none⟩ = some (.bool f) := R5.out.cell 4
  refine bodyPost_ret (v := .agg #[.bool false, .bool b, .bool false, .bool d, .bool f]) (by simp [results, Try.results27, go_sem, j0, j1, j2, j3, j4]) rfl ?_
  rw [HP.out]
  exact ⟨by simp [agM, leaveM], B5.out⟩
set_option maxHeartbeats 800000 in
theorem let_any (a b c d f : Bool) (w : World) : Calls Try.prog 28 #[.agg #[.bool a, .bool b, .bool c, .bool d, .bool f]] w fun e w' => e = .returned (agM (letM ⟨a, b, c, d, f⟩)) ∧ Below w.heap.size w w' := by
  obtain ⟨W2, hW2, k1, k2, b2⟩ := box_two a b c d f w
  obtain ⟨p, hp⟩ : ∃ p, w.heap.size = p := ⟨_, rfl⟩
  obtain ⟨q, hq⟩ : ∃ q, p + 1 = q := ⟨_, rfl⟩
  rw [hp, hq] at k2
  rw [hp] at k1 b2
  have c0 : W2.cell? ⟨p, 0, none⟩ = some (.bool a) := k1.cell 0
  have g0 : W2.frozen? ⟨p, 0, none⟩ = false := k1.free 0
  have d0 : W2.cell? ⟨q, 0, none⟩ = some (.bool false) := k2.cell 0
  have e0 : W2.frozen? ⟨q, 0, none⟩ = false := k2.free 0
  have c1 : W2.cell? ⟨p, 1, none⟩ = some (.bool b) := k1.cell 1
  have g1 : W2.frozen? ⟨p, 1, none⟩ = false := k1.free 1
  have d1 : W2.cell? ⟨q, 1, none⟩ = some (.bool false) := k2.cell 1
  have e1 : W2.frozen? ⟨q, 1, none⟩ = false := k2.free 1
  have c2 : W2.cell? ⟨p, 2, none⟩ = some (.bool c) := k1.cell 2
  have g2 : W2.frozen? ⟨p, 2, none⟩ = false := k1.free 2
  have d2 : W2.cell? ⟨q, 2, none⟩ = some (.bool false) := k2.cell 2
  have e2 : W2.frozen? ⟨q, 2, none⟩ = false := k2.free 2
  have c3 : W2.cell? ⟨p, 3, none⟩ = some (.bool d) := k1.cell 3
  have g3 : W2.frozen? ⟨p, 3, none⟩ = false := k1.free 3
  have d3 : W2.cell? ⟨q, 3, none⟩ = some (.bool false) := k2.cell 3
  have e3 : W2.frozen? ⟨q, 3, none⟩ = false := k2.free 3
  have c4 : W2.cell? ⟨p, 4, none⟩ = some (.bool f) := k1.cell 4
  have g4 : W2.frozen? ⟨p, 4, none⟩ = false := k1.free 4
  have d4 : W2.cell? ⟨q, 4, none⟩ = some (.bool false) := k2.cell 4
  have e4 : W2.frozen? ⟨q, 4, none⟩ = false := k2.free 4
  have hne : ¬ q = p := by omega
  have hne2 : ¬ p = q := by omega
  have HW2 := Lib.hid hW2
  have K2 := Lib.hid k2
  have HP := Lib.hid hp
  have HQ := Lib.hid hq
  have B2 := Lib.hid b2
  clear hW2 hp hq b2 k1 k2
  go_enter Try.func28, Try.ntmps28
  go_upto_region 1 with fail
  (try rw [HW2.out])
  (try rw [HP.out])
  (try rw [HQ.out])
  cases d
  · skip
    cases b
    · skip
      have R5 := Lib.hid (laid5_bk (K2.out.far (p := ⟨p, 4, none⟩) hne (.bool true)) (.bool a) (.bool false) (.bool c) (.bool false) (.bool true))
      have B5 := Lib.hid (laid5_below (B2.out.setCell (p := ⟨p, 4, none⟩) (Nat.le_refl p) (.bool true)) (by have := HQ.out; omega : p ≤ q) (.bool a) (.bool false) (.bool c) (.bool false) (.bool true))
      obtain ⟨w5, hw5⟩ : ∃ z, laid5 (W2.setCell ⟨p, 4, none⟩ (.bool true)) q (.bool a) (.bool false) (.bool c) (.bool false) (.bool true) = z := ⟨_, rfl⟩
      rw [hw5] at R5 B5
      go_wp2_with fail
      have j0 : w5.cell? ⟨q, 0, none⟩ = some (.bool a) := R5.out.cell 0
      have j1 : w5.cell? ⟨q, 1, none⟩ = some (.bool false) := R5.out.cell 1
      have j2 : w5.cell? ⟨q, 2, none⟩ = some (.bool c) := R5.out.cell 2
      have j3 : w5.cell? ⟨q, 3, none⟩ = some (.bool false) := R5.out.cell 3
      have j4 : w5.cell? ⟨q, 4, none⟩ = some (.bool true) := R5.out.cell 4
      refine bodyPost_ret (v := .agg #[.bool a, .bool false, .bool c, .bool false, .bool true]) (by simp [results, Try.results28, go_sem, j0, j1, j2, j3, j4]) rfl ?_
      rw [HP.out]
      exact ⟨by simp [agM, letM], B5.out⟩
    · skip
      have R5 := Lib.hid (laid5_bk K2.out (.bool a) (.bool true) (.bool c) (.bool false) (.bool f))
      have B5 := Lib.hid (laid5_below B2.out (by have := HQ.out; omega : p ≤ q) (.bool a) (.bool true) (.bool c) (.bool false) (.bool f))
      obtain ⟨w5, hw5⟩ : ∃ z, laid5 W2 q (.bool a) (.bool true) (.bool c) (.bool false) (.bool f) = z := ⟨_, rfl⟩
      rw [hw5] at R5 B5
      go_wp2_with fail
      have j0 : w5.cell? ⟨q, 0, none⟩ = some (.bool a) := R5.out.cell 0
      have j1 : w5.cell? ⟨q, 1, none⟩ = some (.bool true) := R5.out.cell 1
      have j2 : w5.cell? ⟨q, 2, none⟩ = some (.bool c) := R5.out.cell 2
      have j3 : w5.cell? ⟨q, 3, none⟩ = some (.bool false) := R5.out.cell 3
      have j4 : w5.cell? ⟨q, 4, none⟩ = some (.bool f) := R5.out.cell 4
      refine bodyPost_ret (v := .agg #[.bool a, .bool true, .bool c, .bool false, .bool f]) (by simp [results, Try.results28, go_sem, j0, j1, j2, j3, j4]) rfl ?_
      rw [HP.out]
      exact ⟨by simp [agM, letM], B5.out⟩
  · skip
    have R5 := Lib.hid (laid5_bk ((K2.out.far (p := ⟨p, 1, none⟩) hne (.bool true)).far (p := ⟨p, 3, none⟩) hne (.bool false)) (.bool a) (.bool true) (.bool c) (.bool false) (.bool f))
    have B5 := Lib.hid (laid5_below ((B2.out.setCell (p := ⟨p, 1, none⟩) (Nat.le_refl p) (.bool true)).setCell (p := ⟨p, 3, none⟩) (Nat.le_refl p) (.bool false)) (by have := HQ.out; omega : p ≤ q) (.bool a) (.bool true) (.bool c) (.bool false) (.bool f))
    obtain ⟨w5, hw5⟩ : ∃ z, laid5 ((W2.setCell ⟨p, 1, none⟩ (.bool true)).setCell ⟨p, 3, none⟩ (.bool false)) q (.bool a) (.bool true) (.bool c) (.bool false) (.bool f) = z := ⟨_, rfl⟩
    rw [hw5] at R5 B5
    go_wp2_with fail
    have j0 : w5.cell? ⟨q, 0, none⟩ = some (.bool a) := R5.out.cell 0
    have j1 : w5.cell? ⟨q, 1, none⟩ = some (.bool true) := R5.out.cell 1
    have j2 : w5.cell? ⟨q, 2, none⟩ = some (.bool c) := R5.out.cell 2
    have j3 : w5.cell? ⟨q, 3, none⟩ = some (.bool false) := R5.out.cell 3
    have j4 : w5.cell? ⟨q, 4, none⟩ = some (.bool f) := R5.out.cell 4
    refine bodyPost_ret (v := .agg #[.bool a, .bool true, .bool c, .bool false, .bool f]) (by simp [results, Try.results28, go_sem, j0, j1, j2, j3, j4]) rfl ?_
    rw [HP.out]
    exact ⟨by simp [agM, letM], B5.out⟩
set_option maxHeartbeats 800000 in
theorem lose_any (a b c d f : Bool) (w : World) : Calls Try.prog 31 #[.agg #[.bool a, .bool b, .bool c, .bool d, .bool f]] w fun e w' => e = .returned (agM (loseM ⟨a, b, c, d, f⟩)) ∧ Below w.heap.size w w' := by
  obtain ⟨W2, hW2, k1, k2, b2⟩ := box_two a b c d f w
  obtain ⟨p, hp⟩ : ∃ p, w.heap.size = p := ⟨_, rfl⟩
  obtain ⟨q, hq⟩ : ∃ q, p + 1 = q := ⟨_, rfl⟩
  rw [hp, hq] at k2
  rw [hp] at k1 b2
  have c0 : W2.cell? ⟨p, 0, none⟩ = some (.bool a) := k1.cell 0
  have g0 : W2.frozen? ⟨p, 0, none⟩ = false := k1.free 0
  have d0 : W2.cell? ⟨q, 0, none⟩ = some (.bool false) := k2.cell 0
  have e0 : W2.frozen? ⟨q, 0, none⟩ = false := k2.free 0
  have c1 : W2.cell? ⟨p, 1, none⟩ = some (.bool b) := k1.cell 1
  have g1 : W2.frozen? ⟨p, 1, none⟩ = false := k1.free 1
  have d1 : W2.cell? ⟨q, 1, none⟩ = some (.bool false) := k2.cell 1
  have e1 : W2.frozen? ⟨q, 1, none⟩ = false := k2.free 1
  have c2 : W2.cell? ⟨p, 2, none⟩ = some (.bool c) := k1.cell 2
  have g2 : W2.frozen? ⟨p, 2, none⟩ = false := k1.free 2
  have d2 : W2.cell? ⟨q, 2, none⟩ = some (.bool false) := k2.cell 2
  have e2 : W2.frozen? ⟨q, 2, none⟩ = false := k2.free 2
  have c3 : W2.cell? ⟨p, 3, none⟩ = some (.bool d) := k1.cell 3
  have g3 : W2.frozen? ⟨p, 3, none⟩ = false := k1.free 3
  have d3 : W2.cell? ⟨q, 3, none⟩ = some (.bool false) := k2.cell 3
  have e3 : W2.frozen? ⟨q, 3, none⟩ = false := k2.free 3
  have c4 : W2.cell? ⟨p, 4, none⟩ = some (.bool f) := k1.cell 4
  have g4 : W2.frozen? ⟨p, 4, none⟩ = false := k1.free 4
  have d4 : W2.cell? ⟨q, 4, none⟩ = some (.bool false) := k2.cell 4
  have e4 : W2.frozen? ⟨q, 4, none⟩ = false := k2.free 4
  have hne : ¬ q = p := by omega
  have hne2 : ¬ p = q := by omega
  have HW2 := Lib.hid hW2
  have K2 := Lib.hid k2
  have HP := Lib.hid hp
  have HQ := Lib.hid hq
  have B2 := Lib.hid b2
  clear hW2 hp hq b2 k1 k2
  go_enter Try.func31, Try.ntmps31
  go_upto_region 1 with fail
  (try rw [HW2.out])
  (try rw [HP.out])
  (try rw [HQ.out])
  have R5 := Lib.hid (laid5_bk ((K2.out.far (p := ⟨p, 1, none⟩) hne (.bool false)).far (p := ⟨p, 3, none⟩) hne (.bool false)) (.bool a) (.bool false) (.bool c) (.bool false) (.bool f))
  have B5 := Lib.hid (laid5_below ((B2.out.setCell (p := ⟨p, 1, none⟩) (Nat.le_refl p) (.bool false)).setCell (p := ⟨p, 3, none⟩) (Nat.le_refl p) (.bool false)) (by have := HQ.out; omega : p ≤ q) (.bool a) (.bool false) (.bool c) (.bool false) (.bool f))
  obtain ⟨w5, hw5⟩ : ∃ z, laid5 ((W2.setCell ⟨p, 1, none⟩ (.bool false)).setCell ⟨p, 3, none⟩ (.bool false)) q (.bool a) (.bool false) (.bool c) (.bool false) (.bool f) = z := ⟨_, rfl⟩
  rw [hw5] at R5 B5
  go_wp2_with fail
  have j0 : w5.cell? ⟨q, 0, none⟩ = some (.bool a) := R5.out.cell 0
  have j1 : w5.cell? ⟨q, 1, none⟩ = some (.bool false) := R5.out.cell 1
  have j2 : w5.cell? ⟨q, 2, none⟩ = some (.bool c) := R5.out.cell 2
  have j3 : w5.cell? ⟨q, 3, none⟩ = some (.bool false) := R5.out.cell 3
  have j4 : w5.cell? ⟨q, 4, none⟩ = some (.bool f) := R5.out.cell 4
  refine bodyPost_ret (v := .agg #[.bool a, .bool false, .bool c, .bool false, .bool f]) (by simp [results, Try.results31, go_sem, j0, j1, j2, j3, j4]) rfl ?_
  rw [HP.out]
  exact ⟨by simp [agM, loseM], B5.out⟩
set_option maxHeartbeats 800000 in
theorem wait_any (a b c d f : Bool) (w : World) : Calls Try.prog 30 #[.agg #[.bool a, .bool b, .bool c, .bool d, .bool f]] w fun e w' => e = .returned (agM (waitM ⟨a, b, c, d, f⟩)) ∧ Below w.heap.size w w' := by
  obtain ⟨W2, hW2, k1, k2, b2⟩ := box_two a b c d f w
  obtain ⟨p, hp⟩ : ∃ p, w.heap.size = p := ⟨_, rfl⟩
  obtain ⟨q, hq⟩ : ∃ q, p + 1 = q := ⟨_, rfl⟩
  rw [hp, hq] at k2
  rw [hp] at k1 b2
  have c0 : W2.cell? ⟨p, 0, none⟩ = some (.bool a) := k1.cell 0
  have g0 : W2.frozen? ⟨p, 0, none⟩ = false := k1.free 0
  have d0 : W2.cell? ⟨q, 0, none⟩ = some (.bool false) := k2.cell 0
  have e0 : W2.frozen? ⟨q, 0, none⟩ = false := k2.free 0
  have c1 : W2.cell? ⟨p, 1, none⟩ = some (.bool b) := k1.cell 1
  have g1 : W2.frozen? ⟨p, 1, none⟩ = false := k1.free 1
  have d1 : W2.cell? ⟨q, 1, none⟩ = some (.bool false) := k2.cell 1
  have e1 : W2.frozen? ⟨q, 1, none⟩ = false := k2.free 1
  have c2 : W2.cell? ⟨p, 2, none⟩ = some (.bool c) := k1.cell 2
  have g2 : W2.frozen? ⟨p, 2, none⟩ = false := k1.free 2
  have d2 : W2.cell? ⟨q, 2, none⟩ = some (.bool false) := k2.cell 2
  have e2 : W2.frozen? ⟨q, 2, none⟩ = false := k2.free 2
  have c3 : W2.cell? ⟨p, 3, none⟩ = some (.bool d) := k1.cell 3
  have g3 : W2.frozen? ⟨p, 3, none⟩ = false := k1.free 3
  have d3 : W2.cell? ⟨q, 3, none⟩ = some (.bool false) := k2.cell 3
  have e3 : W2.frozen? ⟨q, 3, none⟩ = false := k2.free 3
  have c4 : W2.cell? ⟨p, 4, none⟩ = some (.bool f) := k1.cell 4
  have g4 : W2.frozen? ⟨p, 4, none⟩ = false := k1.free 4
  have d4 : W2.cell? ⟨q, 4, none⟩ = some (.bool false) := k2.cell 4
  have e4 : W2.frozen? ⟨q, 4, none⟩ = false := k2.free 4
  have hne : ¬ q = p := by omega
  have hne2 : ¬ p = q := by omega
  have HW2 := Lib.hid hW2
  have K2 := Lib.hid k2
  have HP := Lib.hid hp
  have HQ := Lib.hid hq
  have B2 := Lib.hid b2
  clear hW2 hp hq b2 k1 k2
  go_enter Try.func30, Try.ntmps30
  go_upto_region 2 with fail
  (try rw [HW2.out])
  (try rw [HP.out])
  (try rw [HQ.out])
  cases b
  · skip
    cases f
    · skip
      have R5 := Lib.hid (laid5_bk (K2.out.far (p := ⟨p, 3, none⟩) hne (.bool true)) (.bool a) (.bool false) (.bool c) (.bool true) (.bool false))
      have B5 := Lib.hid (laid5_below (B2.out.setCell (p := ⟨p, 3, none⟩) (Nat.le_refl p) (.bool true)) (by have := HQ.out; omega : p ≤ q) (.bool a) (.bool false) (.bool c) (.bool true) (.bool false))
      obtain ⟨w5, hw5⟩ : ∃ z, laid5 (W2.setCell ⟨p, 3, none⟩ (.bool true)) q (.bool a) (.bool false) (.bool c) (.bool true) (.bool false) = z := ⟨_, rfl⟩
      rw [hw5] at R5 B5
      go_wp2_with fail
      have j0 : w5.cell? ⟨q, 0, none⟩ = some (.bool a) := R5.out.cell 0
      have j1 : w5.cell? ⟨q, 1, none⟩ = some (.bool false) := R5.out.cell 1
      have j2 : w5.cell? ⟨q, 2, none⟩ = some (.bool c) := R5.out.cell 2
      have j3 : w5.cell? ⟨q, 3, none⟩ = some (.bool true) := R5.out.cell 3
      have j4 : w5.cell? ⟨q, 4, none⟩ = some (.bool false) := R5.out.cell 4
      refine bodyPost_ret (v := .agg #[.bool a, .bool false, .bool c, .bool true, .bool false]) (by simp [results, Try.results30, go_sem, j0, j1, j2, j3, j4]) rfl ?_
      rw [HP.out]
      exact ⟨by simp [agM, waitM], B5.out⟩
    · skip
      have R5 := Lib.hid (laid5_bk ((K2.out.far (p := ⟨p, 1, none⟩) hne (.bool true)).far (p := ⟨p, 4, none⟩) hne (.bool false)) (.bool a) (.bool true) (.bool c) (.bool d) (.bool false))
      have B5 := Lib.hid (laid5_below ((B2.out.setCell (p := ⟨p, 1, none⟩) (Nat.le_refl p) (.bool true)).setCell (p := ⟨p, 4, none⟩) (Nat.le_refl p) (.bool false)) (by have := HQ.out; omega : p ≤ q) (.bool a) (.bool true) (.bool c) (.bool d) (.bool false))
      obtain ⟨w5, hw5⟩ : ∃ z, laid5 ((W2.setCell ⟨p, 1, none⟩ (.bool true)).setCell ⟨p, 4, none⟩ (.bool false)) q (.bool a) (.bool true) (.bool c) (.bool d) (.bool false) = z := ⟨_, rfl⟩
      rw [hw5] at R5 B5
      go_wp2_with fail
      have j0 : w5.cell? ⟨q, 0, none⟩ = some (.bool a) := R5.out.cell 0
      have j1 : w5.cell? ⟨q, 1, none⟩ = some (.bool true) := R5.out.cell 1
      have j2 : w5.cell? ⟨q, 2, none⟩ = some (.bool c) := R5.out.cell 2
      have j3 : w5.cell? ⟨q, 3, none⟩ = some (.bool d) := R5.out.cell 3
      have j4 : w5.cell? ⟨q, 4, none⟩ = some (.bool false) := R5.out.cell 4
      refine bodyPost_ret (v := .agg #[.bool a, .bool true, .bool c, .bool d, .bool false]) (by simp [results, Try.results30, go_sem, j0, j1, j2, j3, j4]) rfl ?_
      rw [HP.out]
      exact ⟨by simp [agM, waitM], B5.out⟩
  · skip
    have R5 := Lib.hid (laid5_bk K2.out (.bool a) (.bool true) (.bool c) (.bool d) (.bool f))
    have B5 := Lib.hid (laid5_below B2.out (by have := HQ.out; omega : p ≤ q) (.bool a) (.bool true) (.bool c) (.bool d) (.bool f))
    obtain ⟨w5, hw5⟩ : ∃ z, laid5 W2 q (.bool a) (.bool true) (.bool c) (.bool d) (.bool f) = z := ⟨_, rfl⟩
    rw [hw5] at R5 B5
    go_wp2_with fail
    have j0 : w5.cell? ⟨q, 0, none⟩ = some (.bool a) := R5.out.cell 0
    have j1 : w5.cell? ⟨q, 1, none⟩ = some (.bool true) := R5.out.cell 1
    have j2 : w5.cell? ⟨q, 2, none⟩ = some (.bool c) := R5.out.cell 2
    have j3 : w5.cell? ⟨q, 3, none⟩ = some (.bool d) := R5.out.cell 3
    have j4 : w5.cell? ⟨q, 4, none⟩ = some (.bool f) := R5.out.cell 4
    refine bodyPost_ret (v := .agg #[.bool a, .bool true, .bool c, .bool d, .bool f]) (by simp [results, Try.results30, go_sem, j0, j1, j2, j3, j4]) rfl ?_
    rw [HP.out]
    exact ⟨by simp [agM, waitM], B5.out⟩
set_option maxHeartbeats 800000 in
theorem see_any (a b c d f : Bool) (w : World) : Calls Try.prog 32 #[.agg #[.bool a, .bool b, .bool c, .bool d, .bool f]] w fun e w' => e = .returned (agM (seeM ⟨a, b, c, d, f⟩)) ∧ Below w.heap.size w w' := by
  obtain ⟨W2, hW2, k1, k2, b2⟩ := box_two a b c d f w
  obtain ⟨p, hp⟩ : ∃ p, w.heap.size = p := ⟨_, rfl⟩
  obtain ⟨q, hq⟩ : ∃ q, p + 1 = q := ⟨_, rfl⟩
  rw [hp, hq] at k2
  rw [hp] at k1 b2
  have c0 : W2.cell? ⟨p, 0, none⟩ = some (.bool a) := k1.cell 0
  have g0 : W2.frozen? ⟨p, 0, none⟩ = false := k1.free 0
  have d0 : W2.cell? ⟨q, 0, none⟩ = some (.bool false) := k2.cell 0
  have e0 : W2.frozen? ⟨q, 0, none⟩ = false := k2.free 0
  have c1 : W2.cell? ⟨p, 1, none⟩ = some (.bool b) := k1.cell 1
  have g1 : W2.frozen? ⟨p, 1, none⟩ = false := k1.free 1
  have d1 : W2.cell? ⟨q, 1, none⟩ = some (.bool false) := k2.cell 1
  have e1 : W2.frozen? ⟨q, 1, none⟩ = false := k2.free 1
  have c2 : W2.cell? ⟨p, 2, none⟩ = some (.bool c) := k1.cell 2
  have g2 : W2.frozen? ⟨p, 2, none⟩ = false := k1.free 2
  have d2 : W2.cell? ⟨q, 2, none⟩ = some (.bool false) := k2.cell 2
  have e2 : W2.frozen? ⟨q, 2, none⟩ = false := k2.free 2
  have c3 : W2.cell? ⟨p, 3, none⟩ = some (.bool d) := k1.cell 3
  have g3 : W2.frozen? ⟨p, 3, none⟩ = false := k1.free 3
  have d3 : W2.cell? ⟨q, 3, none⟩ = some (.bool false) := k2.cell 3
  have e3 : W2.frozen? ⟨q, 3, none⟩ = false := k2.free 3
  have c4 : W2.cell? ⟨p, 4, none⟩ = some (.bool f) := k1.cell 4
  have g4 : W2.frozen? ⟨p, 4, none⟩ = false := k1.free 4
  have d4 : W2.cell? ⟨q, 4, none⟩ = some (.bool false) := k2.cell 4
  have e4 : W2.frozen? ⟨q, 4, none⟩ = false := k2.free 4
  have hne : ¬ q = p := by omega
  have hne2 : ¬ p = q := by omega
  have HW2 := Lib.hid hW2
  have K2 := Lib.hid k2
  have HP := Lib.hid hp
  have HQ := Lib.hid hq
  have B2 := Lib.hid b2
  clear hW2 hp hq b2 k1 k2
  go_enter Try.func32, Try.ntmps32
  go_upto_region 1 with fail
  (try rw [HW2.out])
  (try rw [HP.out])
  (try rw [HQ.out])
  cases c
  · skip
    have R5 := Lib.hid (laid5_bk K2.out (.bool a) (.bool b) (.bool false) (.bool d) (.bool f))
    have B5 := Lib.hid (laid5_below B2.out (by have := HQ.out; omega : p ≤ q) (.bool a) (.bool b) (.bool false) (.bool d) (.bool f))
    obtain ⟨w5, hw5⟩ : ∃ z, laid5 W2 q (.bool a) (.bool b) (.bool false) (.bool d) (.bool f) = z := ⟨_, rfl⟩
    rw [hw5] at R5 B5
    go_wp2_with fail
    have j0 : w5.cell? ⟨q, 0, none⟩ = some (.bool a) := R5.out.cell 0
    have j1 : w5.cell? ⟨q, 1, none⟩ = some (.bool b) := R5.out.cell 1
    have j2 : w5.cell? ⟨q, 2, none⟩ = some (.bool false) := R5.out.cell 2
    have j3 : w5.cell? ⟨q, 3, none⟩ = some (.bool d) := R5.out.cell 3
    have j4 : w5.cell? ⟨q, 4, none⟩ = some (.bool f) := R5.out.cell 4
    refine bodyPost_ret (v := .agg #[.bool a, .bool b, .bool false, .bool d, .bool f]) (by simp [results, Try.results32, go_sem, j0, j1, j2, j3, j4]) rfl ?_
    rw [HP.out]
    exact ⟨by simp [agM, seeM], B5.out⟩
  · skip
    have R5 := Lib.hid (laid5_bk ((K2.out.far (p := ⟨p, 0, none⟩) hne (.bool true)).far (p := ⟨p, 2, none⟩) hne (.bool false)) (.bool true) (.bool b) (.bool false) (.bool d) (.bool f))
    have B5 := Lib.hid (laid5_below ((B2.out.setCell (p := ⟨p, 0, none⟩) (Nat.le_refl p) (.bool true)).setCell (p := ⟨p, 2, none⟩) (Nat.le_refl p) (.bool false)) (by have := HQ.out; omega : p ≤ q) (.bool true) (.bool b) (.bool false) (.bool d) (.bool f))
    obtain ⟨w5, hw5⟩ : ∃ z, laid5 ((W2.setCell ⟨p, 0, none⟩ (.bool true)).setCell ⟨p, 2, none⟩ (.bool false)) q (.bool true) (.bool b) (.bool false) (.bool d) (.bool f) = z := ⟨_, rfl⟩
    rw [hw5] at R5 B5
    go_wp2_with fail
    have j0 : w5.cell? ⟨q, 0, none⟩ = some (.bool true) := R5.out.cell 0
    have j1 : w5.cell? ⟨q, 1, none⟩ = some (.bool b) := R5.out.cell 1
    have j2 : w5.cell? ⟨q, 2, none⟩ = some (.bool false) := R5.out.cell 2
    have j3 : w5.cell? ⟨q, 3, none⟩ = some (.bool d) := R5.out.cell 3
    have j4 : w5.cell? ⟨q, 4, none⟩ = some (.bool f) := R5.out.cell 4
    refine bodyPost_ret (v := .agg #[.bool true, .bool b, .bool false, .bool d, .bool f]) (by simp [results, Try.results32, go_sem, j0, j1, j2, j3, j4]) rfl ?_
    rw [HP.out]
    exact ⟨by simp [agM, seeM], B5.out⟩
end Go.Proofs.Ytpaehhlhngilcaa
