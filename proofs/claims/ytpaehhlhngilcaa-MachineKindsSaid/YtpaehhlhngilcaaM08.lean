import Derived.Test.YtpaehhlhngilcaaM07
import Derived.Laws.StructEq
import Derived.Deep.RegionWith
/- what is reached of it -/
namespace Go.Proofs.Ytpaehhlhngilcaa
open Go.RowKit
theorem eqGuardM (op : BinOp) (x y : Operand) (m n : Mod) (w : World) : (eqGuard op 23 x y (agM m) (agM n)).run Try.prog w = .ok () w := run_eqGuard_agg w op 23 x y _ _ (by kernel_rfl)
theorem equalM (m n : Mod) (w : World) : (Op.equalIn 10000 23 (agM m) (agM n)).run Try.prog w = .ok (decide (m = n)) w := by
  have u3 := Try.underlying4
  have a3 := Try.isAgg4
  have z3 := Try.sizeOf4
  have hS : Try.prog.underlying 23 = some (.struct (Try.prog.fieldsOf 23)) := by kernel_rfl
  have hp : Try.prog.stoodInHeld 23 = false := by kernel_rfl
  show (Op.equalIn (9999 + 1) 23 (.agg _) (.agg _)).run Try.prog w = _
  rw [run_equalIn_agg w 9999 23 _ _ hS hp]
  simp only [Program.fieldsOf, Try.underlying23]
  obtain ⟨a, b, c, d, f⟩ := m
  obtain ⟨a2, b2, c2, d2, f2⟩ := n
  dsimp only
  go_simp
  cases a <;> cases a2 <;> cases b <;> cases b2 <;> cases c <;> cases c2 <;> cases d <;> cases d2 <;> cases f <;> cases f2 <;> simp
theorem eqlM (m n : Mod) (w : World) : (binOp .eql 23 (agM m) (agM n)).run Try.prog w = .ok (.bool (decide (m = n))) w := by
  show (binOp .eql 23 (.agg _) (.agg _)).run Try.prog w = _
  rw [run_eql_struct]
  show ((Op.equalIn 10000 23 (agM m) (agM n)).run Try.prog w).andThen _ = _
  rw [equalM]
  rfl
theorem neqM (m n : Mod) (w : World) : (binOp .neq 23 (agM m) (agM n)).run Try.prog w = .ok (.bool (!decide (m = n))) w := by
  show (binOp .neq 23 (.agg _) (.agg _)).run Try.prog w = _
  rw [run_neq_struct]
  show ((Op.equalIn 10000 23 (agM m) (agM n)).run Try.prog w).andThen _ = _
  rw [equalM]
  rfl
set_option maxHeartbeats 2000000 in
theorem refuse_any (a b c d f : Bool) (w : World) : Calls Try.prog 29 #[.agg #[.bool a, .bool b, .bool c, .bool d, .bool f]] w fun e w' => e = .returned (agM (refuseM ⟨a, b, c, d, f⟩)) ∧ Below w.heap.size w w' := by
  obtain ⟨W2, hW2, k1, k2, b2⟩ := box_two a b c d f w
  obtain ⟨p, hp⟩ : ∃ p, w.heap.size = p := ⟨_, rfl⟩
  obtain ⟨q, hq⟩ : ∃ q, p + 1 = q := ⟨_, rfl⟩
  rw [hp, hq] at k2
  rw [hp] at k1 b2
  have c0 : W2.cell? ⟨p, 0, none⟩ = some (.bool a) := k1.cell 0
  have c1 : W2.cell? ⟨p, 1, none⟩ = some (.bool b) := k1.cell 1
  have c2 : W2.cell? ⟨p, 2, none⟩ = some (.bool c) := k1.cell 2
  have c3 : W2.cell? ⟨p, 3, none⟩ = some (.bool d) := k1.cell 3
  have c4 : W2.cell? ⟨p, 4, none⟩ = some (.bool f) := k1.cell 4
  have hne : ¬ q = p := by omega
  have hne2 : ¬ p = q := by omega
  have HW2 := Lib.hid hW2
  have K1 := Lib.hid k1
  have K2 := Lib.hid k2
  have HP := Lib.hid hp
  have HQ := Lib.hid hq
  have B2 := Lib.hid b2
  have HL := Lib.hid (lose_any a b c d f W2)
  clear hW2 hp hq b2 k1 k2
  go_enter Try.func29, Try.ntmps29
  go_upto_region 1 with fail
  (try rw [HW2.out])
  (try rw [HP.out])
  (try rw [HQ.out])
  go_wp2_with fail
  refine HL.out.mono ?_
  rintro e w3 ⟨rfl, b3⟩
  have hl : agM (loseM ⟨a, b, c, d, f⟩) = .agg #[.bool a, .bool false, .bool c, .bool false, .bool f] := rfl
  rw [hl]
  have k3 := K1.out.below b3 K1.out.lt
  have r3 := K2.out.below b3 K2.out.lt
  have B3 := B2.out.trans (b3.mono (by have := B2.out.size; have := HP.out; omega))
  have i0 : w3.cell? ⟨p, 0, none⟩ = some (.bool a) := k3.cell 0
  have i1 : w3.cell? ⟨p, 1, none⟩ = some (.bool b) := k3.cell 1
  have i2 : w3.cell? ⟨p, 2, none⟩ = some (.bool c) := k3.cell 2
  have i3 : w3.cell? ⟨p, 3, none⟩ = some (.bool d) := k3.cell 3
  have i4 : w3.cell? ⟨p, 4, none⟩ = some (.bool f) := k3.cell 4
  have f0 : w3.frozen? ⟨p, 0, none⟩ = false := k3.free 0
  have f1 : w3.frozen? ⟨p, 1, none⟩ = false := k3.free 1
  have f2 : w3.frozen? ⟨p, 2, none⟩ = false := k3.free 2
  have f3 : w3.frozen? ⟨p, 3, none⟩ = false := k3.free 3
  have f4 : w3.frozen? ⟨p, 4, none⟩ = false := k3.free 4
  have k4 := laid5_bk k3 (.bool a) (.bool false) (.bool c) (.bool false) (.bool f)
  have r4 : Bk (laid5 w3 p (.bool a) (.bool false) (.bool c) (.bool false) (.bool f)) q 23 #[.bool false, .bool false, .bool false, .bool false, .bool false] := ((((r3.far (p := ⟨p, 0, none⟩) hne _).far (p := ⟨p, 1, none⟩) hne _).far (p := ⟨p, 2, none⟩) hne _).far (p := ⟨p, 3, none⟩) hne _).far (p := ⟨p, 4, none⟩) hne _
  have B4 := laid5_below B3 (Nat.le_refl p) (.bool a) (.bool false) (.bool c) (.bool false) (.bool f)
  obtain ⟨w4, hw4⟩ : ∃ z, laid5 w3 p (.bool a) (.bool false) (.bool c) (.bool false) (.bool f) = z := ⟨_, rfl⟩
  rw [hw4] at k4 r4 B4
  have K4 := Lib.hid k4
  have R4 := Lib.hid r4
  have BB4 := Lib.hid B4
  clear k3 r3 k4 r4 B4 B3 b3 hl c0 c1 c2 c3 c4
  go_upto_region 2 with fail
  clear i0 i1 i2 i3 i4 f0 f1 f2 f3 f4 hw4
  have c0 : w4.cell? ⟨p, 0, none⟩ = some (.bool a) := K4.out.cell 0
  have c1 : w4.cell? ⟨p, 1, none⟩ = some (.bool false) := K4.out.cell 1
  have c2 : w4.cell? ⟨p, 2, none⟩ = some (.bool c) := K4.out.cell 2
  have c3 : w4.cell? ⟨p, 3, none⟩ = some (.bool false) := K4.out.cell 3
  have c4 : w4.cell? ⟨p, 4, none⟩ = some (.bool f) := K4.out.cell 4
  have g4 : w4.frozen? ⟨p, 4, none⟩ = false := K4.out.free 4
  have d0 : w4.cell? ⟨q, 0, none⟩ = some (.bool false) := R4.out.cell 0
  have d1 : w4.cell? ⟨q, 1, none⟩ = some (.bool false) := R4.out.cell 1
  have d2 : w4.cell? ⟨q, 2, none⟩ = some (.bool false) := R4.out.cell 2
  have d3 : w4.cell? ⟨q, 3, none⟩ = some (.bool false) := R4.out.cell 3
  have d4 : w4.cell? ⟨q, 4, none⟩ = some (.bool false) := R4.out.cell 4
  have e0 : w4.frozen? ⟨q, 0, none⟩ = false := R4.out.free 0
  have e1 : w4.frozen? ⟨q, 1, none⟩ = false := R4.out.free 1
  have e2 : w4.frozen? ⟨q, 2, none⟩ = false := R4.out.free 2
  have e3 : w4.frozen? ⟨q, 3, none⟩ = false := R4.out.free 3
  have e4 : w4.frozen? ⟨q, 4, none⟩ = false := R4.out.free 4
  have R5 := Lib.hid (laid5_bk (R4.out.far (p := ⟨p, 4, none⟩) hne (.bool false)) (.bool a) (.bool false) (.bool c) (.bool false) (.bool false))
  have B5 := Lib.hid (laid5_below (BB4.out.setCell (p := ⟨p, 4, none⟩) (Nat.le_refl p) (.bool false)) (by have := HQ.out; omega : p ≤ q) (.bool a) (.bool false) (.bool c) (.bool false) (.bool false))
  obtain ⟨w5, hw5⟩ : ∃ z, laid5 (w4.setCell ⟨p, 4, none⟩ (.bool false)) q (.bool a) (.bool false) (.bool c) (.bool false) (.bool false) = z := ⟨_, rfl⟩
  rw [hw5] at R5 B5
  go_wp2_with fail
  have j0 : w5.cell? ⟨q, 0, none⟩ = some (.bool a) := R5.out.cell 0
  have j1 : w5.cell? ⟨q, 1, none⟩ = some (.bool false) := R5.out.cell 1
  have j2 : w5.cell? ⟨q, 2, none⟩ = some (.bool c) := R5.out.cell 2
  have j3 : w5.cell? ⟨q, 3, none⟩ = some (.bool false) := R5.out.cell 3
  have j4 : w5.cell? ⟨q, 4, none⟩ = some (.bool false) := R5.out.cell 4
  refine bodyPost_ret (v := .agg #[.bool a, .bool false, .bool c, .bool false, .bool false]) (by simp [results, Try.results29, go_sem, j0, j1, j2, j3, j4]) rfl ?_
  rw [HP.out]
  exact ⟨by simp [agM, refuseM], B5.out⟩
/-- the table of events -/
def evs : Array Value := #[.int .i64 1, .func (.func 26) #[] #[], .int .i64 2, .func (.func 27) #[] #[], .int .i64 3, .func (.func 28) #[] #[], .int .i64 4, .func (.func 29) #[] #[],
  .int .i64 5, .func (.func 30) #[] #[], .int .i64 6, .func (.func 31) #[] #[], .int .i64 7, .func (.func 32) #[] #[], .int .i64 8, .func (.func 27) #[] #[]]
set_option maxHeartbeats 1000000 in
theorem events_any (w : World) : Calls Try.prog 20 #[] w fun e w' => ∃ b, e = .returned (.slice (some ⟨b, 0, none⟩) 8 8) ∧ (∃ t, Bk w' b t evs) ∧ Below w.heap.size w w' := by
  have k1 : Bk (w.alloc (.cells evs 60)) w.heap.size 60 evs := Bk.new _ _ _
  have b1 : Below w.heap.size w (w.alloc (.cells evs 60)) := (Below.refl _ _).alloc (Nat.le_refl _) _
  unfold evs at k1 b1
  go_enter Try.func20, Try.ntmps20
  go_wp2_with fail
  go_ret
  exact ⟨w.heap.size, rfl, ⟨_, k1⟩, b1⟩
theorem callF {F : FuncId} {fn : Func} (hf : Try.prog.funcs[F]? = some fn) (hn : (fn.name == "runtime.NumGoroutine") = false) (hb : fn.body.isNone = false) (args : Array Value) (w : World) : (callFunc F args).run Try.prog w = .ok (.enter F args) w := by
  have hn2 : ¬ fn.name = "runtime.NumGoroutine" := by simpa using hn
  have hb2 : ¬ fn.body = none := by intro e; rw [e] at hb; cases hb
  simp [callFunc, go_sem, hf, hn2, hb2]
/-- what stands in the table -/
theorem evs_at (m : Mod) (k : Nat) (hk : k < 8) : ∃ F, evs[k * 2]? = some (.int .i64 ((k : Int) + 1)) ∧ evs[k * 2 + 1]? = some (.func (.func F) #[] #[]) ∧ (∀ args w, (callFunc F args).run Try.prog w = .ok (.enter F args) w) ∧ ∀ w, Calls Try.prog F #[agM m] w fun e w' => e = .returned (agM (stepM m ((k : Int) + 1))) ∧ Below w.heap.size w w' := by
  obtain ⟨a, b, c, d, f⟩ := m
  match k, hk with
  | 0, _ => exact ⟨_, rfl, rfl, callF Try.func26 (by kernel_rfl) (by kernel_rfl), fun w => ask_any a b c d f w⟩
  | 1, _ => exact ⟨_, rfl, rfl, callF Try.func27 (by kernel_rfl) (by kernel_rfl), fun w => leave_any a b c d f w⟩
  | 2, _ => exact ⟨_, rfl, rfl, callF Try.func28 (by kernel_rfl) (by kernel_rfl), fun w => let_any a b c d f w⟩
  | 3, _ => exact ⟨_, rfl, rfl, callF Try.func29 (by kernel_rfl) (by kernel_rfl), fun w => refuse_any a b c d f w⟩
  | 4, _ => exact ⟨_, rfl, rfl, callF Try.func30 (by kernel_rfl) (by kernel_rfl), fun w => wait_any a b c d f w⟩
  | 5, _ => exact ⟨_, rfl, rfl, callF Try.func31 (by kernel_rfl) (by kernel_rfl), fun w => lose_any a b c d f w⟩
  | 6, _ => exact ⟨_, rfl, rfl, callF Try.func32 (by kernel_rfl) (by kernel_rfl), fun w => see_any a b c d f w⟩
  | 7, _ => exact ⟨_, rfl, rfl, callF Try.func27 (by kernel_rfl) (by kernel_rfl), fun w => leave_any a b c d f w⟩
theorem step_none (m : Mod) (e : Int) (h : ∀ j : Nat, j < 8 → e ≠ (j : Int) + 1) : stepM m e = m := by
  unfold stepM
  rw [if_neg (by have := h 0 (by decide); omega), if_neg (by have := h 1 (by decide); omega), if_neg (by have := h 2 (by decide); omega), if_neg (by have := h 3 (by decide); omega), if_neg (by have := h 4 (by decide); omega), if_neg (by have := h 5 (by decide); omega), if_neg (by have := h 6 (by decide); omega), if_neg (by have := h 7 (by decide); omega)]
end Go.Proofs.Ytpaehhlhngilcaa
