import Derived.Test.YtpaehhlhngilcaaM33
/- what is reached of it -/
namespace Go.Proofs.Ytpaehhlhngilcaa
open Go.RowKit Tx Vc Ct
/-- two modes held against each other, told by their cells -/
theorem eqlM_at {m n : Mod} {r : Bool} (h : decide (m = n) = r) (W : World) : (binOp .eql 23 (.agg #[.bool m.to, .bool m.fr, .bool m.ask, .bool m.inn, .bool m.app]) (.agg #[.bool n.to, .bool n.fr, .bool n.ask, .bool n.inn, .bool n.app])).run Try.prog W = .ok (.bool r) W := by
  rw [← h]; exact eqlM m n W
theorem neqM_at {m n : Mod} {r : Bool} (h : (!decide (m = n)) = r) (W : World) : (binOp .neq 23 (.agg #[.bool m.to, .bool m.fr, .bool m.ask, .bool m.inn, .bool m.app]) (.agg #[.bool n.to, .bool n.fr, .bool n.ask, .bool n.inn, .bool n.app])).run Try.prog W = .ok (.bool r) W := by
  rw [← h]; exact neqM m n W
theorem eqgM_at (op : BinOp) (m n : Mod) (x y : Operand) (W : World) : (eqGuard op 23 x y (.agg #[.bool m.to, .bool m.fr, .bool m.ask, .bool m.inn, .bool m.app]) (.agg #[.bool n.to, .bool n.fr, .bool n.ask, .bool n.inn, .bool n.app])).run Try.prog W = .ok () W := eqGuardM op x y m n W
/-- Step, told by cells -/
theorem step_at (m n : Mod) (z : Int) (r : Bool) (hn : stepM m z = n) (hr : (!decide (n = m)) = r) (w : World) : Calls Try.prog 10 #[.agg #[.bool m.to, .bool m.fr, .bool m.ask, .bool m.inn, .bool m.app], .int .i64 z] w fun e w' => e = .returned (.tuple #[.agg #[.bool n.to, .bool n.fr, .bool n.ask, .bool n.inn, .bool n.app], .bool r]) ∧ Below w.heap.size w w' := by
  subst hn hr
  exact step_any m z w
set_option maxHeartbeats 4000000 in
set_option maxRecDepth 100000 in
theorem mawake_any (w : World) : Calls Try.prog 9 #[] w fun e w' => e = .returned (.bool true) ∧ Below w.heap.size w w' := by
  have HST := Lib.hid (step_at ⟨false, false, false, false, false⟩ ⟨false, false, true, false, false⟩ 1 true rfl rfl w)
  have HRI := Lib.hid (fun W => rightM_any false false true false false W)
  have HOF : Hid (∀ W, Calls Try.prog 14 #[.agg #[.string ⟨#[]⟩, .string ⟨#[]⟩, .slice none 0 0, .int .i64 3, .bool false, .bool false]] W fun e w' => e = .returned (.agg #[.bool true, .bool true, .bool false, .bool false, .bool false]) ∧ Below W.heap.size W w') := fun W => of_any ⟨[], [], [], 3, false, false⟩ none 0 0 W
  have q1 := eqlM_at (m := ⟨false, false, true, false, false⟩) (n := ⟨false, false, true, false, false⟩) (r := true) (by decide)
  have q2 := eqlM_at (m := ⟨true, true, false, false, false⟩) (n := ⟨true, true, false, false, false⟩) (r := true) (by decide)
  have q3 := eqgM_at .eql ⟨false, false, true, false, false⟩ ⟨false, false, true, false, false⟩
  have q4 := eqgM_at .eql ⟨true, true, false, false, false⟩ ⟨true, true, false, false, false⟩
  go_enter Try.func9, Try.ntmps9
  go_wp2_with fail
  refine HST.out.mono ?_
  rintro e w1 ⟨rfl, b1⟩
  obtain ⟨W2, hW2⟩ : ∃ W2, w1.alloc (.cells #[.bool false, .bool false, .bool true, .bool false, .bool false] 23) = W2 := ⟨_, rfl⟩
  obtain ⟨p, hp⟩ : ∃ p, w1.heap.size = p := ⟨_, rfl⟩
  have k2 : Bk W2 p 23 #[.bool false, .bool false, .bool true, .bool false, .bool false] := by rw [← hW2, ← hp]; exact Bk.new _ _ _
  have B2 : Hid (Below w.heap.size w W2) := by rw [← hW2]; exact b1.alloc b1.size _
  have c0 : W2.cell? ⟨p, 0, none⟩ = some (.bool false) := k2.cell 0
  have c1 : W2.cell? ⟨p, 1, none⟩ = some (.bool false) := k2.cell 1
  have c2 : W2.cell? ⟨p, 2, none⟩ = some (.bool true) := k2.cell 2
  have c3 : W2.cell? ⟨p, 3, none⟩ = some (.bool false) := k2.cell 3
  have c4 : W2.cell? ⟨p, 4, none⟩ = some (.bool false) := k2.cell 4
  have HW2 := Lib.hid hW2
  have HP := Lib.hid hp
  clear hW2 hp b1 k2
  go_upto_region 2 with fail
  (try rw [HW2.out])
  (try rw [HP.out])
  go_wp2_with fail
  refine (HRI.out W2).mono ?_
  rintro e w3 ⟨rfl, b3⟩
  have hr : rightM ⟨false, false, true, false, false⟩ = true := rfl
  rw [hr]
  have B3 : Hid (Below w.heap.size w w3) := B2.out.trans (b3.mono B2.out.size)
  clear b3
  go_wp2_with fail
  refine (HOF.out w3).mono ?_
  rintro e w4 ⟨rfl, b4⟩
  have B4 : Hid (Below w.heap.size w w4) := B3.out.trans (b4.mono B3.out.size)
  clear b4
  go_wp2_with fail
  go_ret
  exact ⟨rfl, B4.out⟩
end Go.Proofs.Ytpaehhlhngilcaa
