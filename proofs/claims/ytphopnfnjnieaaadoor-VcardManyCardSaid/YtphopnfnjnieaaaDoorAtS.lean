/-
  cardexhelp at attributes that can be read: Plain, Same; two attributes held against each other.
-/
import Derived.Test.YtphopnfnjnieaaaDoorAtt
import Derived.Lib.Hide
import Derived.Laws.StructEq
import Derived.Lib.SlicesS
import Derived.Deep.RegionWith
namespace Go.Proofs.YtphopnfnjnieaaaDoor
open Go.RowKit

theorem bts_inj {a b : List UInt8} (h : bts a = bts b) : a = b := by
  have := congrArg (fun x => x.data.toList) h
  exact this
theorem bts_eqb (a b : List UInt8) : ((bts a).toList == (bts b).toList) = decide (a = b) := by
  rw [ByteArray.toList_mk, ByteArray.toList_mk]
  by_cases h : a = b
  · simp [h]
  · rw [decide_eq_false h]
    simpa using h
theorem eqGuardA (op : BinOp) (x y : Operand) (p q : Att) (w : World) : (eqGuard op 48 x y (agA p) (agA q)).run Tryd.prog w = .ok () w := run_eqGuard_agg w op 48 x y _ _ (by kernel_rfl)
theorem equalAt (p q : Att) (w : World) : (Op.equalIn 10000 48 (agA p) (agA q)).run Tryd.prog w = .ok (decide (p = q)) w := by
  have u3 := Tryd.underlying9
  have a3 := Tryd.isAgg9
  have z3 := Tryd.sizeOf9
  have hS : Tryd.prog.underlying 48 = some (.struct (Tryd.prog.fieldsOf 48)) := by kernel_rfl
  have hp : Tryd.prog.stoodInHeld 48 = false := by kernel_rfl
  rw [show (10000 : Nat) = 9999 + 1 from rfl, run_equalIn_agg w 9999 48 _ _ hS hp]
  simp only [Program.fieldsOf, Tryd.underlying48]
  obtain ⟨a, b⟩ := p
  obtain ⟨c, d⟩ := q
  have e1 := bts_eqb a c
  have e2 := bts_eqb b d
  dsimp only
  generalize bts a = A at e1 ⊢
  generalize bts b = B at e2 ⊢
  generalize bts c = C at e1 ⊢
  generalize bts d = D at e2 ⊢
  go_simp
  by_cases h1 : a = c <;> by_cases h2 : b = d <;> simp [h1, h2] at e1 e2 ⊢ <;> simp [e1, e2]
theorem eqlAt (p q : Att) (w : World) : (binOp .eql 48 (agA p) (agA q)).run Tryd.prog w = .ok (.bool (decide (p = q))) w := by
  rw [run_eql_struct, equalAt]
  rfl
end Go.Proofs.YtphopnfnjnieaaaDoor
