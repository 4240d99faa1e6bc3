/-
  A SLICE OF NUMBERS THAT CAME IN: what a walk asks of it.
-/
import Derived.WalkKit
namespace Go.Proofs.YtbkfmbkamocllaaDoor
open Go.RowKit

/-- A slice of numbers that came in: it can be read, whatever it holds. -/
def ReadsZ (w : World) (v : Value) (n : Nat) : Prop :=
  ∃ A cap, v = .slice A n cap ∧ (0 < n → ∃ ad : Addr, A = some ad ∧ ad.block < w.heap.size ∧ ∀ i, i < n → ∃ z : Int, w.cell? (ad.add i) = some (.int .i64 z))
theorem addr_block (a : Addr) (i : Nat) : (a.add i).block = a.block := by unfold Addr.add; split <;> rfl

end Go.Proofs.YtbkfmbkamocllaaDoor
