/-
  WHAT A LAW's WALK SAYS: it answers true, and turns no memory that was there.
-/
import Derived.WalkKit
namespace Go.Proofs.YtphopnfnjnieaaaGreatDoor
open Go.RowKit

/-- A law answers true, and turns no memory that was there. -/
def Holds (w : World) (e : Ending) (w' : World) : Prop := e = .returned (.bool true) ∧ Below w.heap.size w w'
theorem same_self (b : ByteArray) : (b.toList == b.toList) = true := beq_self_eq_true _
end Go.Proofs.YtphopnfnjnieaaaGreatDoor
