import Derived.Test.YtogjhpcjjmcjfaaGreatDoorM40
import Derived.Test.YtogjhpcjjmcjfaaGreatDoorM32
import Derived.Test.YtogjhpcjjmcjfaaGreatDoorM43
import Derived.Test.YtogjhpcjjmcjfaaGreatDoorM24
import Derived.Test.YtogjhpcjjmcjfaaGreatDoorM29
import Derived.Test.YtogjhpcjjmcjfaaGreatDoorM04
import Derived.Lib.Hide
import Derived.Laws.StructEq
import Derived.Lib.SlicesS
import Derived.Deep.RegionWith
import Derived.Shelf.SlicesQ.IndexFunc
import Derived.Deep.RegionLaw
import Derived.Deep.Upon
import Derived.Deep.MidRow
import Derived.Shelf.SlicesE.Clone
import Derived.Test.YtogjhpcjjmcjfaaGreatDoorM20
import Derived.Lib.ConvBytes
import Derived.Lib.AtoiErrMem
import Derived.Lib.SliceRun
import Derived.Deep.QuietTactic
import Derived.Test.YtogjhpcjjmcjfaaGreatDoorM28
import Derived.Test.YtogjhpcjjmcjfaaGreatDoorM27
import Derived.BigQuiet
import Derived.Laws.AppendOwnNone
import Derived.Test.YtogjhpcjjmcjfaaGreatDoorM13
import Derived.Test.YtogjhpcjjmcjfaaGreatDoorM25
import Derived.Test.YtogjhpcjjmcjfaaGreatDoorM15
import Derived.Test.YtogjhpcjjmcjfaaGreatDoorM11
import Derived.Deep.RegionHeld3
import Derived.WalkKit
/- what is reached of it -/
namespace Go.Proofs.YtogjhpcjjmcjfaaGreatDoor
open Go.RowKit Vc Ct Tx
theorem but_setI (w : World) (q o : Nat) (u : Value) : But (· = q) w (w.setCell ⟨q, o, none⟩ u) :=
  have b := Below.setCell (p := ⟨q, o, none⟩) (Below.refl q w) (Nat.le_refl q) u
  ⟨b.os, b.tape, b.output, b.size, fun _ _ hn => Below.heap_setCell _ _ _ _ hn⟩
theorem OwnT.butI {B q : Nat} {w w' : World} {v : Value} {x : List ByteArray} (h : OwnT B w v x) (hb : But (· = q) w w') (hq : q < B) : OwnT B w' v x :=
  h.kept fun j hj => hb.block j (h.low hj).2 (by have := (h.low hj).1; omega)
end Go.Proofs.YtogjhpcjjmcjfaaGreatDoor
