import Derived.Test.YtogjhpcjjmcjfaaGreatDoorL32
import Derived.Test.YtogjhpcjjmcjfaaGreatDoorL36
import Derived.Test.YtogjhpcjjmcjfaaGreatDoorL30
import Derived.Test.YtogjhpcjjmcjfaaGreatDoorL33
import Derived.Test.YtogjhpcjjmcjfaaGreatDoorL25
import Derived.Test.YtogjhpcjjmcjfaaGreatDoorL26
import Derived.Test.YtogjhpcjjmcjfaaGreatDoorL11
import Derived.Test.YtogjhpcjjmcjfaaGreatDoorL24
import Derived.WalkKit
import Derived.Test.YtogjhpcjjmcjfaaGreatDoorL27
/- what is reached of it -/
namespace Go.Proofs.YtogjhpcjjmcjfaaGreatDoor
open Go.RowKit Vc Ct Tx
theorem but_setI (w : World) (q o : Nat) (u : Value) : But (· = q) w (w.setCell ⟨q, o, none⟩ u) :=
  have b := Below.setCell (p := ⟨q, o, none⟩) (Below.refl q w) (Nat.le_refl q) u
  ⟨b.os, b.tape, b.output, b.size, fun _ _ hn => Below.heap_setCell _ _ _ _ hn⟩
theorem OwnT.butI {B q : Nat} {w w' : World} {v : Value} {x : List ByteArray} (h : OwnT B w v x) (hb : But (· = q) w w') (hq : q < B) : OwnT B w' v x :=
  h.kept fun j hj => hb.block j (h.low hj).2 (by have := (h.low hj).1; omega)
end Go.Proofs.YtogjhpcjjmcjfaaGreatDoor
