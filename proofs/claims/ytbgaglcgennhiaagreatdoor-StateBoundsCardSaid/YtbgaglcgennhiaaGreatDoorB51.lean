import Derived.Test.YtbgaglcgennhiaaGreatDoorB37
import Derived.Test.YtbgaglcgennhiaaGreatDoorB38
import Derived.Deep.Strs
import Derived.SizedLaws
/- what is reached of it -/
namespace Go.Proofs.YtbgaglcgennhiaaGreatDoor
open Go.ChangeShapes Go.WideShapes Go.ChangeAt Go.RowKit Tx Vc Ct
theorem okwI_of {W : World} (hT : Lib.Utf8Tabs 1 2 W) (hS : W.ShapedOpen Tryz.prog) : Okw W := ⟨hT, Tryz.laysM219.s1_3 W hS⟩
end Go.Proofs.YtbgaglcgennhiaaGreatDoor
