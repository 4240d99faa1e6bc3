import Derived.Test.YtpaehhlhngilcaaM05
import Derived.Test.YtpaehhlhngilcaaM19
import Derived.Deep.SlicePairs
import Derived.Deep.Slices
import Derived.SizedLaws
/- what is reached of it -/
namespace Go.Proofs.Ytpaehhlhngilcaa
open Go.ChangeShapes Go.WideShapes Go.ChangeAt Go.RowKit Rg
/-- the witness' world: the settled one -/
noncomputable def bareWorld (os : Os) : World := World.holding Try.prog os ⟨#[], #[], []⟩
theorem bare_met (os : Os) (args : Array Value) : laidMet Try.prog [] (((bareWorld os).forCall (fun _ _ => 0) ⟨#[], args, []⟩).memory) := ⟨[], rfl, List.nodup_nil, fun b off h => by cases h⟩
end Go.Proofs.Ytpaehhlhngilcaa
