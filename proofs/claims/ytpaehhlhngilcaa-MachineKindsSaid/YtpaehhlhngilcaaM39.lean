import Derived.Test.YtpaehhlhngilcaaM05
import Derived.Test.YtpaehhlhngilcaaM30
import Derived.Deep.Strs
import Derived.SizedLaws
/- what is reached of it -/
namespace Go.Proofs.Ytpaehhlhngilcaa
open Go.ChangeShapes Go.WideShapes Go.ChangeAt Go.RowKit Tx Vc Ct
def btI (xs : List ByteArray) : List (List UInt8) := xs.map fun s => s.data.toList
theorem sts_btI (xs : List ByteArray) : sts (btI xs) = xs := by
  unfold sts btI
  rw [List.map_map]
  exact (List.map_congr_left fun s _ => rfl).trans (List.map_id _)
theorem lt_of_cellI {W : World} {a : Addr} {v : Value} (h : W.cell? a = some v) : a.block < W.heap.size := by
  rcases Nat.lt_or_ge a.block W.heap.size with h' | h'
  · exact h'
  · simp [World.cell?, Array.getElem?_eq_none h'] at h
end Go.Proofs.Ytpaehhlhngilcaa
