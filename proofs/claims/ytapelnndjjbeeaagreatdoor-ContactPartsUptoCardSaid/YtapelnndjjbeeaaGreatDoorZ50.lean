import Derived.Test.YtapelnndjjbeeaaGreatDoorZ47
import Derived.Test.YtapelnndjjbeeaaGreatDoorZ32
import Derived.Test.YtapelnndjjbeeaaGreatDoorZ08
/- what is reached of it -/
namespace Go.Proofs.YtapelnndjjbeeaaGreatDoor
open Go.RowKit Vc Ct
theorem cbtsB_app (a b : List UInt8) : bts a ++ bts b = bts (a ++ b) := by
  apply ByteArray.ext
  rw [ByteArray.data_append]
  exact (List.append_toArray a b).symm ▸ rfl
theorem CRowB.none (w : World) : RowA w (.slice none 0 0) [] := ⟨Option.none, 0, rfl, fun h => absurd h (Nat.not_lt_zero _), Nat.le_refl _, Nat.zero_le _, fun _ => rfl⟩
end Go.Proofs.YtapelnndjjbeeaaGreatDoor
