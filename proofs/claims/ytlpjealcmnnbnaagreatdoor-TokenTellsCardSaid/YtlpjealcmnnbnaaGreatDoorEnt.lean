/-
  THE DOCUMENT's OWN ENTITIES: cardexref01.utf and cardexref01.entity.
-/
import Derived.Test.YtlpjealcmnnbnaaGreatDoorNum
import Derived.Laws.Cover4
import Derived.Lib.SlicesS
import Derived.Lib.IndexBytes
namespace Go.Proofs.YtlpjealcmnnbnaaGreatDoor
open Go.RowKit Tx

set_option maxHeartbeats 400000 in
set_option maxRecDepth 100000 in
theorem utf_any (c : Nat) (w : World) (hc : c ≤ 1114111) :
    Calls Tryz.prog 66 #[.int .i64 c] w fun e w' => e = .returned (.string ⟨(enc c).toArray⟩) ∧ Below w.heap.size w w' := by
  have hcv := oneRune (P := Tryz.prog) Tryz.underlying129 Tryz.underlying21 Tryz.underlying9 c w
  obtain ⟨z, hz⟩ : ∃ z : Int, (c : Int) = z := ⟨_, rfl⟩
  have z0 : 0 ≤ z := by omega
  have z1 : z ≤ 1114111 := by omega
  rw [hz] at hcv ⊢
  clear hz hc
  obtain ⟨x, hx⟩ : ∃ x, (enc c).toArray = x := ⟨_, rfl⟩
  rw [hx] at hcv ⊢
  clear hx
  go_enter Tryz.func66, Tryz.ntmps66
  go_wp2
  go_ret
  exact ⟨rfl, (Below.refl _ _).alloc (Nat.le_refl _) _⟩

end Go.Proofs.YtlpjealcmnnbnaaGreatDoor
