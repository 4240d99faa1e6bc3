/-
  A slice of numbers that came in, opened: what a walk asks of it.
-/
import Derived.Test.YtbkfmbkamocllaaDoorReadD
import Derived.Test.YtbkfmbkamocllaaDoorRows
import Derived.OpenShut
import Derived.ProofKit
namespace Go.Proofs.YtbkfmbkamocllaaDoor
open Go.ChangeShapes Go.WideShapes Go.ChangeAt Go.RowKit

theorem lt_of_cell {W : World} {a : Addr} {v : Value} (h : W.cell? a = some v) : a.block < W.heap.size := by
  rcases Nat.lt_or_ge a.block W.heap.size with h' | h'
  · exact h'
  · simp [World.cell?, Array.getElem?_eq_none h'] at h
theorem readsZ_of_trod {H : Type} {enc : TypeId × Value → H} {W : World} {v : Value} {d : DataW H} {ps : List MemPlace}
    (hv : ∃ a len cap, v = .slice a len cap) (h : DataW.Trod enc Tryd.prog W 0 (fun _ => true) true 36 v d ps) : ∃ n, ReadsZ W v n ∧ n ≤ 9223372036854775807 := by
  obtain ⟨a0, len0, cap0, rfl⟩ := hv
  obtain ⟨fuel, hf⟩ := h
  rcases open_ints Tryd.underlying36 Tryd.underlying3 (by kernel_rfl) hf with ⟨hcs, _⟩ | ⟨a, len, cap, zs, hcs, _, hl, hm, hz, _, hc, _⟩
  · simp [Value.cells] at hcs
    obtain ⟨rfl, rfl, rfl⟩ := hcs
    exact ⟨0, ⟨none, 0, rfl, fun h => absurd h (by omega)⟩, by omega⟩
  · simp [Value.cells] at hcs
    obtain ⟨rfl, rfl, rfl⟩ := hcs
    unfold maxLen at hm
    rw [if_pos rfl] at hz
    refine ⟨_, ⟨_, _, rfl, fun h0 => ⟨a, rfl, ?_, fun i hi => ⟨_, hc i (by omega)⟩⟩⟩, by omega⟩
    have := lt_of_cell (hc 0 (by omega))
    rwa [addr_block] at this
end Go.Proofs.YtbkfmbkamocllaaDoor
