/-
  FROM A WALK TO A STATEMENT, where a law is handed ranges (slices of structs of two ints) or ints, and its row lists nothing: what came in, opened.
-/
import Derived.Test.YtpaojmiemjndlaaDoor
import Derived.Test.YtpaojmiemjndlaaPrs
import Derived.Deep.SlicePairs
import Derived.Deep.Slices
import Derived.SizedLaws
namespace Go.Proofs.Ytpaojmiemjndlaa
open Go.ChangeShapes Go.WideShapes Go.ChangeAt Go.RowKit Rg

theorem lt_of_cellS {W : World} {a : Addr} {v : Value} (h : W.cell? a = some v) : a.block < W.heap.size := World.block_lt_of_cell? W a h
/-- the witness' world: the settled one -/
noncomputable def bareWorld (os : Os) : World := World.holding Try.prog os ⟨#[], #[], []⟩
theorem bare_met (os : Os) (args : Array Value) : laidMet Try.prog [] (((bareWorld os).forCall (fun _ _ => 0) ⟨#[], args, []⟩).memory) := ⟨[], rfl, List.nodup_nil, fun b off h => by cases h⟩
theorem fit_of_wf {z : Int} (h : (Lit.int .i64 z).wf = true) : Fit z := by
  simp [Lit.wf, IntKind.min, IntKind.max, IntKind.bits, IntKind.signed] at h
  unfold Fit
  omega
/-- A slice of ranges that came in. -/
theorem readsR_of_trod {H : Type} {enc : TypeId × Value → H} {W : World} {v : Value} {d : DataW H} {ps : List MemPlace}
    (hv : ∃ a len cap, v = .slice a len cap) (h : DataW.Trod enc Try.prog W 0 (fun _ => true) true 22 v d ps) : ∃ l : List R, ReadR W.heap.size W v l ∧ Fits l := by
  obtain ⟨a0, len0, cap0, rfl⟩ := hv
  obtain ⟨fuel, hf⟩ := h
  rcases Go.Deep.open_slice_pairs Try.underlying22 Try.underlying26 (by kernel_rfl) rfl rfl (by kernel_rfl) (by kernel_rfl) hf with ⟨hcs, hx⟩ | ⟨a, len, cap, m, n, V0, V1, D0, D1, P0, P1, hcs, _, hl, hm, hmm, hx, hc⟩
  · simp [Value.cells] at hcs
    obtain ⟨rfl, rfl, rfl⟩ := hcs
    exact ⟨[], ReadR.nil _ _, fun r hr => by simp at hr⟩
  · simp [Value.cells] at hcs
    obtain ⟨rfl, rfl, rfl⟩ := hcs
    have hml : len0 ≤ m := by rw [hmm]; split <;> omega
    have each : ∀ i, i < len0 → ∃ r : R, (W.cell? (a.add (i * 2)) = some (.int .i64 r.1) ∧ W.cell? (a.add (i * 2 + 1)) = some (.int .i64 r.2)) ∧ Fit r.1 ∧ Fit r.2 := fun i hi => by
      obtain ⟨h0, h1, h2, h3⟩ := hc i (by omega)
      obtain ⟨x, e1, _, f1⟩ := DataW.trod_int Try.underlying3 h2
      obtain ⟨y, e2, _, f2⟩ := DataW.trod_int Try.underlying3 h3
      injection e1 with e1
      injection e2 with e2
      exact ⟨(x, y), ⟨by rw [h0, e1], by rw [h1, e2]⟩, fit_of_wf f1, fit_of_wf f2⟩
    obtain ⟨X, hX⟩ := Go.Deep.choose_lt each
    refine ⟨(List.range len0).map X, ⟨some a, cap0, by rw [List.length_map, List.length_range], ⟨by rw [List.length_map, List.length_range]; exact hl, hm, fun e => by cases e⟩, fun h0 => ?_⟩, fun r hr => ?_⟩
    · rw [List.length_map, List.length_range] at h0
      refine ⟨a, rfl, ?_, fun i r hi => ?_⟩
      · have := lt_of_cellS (hX 0 h0).1.1
        rwa [addBlock] at this
      · rw [List.getElem?_map] at hi
        obtain ⟨j, hj, rfl⟩ := Option.map_eq_some_iff.1 hi
        obtain ⟨hj1, rfl⟩ := List.getElem?_eq_some_iff.1 hj
        rw [List.length_range] at hj1
        rw [List.getElem_range]
        have h2 := (hX i hj1).1.2
        rw [add_succ] at h2
        exact ⟨(hX i hj1).1.1, h2⟩
    · obtain ⟨i, hi, rfl⟩ := List.mem_map.1 hr
      exact (hX i (List.mem_range.1 hi)).2
end Go.Proofs.Ytpaojmiemjndlaa
