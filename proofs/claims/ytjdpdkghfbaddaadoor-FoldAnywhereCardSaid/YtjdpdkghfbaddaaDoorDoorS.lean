/-
  FROM A WALK TO A STATEMENT, where a law is handed strings, or leans on the library's search: slices of strings that came in, opened; the bounds of what came in; what the row's own world holds.
-/
import Derived.Test.YtjdpdkghfbaddaaDoorDoor
import Derived.Test.YtjdpdkghfbaddaaDoorFoAw
import Derived.Deep.Strs
import Derived.SizedLaws
namespace Go.Proofs.YtjdpdkghfbaddaaDoor
open Go.ChangeShapes Go.WideShapes Go.ChangeAt Go.RowKit

theorem okw_of {W : World} (hT : Lib.Utf8Tabs 1 2 W) (hS : W.ShapedOpen Tryd.prog) : Okw W := ⟨hT, Tryd.laysM219.s1_3 W hS⟩
theorem lt_of_cellS {W : World} {a : Addr} {v : Value} (h : W.cell? a = some v) : a.block < W.heap.size := by
  rcases Nat.lt_or_ge a.block W.heap.size with h' | h'
  · exact h'
  · simp [World.cell?, Array.getElem?_eq_none h'] at h
/-- A slice of strings that came in: its strings, and its datum. -/
theorem readsS_of_trod {H : Type} {enc : TypeId × Value → H} {W : World} {v : Value} {d : DataW H} {ps : List MemPlace}
    (hv : ∃ a len cap, v = .slice a len cap) (h : DataW.Trod enc Tryd.prog W 0 (fun _ => true) true 22 v d ps) :
    ∃ xs : List ByteArray, ReadT W.heap.size W v xs ∧ ((d = .nil ∧ xs = []) ∨ ∃ rest, d = .slice (xs.map fun s => .lit (.string s.data.toList)) rest) := by
  obtain ⟨a0, len0, cap0, rfl⟩ := hv
  obtain ⟨fuel, hf⟩ := h
  rcases Go.Deep.open_strs Tryd.underlying22 Tryd.underlying9 (by kernel_rfl) hf with ⟨hcs, hx⟩ | ⟨a, len, cap, m, Sx, hcs, _, hl, hm, hmm, hx, hc⟩
  · simp [Value.cells] at hcs
    obtain ⟨rfl, rfl, rfl⟩ := hcs
    exact ⟨[], ReadT.nil _ _ _, .inl ⟨congrArg Prod.fst hx, rfl⟩⟩
  · simp [Value.cells] at hcs
    obtain ⟨rfl, rfl, rfl⟩ := hcs
    have hml : len0 ≤ m := by rw [hmm]; split <;> omega
    refine ⟨(List.range len0).map Sx, ⟨some a, cap0, by rw [List.length_map, List.length_range], fun h0 => ?_⟩, .inr ⟨(List.range (m - len0)).map fun j => .lit (.string (Sx (len0 + j)).data.toList), ?_⟩⟩
    · rw [List.length_map, List.length_range] at h0
      refine ⟨a, rfl, ?_, fun i b hi => ?_⟩
      · have := lt_of_cellS (hc 0 (by omega)).1
        rwa [addBlock] at this
      · rw [List.getElem?_map] at hi
        obtain ⟨j, hj, rfl⟩ := Option.map_eq_some_iff.1 hi
        obtain ⟨hj1, rfl⟩ := List.getElem?_eq_some_iff.1 hj
        rw [List.length_range] at hj1
        rw [List.getElem_range]
        exact (hc i (by omega)).1
    · rw [List.map_map]
      exact congrArg Prod.fst hx
/-- what the form's own reach says of such a slice -/
theorem reachS {H : Type} {ts : List TypeId} {ds : List (DataW H)} {d : DataW H} {xs : List ByteArray} (hd : (d = .nil ∧ xs = []) ∨ ∃ rest, d = .slice (xs.map fun s => .lit (.string s.data.toList)) rest)
    (h : (DataW.weightsEach Tryd.prog ts ds).all (· ≤ reachBytes) = true) {j : Nat} (ht : ts[j]? = some 22) (hj : ds[j]? = some d) : xs.length ≤ 140737488355328 ∧ ∀ (k : Nat) (p : ByteArray), xs[k]? = some p → p.size ≤ 140737488355328 := by
  rcases hd with ⟨_, rfl⟩ | ⟨rest, rfl⟩
  · exact ⟨by simp, fun k p hp => by simp at hp⟩
  · have h1 := sized_slice h ht hj Tryd.underlying22
    rw [show Tryd.prog.bytesOf 9 = 16 by kernel_rfl, List.length_map] at h1
    have hr : reachBytes = 140737488351232 := rfl
    refine ⟨by omega, fun k p hp => ?_⟩
    have hmem : ∀ (l : List ByteArray), p ∈ l → p.data.toList.length ∈ DataW.weightsAll Tryd.prog 9 (l.map fun s => (DataW.lit (.string s.data.toList) : DataW H)) := by
      intro l
      induction l with
      | nil => intro h; cases h
      | cons a t ih =>
        intro h
        rw [List.map_cons, DataW.weightsAll, List.mem_append]
        rcases List.mem_cons.1 h with rfl | h
        · left; simp [DataW.weights]
        · exact .inr (ih h)
    have h2 := List.all_eq_true.1 h _ (DataW.weights_mem_each ht hj p.data.toList.length (by
      rw [DataW.weights, Tryd.underlying22]
      exact List.mem_cons_of_mem _ (List.mem_append_left _ (hmem xs (List.mem_of_getElem? hp)))))
    rw [← Lib.size_eq] at h2
    have := of_decide_eq_true h2
    omega
theorem bulk_upto {H : Type} : ∀ xs : List ByteArray, bulk xs ≤ 3 * Rows.uptoBulkAll (xs.map fun s => (DataW.lit (.string s.data.toList) : DataW H))
  | [] => by simp [bulk]
  | a :: t => by
    have ih := bulk_upto (H := H) t
    have := Lib.size_eq a
    simp only [bulk, List.map_cons, List.sum_cons, Rows.uptoBulkAll, Rows.uptoBulk] at ih ⊢
    omega
theorem bulkS {H : Type} {d : DataW H} {xs : List ByteArray} (hd : (d = .nil ∧ xs = []) ∨ ∃ rest, d = .slice (xs.map fun s => .lit (.string s.data.toList)) rest) : bulk xs ≤ 3 * Rows.uptoBulk d := by
  rcases hd with ⟨_, rfl⟩ | ⟨rest, rfl⟩
  · simp [bulk]
  · have := bulk_upto (H := H) xs
    simp only [Rows.uptoBulk]
    omega
end Go.Proofs.YtjdpdkghfbaddaaDoor
