/-
  FROM A WALK TO A STATEMENT, where a law of package csv is handed strings, rows of strings, or bools: what came in, opened; its bounds; what the row's own world holds.
-/
import Derived.Test.YtakfcfjamgaekaaDoorDoor
import Derived.Test.YtakfcfjamgaekaaDoorCsvA
import Derived.Test.YtakfcfjamgaekaaDoorCsvL2
import Derived.Deep.Strs
import Derived.Deep.Grids
import Derived.SizedLaws
namespace Go.Proofs.YtakfcfjamgaekaaDoor
open Go.ChangeShapes Go.WideShapes Go.ChangeAt Go.RowKit

theorem okw_of {W : World} (hT : Lib.Utf8Tabs 0 1 W) (hS : W.ShapedOpen Tryd.prog) : Okw W := ⟨hT, Tryd.laysM219.s1_3 W hS⟩
theorem lt_of_cellS {W : World} {a : Addr} {v : Value} (h : W.cell? a = some v) : a.block < W.heap.size := by
  rcases Nat.lt_or_ge a.block W.heap.size with h' | h'
  · exact h'
  · simp [World.cell?, Array.getElem?_eq_none h'] at h
theorem bulk_strs {H : Type} : ∀ xs : List ByteArray, ((Go.Proofs.YtakfcfjamgaekaaDoor.bts xs).map fun x => 3 + x.length).sum ≤ 3 * Rows.uptoBulkAll (xs.map fun s => (DataW.lit (.string s.data.toList) : DataW H))
  | [] => by simp [bts]
  | a :: t => by
    have ih := bulk_strs (H := H) t
    simp only [bts, List.map_cons, List.sum_cons, Rows.uptoBulkAll, Rows.uptoBulk] at ih ⊢
    omega
/-- cells that hold a slice of strings: its strings -/
theorem strs_of_cells {H : Type} {enc : TypeId × Value → H} {W : World} {v : Value} {n : Nat} {x : DataW H × List MemPlace}
    (hv : v.cells.toList = [v]) (hf : DataW.trod enc Tryd.prog W 0 (fun _ => true) true n 25 v.cells.toList = some x) :
    ∃ xs : List ByteArray, ReadT W.heap.size W v xs ∧ 3 + ((Go.Proofs.YtakfcfjamgaekaaDoor.bts xs).map fun x => 3 + x.length).sum ≤ 3 * Rows.uptoBulk x.1 := by
  rw [hv] at hf
  rcases Go.Deep.open_strs Tryd.underlying25 Tryd.underlying9 (by kernel_rfl) hf with ⟨hcs, hx⟩ | ⟨a, len, cap, m, Sx, hcs, _, hl, hm, hmm, hx, hc⟩
  · injection hcs with hcs
    subst hcs
    refine ⟨[], ReadT.nil _ _ _, ?_⟩
    rw [hx]
    simp [bts, Rows.uptoBulk]
  · injection hcs with hcs
    subst hcs
    have hml : len ≤ m := by rw [hmm]; split <;> omega
    refine ⟨(List.range len).map Sx, ⟨some a, cap, by rw [List.length_map, List.length_range], fun h0 => ?_⟩, ?_⟩
    · rw [List.length_map, List.length_range] at h0
      refine ⟨a, rfl, ?_, fun i b hi => ?_⟩
      · have := lt_of_cellS (hc 0 (by omega)).1
        rwa [addBlock] at this
      · rw [List.getElem?_map] at hi
        obtain ⟨j, hj, rfl⟩ := Option.map_eq_some_iff.1 hi
        obtain ⟨hj1, rfl⟩ := List.getElem?_eq_some_iff.1 hj
        rw [List.length_range] at hj1
        rw [List.getElem_range]
        exact (hc i (by omega)).1
    · have hb := bulk_strs (H := H) ((List.range len).map Sx)
      rw [List.map_map] at hb
      rw [hx]
      simp only [Rows.uptoBulk]
      have he : (List.range len).map ((fun s : ByteArray => (DataW.lit (.string s.data.toList) : DataW H)) ∘ Sx) = (List.range len).map fun i => .lit (.string (Sx i).data.toList) := rfl
      rw [he] at hb
      omega
theorem readsS_of_trod {H : Type} {enc : TypeId × Value → H} {W : World} {v : Value} {d : DataW H} {ps : List MemPlace}
    (hv : ∃ a len cap, v = .slice a len cap) (h : DataW.Trod enc Tryd.prog W 0 (fun _ => true) true 25 v d ps) : ∃ xs : List ByteArray, ReadT W.heap.size W v xs := by
  obtain ⟨a0, len0, cap0, rfl⟩ := hv
  obtain ⟨fuel, hf⟩ := h
  obtain ⟨xs, h1, _⟩ := strs_of_cells rfl hf
  exact ⟨xs, h1⟩
theorem bulk_rows {H : Type} {X : Nat → List ByteArray} {D : Nat → DataW H} : ∀ l : List Nat, (∀ i ∈ l, 3 + ((Go.Proofs.YtakfcfjamgaekaaDoor.bts (X i)).map fun x => 3 + x.length).sum ≤ 3 * Rows.uptoBulk (D i)) → Tx.heft (btss (l.map X)) ≤ 3 * Rows.uptoBulkAll (l.map D)
  | [], _ => by simp [btss, Tx.heft]
  | a :: t, h => by
    have ih := bulk_rows t (fun i hi => h i (by simp [hi]))
    have ha := h a (by simp)
    simp only [btss, List.map_cons, heft_cons, Rows.uptoBulkAll] at ih ⊢
    omega
/-- A slice of slices of strings that came in: its rows, and how much they are. -/
theorem readsSS_of_trod {H : Type} {enc : TypeId × Value → H} {W : World} {v : Value} {d : DataW H} {ps : List MemPlace}
    (hv : ∃ a len cap, v = .slice a len cap) (h : DataW.Trod enc Tryd.prog W 0 (fun _ => true) true 22 v d ps) :
    ∃ m : List (List ByteArray), ReadTT W.heap.size W v m ∧ Tx.heft (btss m) ≤ 3 * Rows.uptoBulk d := by
  obtain ⟨a0, len0, cap0, rfl⟩ := hv
  obtain ⟨fuel, hf⟩ := h
  rcases Go.Deep.open_slice1 Tryd.underlying22 (by kernel_rfl) hf with ⟨hcs, hx⟩ | ⟨a, len, cap, m, n, V, D, Pl, hcs, _, hl, hm, hmm, hx, hc⟩
  · simp [Value.cells] at hcs
    obtain ⟨rfl, rfl, rfl⟩ := hcs
    exact ⟨[], ReadTT.nil _ _ _, by simp [btss, Tx.heft]⟩
  · simp [Value.cells] at hcs
    obtain ⟨rfl, rfl, rfl⟩ := hcs
    have hml : len0 ≤ m := by rw [hmm]; split <;> omega
    have each : ∀ i, i < len0 → ∃ xs : List ByteArray, ReadT W.heap.size W (V i) xs ∧ 3 + ((Go.Proofs.YtakfcfjamgaekaaDoor.bts xs).map fun x => 3 + x.length).sum ≤ 3 * Rows.uptoBulk (D i) := fun i hi => by
      have h2 := (hc i (by omega)).2
      have hvc : (V i).cells.toList = [V i] := by
        rcases Go.Deep.open_strs Tryd.underlying25 Tryd.underlying9 (by kernel_rfl) h2 with ⟨e, _⟩ | ⟨_, _, _, _, _, e, _⟩
        all_goals
          injection e with e
          rw [e]
          rfl
      exact strs_of_cells (x := (D i, Pl i)) hvc (by rw [hvc]; exact h2)
    obtain ⟨X, hX⟩ := Go.Deep.choose_lt each
    refine ⟨(List.range len0).map X, ⟨some a, cap0, by rw [List.length_map, List.length_range], fun h0 => ?_⟩, ?_⟩
    · rw [List.length_map, List.length_range] at h0
      refine ⟨a, rfl, ?_, fun i b hi => ?_⟩
      · have := lt_of_cellS (hc 0 (by omega)).1
        rwa [addBlock] at this
      · rw [List.getElem?_map] at hi
        obtain ⟨j, hj, rfl⟩ := Option.map_eq_some_iff.1 hi
        obtain ⟨hj1, rfl⟩ := List.getElem?_eq_some_iff.1 hj
        rw [List.length_range] at hj1
        rw [List.getElem_range]
        exact ⟨V i, (hc i (by omega)).1, (hX i hj1).1⟩
    · have hb := bulk_rows (H := H) (X := X) (D := D) (List.range len0) (fun i hi => (hX i (List.mem_range.1 hi)).2)
      have hd : d = .slice ((List.range len0).map D) ((List.range (m - len0)).map fun j => D (len0 + j)) := congrArg Prod.fst hx
      rw [hd]
      simp only [Rows.uptoBulk]
      omega
/-- A slice of bools that came in. -/
theorem readsB_of_trod {H : Type} {enc : TypeId × Value → H} {W : World} {v : Value} {d : DataW H} {ps : List MemPlace}
    (hv : ∃ a len cap, v = .slice a len cap) (h : DataW.Trod enc Tryd.prog W 0 (fun _ => true) true 35 v d ps) : ∃ (n : Nat) (Q : Nat → Bool), ReadB W.heap.size W v n Q := by
  obtain ⟨a0, len0, cap0, rfl⟩ := hv
  obtain ⟨fuel, hf⟩ := h
  rcases Go.Deep.open_bools Tryd.underlying35 Tryd.underlying4 (by kernel_rfl) hf with ⟨hcs, hx⟩ | ⟨a, len, cap, B, hcs, _, hl, hm, hx, hc⟩
  · simp [Value.cells] at hcs
    obtain ⟨rfl, rfl, rfl⟩ := hcs
    exact ⟨0, fun _ => false, none, 0, rfl, fun h => absurd h (by omega)⟩
  · simp [Value.cells] at hcs
    obtain ⟨rfl, rfl, rfl⟩ := hcs
    refine ⟨len0, B, some a, cap0, rfl, fun h0 => ⟨a, rfl, ?_, fun i hi => hc i (by omega)⟩⟩
    have := lt_of_cellS (hc 0 (by omega))
    rwa [addBlock] at this
end Go.Proofs.YtakfcfjamgaekaaDoor
