import Derived.Test.YtfbdnaclkfmiaaaGreatDoorG51
import Derived.Test.YtfbdnaclkfmiaaaGreatDoorG42
import Derived.IntWalk
import Derived.Deep.QuietTactic
import Derived.BigQuiet
import Derived.Deep.SlicePairs
import Derived.Deep.Slices
import Derived.Test.YtfbdnaclkfmiaaaGreatDoorG34
import Derived.Lib.SmallJoins
/- what is reached of it -/
namespace Go.Proofs.YtfbdnaclkfmiaaaGreatDoor
open Go.ChangeShapes Go.WideShapes Go.ChangeAt Go.RowKit Vc Ct
theorem lt_of_cellK {W : World} {a : Addr} {v : Value} (h : W.cell? a = some v) : a.block < W.heap.size := by
  rcases Nat.lt_or_ge a.block W.heap.size with h' | h'
  · exact h'
  · simp [World.cell?, Array.getElem?_eq_none h'] at h
theorem bulk_strsK {H : Type} : ∀ xs : List ByteArray, ((Go.Proofs.YtfbdnaclkfmiaaaGreatDoor.btl xs).map fun x => 3 + x.length).sum ≤ 3 * Rows.uptoBulkAll (xs.map fun s => (DataW.lit (.string s.data.toList) : DataW H))
  | [] => by simp [btl]
  | a :: t => by
    have ih := bulk_strsK (H := H) t
    simp only [btl, List.map_cons, List.sum_cons, Rows.uptoBulkAll, Rows.uptoBulk] at ih ⊢
    omega
theorem strs_of_cellsK {H : Type} {enc : TypeId × Value → H} {W : World} {v : Value} {n : Nat} {x : DataW H × List MemPlace}
    (hv : v.cells.toList = [v]) (hf : DataW.trod enc Tryz.prog W 0 (fun _ => true) true n 23 v.cells.toList = some x) :
    ∃ xs : List ByteArray, ReadT W.heap.size W v xs ∧ 3 + ((Go.Proofs.YtfbdnaclkfmiaaaGreatDoor.btl xs).map fun x => 3 + x.length).sum ≤ 3 * Rows.uptoBulk x.1 := by
  rw [hv] at hf
  rcases Go.Deep.open_strs Tryz.underlying23 Tryz.underlying9 (by kernel_rfl) hf with ⟨hcs, hx⟩ | ⟨a, len, cap, m, Sx, hcs, _, hl, hm, hmm, hx, hc⟩
  · injection hcs with hcs
    subst hcs
    refine ⟨[], ReadT.nil _ _ _, ?_⟩
    rw [hx]
    simp [btl, Rows.uptoBulk]
  · injection hcs with hcs
    subst hcs
    have hml : len ≤ m := by rw [hmm]; split <;> omega
    refine ⟨(List.range len).map Sx, ⟨some a, cap, by rw [List.length_map, List.length_range], fun h0 => ?_⟩, ?_⟩
    · rw [List.length_map, List.length_range] at h0
      refine ⟨a, rfl, ?_, fun i b hi => ?_⟩
      · have := lt_of_cellK (hc 0 (by omega)).1
        rwa [addBlock] at this
      · rw [List.getElem?_map] at hi
        obtain ⟨j, hj, rfl⟩ := Option.map_eq_some_iff.1 hi
        obtain ⟨hj1, rfl⟩ := List.getElem?_eq_some_iff.1 hj
        rw [List.length_range] at hj1
        rw [List.getElem_range]
        exact (hc i (by omega)).1
    · have hb := bulk_strsK (H := H) ((List.range len).map Sx)
      rw [List.map_map] at hb
      rw [hx]
      simp only [Rows.uptoBulk]
      have he : (List.range len).map ((fun s : ByteArray => (DataW.lit (.string s.data.toList) : DataW H)) ∘ Sx) = (List.range len).map fun i => .lit (.string (Sx i).data.toList) := rfl
      rw [he] at hb
      omega
theorem sum_each {f : List UInt8 → Nat} : ∀ {l : List (List UInt8)} {x : List UInt8}, x ∈ l → f x ≤ (l.map f).sum
  | a :: t, x, h => by
    rw [List.map_cons, List.sum_cons]
    rcases List.mem_cons.1 h with e | e
    · rw [e]; omega
    · have := sum_each (f := f) e
      omega
theorem sum_count {f : List UInt8 → Nat} (hf : ∀ x, 3 ≤ f x) : ∀ (l : List (List UInt8)), 3 * l.length ≤ (l.map f).sum
  | [] => Nat.zero_le _
  | a :: t => by
    rw [List.map_cons, List.sum_cons, List.length_cons]
    have := sum_count hf t
    have := hf a
    omega
theorem strs_came {H : Type} {enc : TypeId × Value → H} {W : World} {v : Value} {d : DataW H} {ps : List MemPlace}
    (hv : ∃ a len cap, v = .slice a len cap) (h : DataW.Trod enc Tryz.prog W 0 (fun _ => true) true 23 v d ps) : ∃ xs : List ByteArray, ReadT W.heap.size W v xs ∧ 3 + ((Go.Proofs.YtfbdnaclkfmiaaaGreatDoor.btl xs).map fun x => 3 + x.length).sum ≤ 3 * Rows.uptoBulk d := by
  obtain ⟨a0, len0, cap0, rfl⟩ := hv
  obtain ⟨fuel, hf⟩ := h
  exact strs_of_cellsK (v := .slice a0 len0 cap0) rfl hf
end Go.Proofs.YtfbdnaclkfmiaaaGreatDoor
/- what is reached of it -/
namespace Go.Proofs.YtfbdnaclkfmiaaaGreatDoor
open Go.RowKit Vc Ct Tx
theorem strs_few {xs : List ByteArray} (h : 3 + ((Go.Proofs.YtfbdnaclkfmiaaaGreatDoor.btl xs).map fun x => 3 + x.length).sum ≤ 3145728) : xs.length ≤ 10000000 ∧ ∀ x ∈ xs, x.size ≤ 10000000 := by
  have h1 := sum_count (f := fun x : List UInt8 => 3 + x.length) (fun x => Nat.le_add_right _ _) (Go.Proofs.YtfbdnaclkfmiaaaGreatDoor.btl xs)
  have h2 : (Go.Proofs.YtfbdnaclkfmiaaaGreatDoor.btl xs).length = xs.length := by unfold btl; rw [List.length_map]
  refine ⟨by omega, fun x hx => ?_⟩
  have h3 := sum_each (f := fun x : List UInt8 => 3 + x.length) (show x.data.toList ∈ Go.Proofs.YtfbdnaclkfmiaaaGreatDoor.btl xs from List.mem_map.2 ⟨x, hx, rfl⟩)
  have h4 : x.size = x.data.toList.length := rfl
  rw [h4]
  omega
end Go.Proofs.YtfbdnaclkfmiaaaGreatDoor
