import Derived.Test.YtpaehhlhngilcaaM40
import Derived.SizedLaws
/- what is reached of it -/
namespace Go.Proofs.Ytpaehhlhngilcaa
open Go.ChangeShapes Go.WideShapes Go.ChangeAt Go.RowKit Tx Vc Ct
theorem readsZ_strs {H : Type} {enc : TypeId × Value → H} {W : World} {v : Value} {n : Nat} {x : DataW H × List MemPlace}
    (h : DataW.trod enc Try.prog W 0 (fun _ => true) true n 24 [v] = some x) :
    ∃ xs : List ByteArray, (∃ a len cap, v = .slice a len cap) ∧ ReadT W.heap.size W v xs ∧ (xs = [] ∨ ∃ rest, x.1 = .slice (xs.map fun s => .lit (.string s.data.toList)) rest) := by
  rcases Go.Deep.open_strs Try.underlying24 Try.underlying9 (by kernel_rfl) h with ⟨hcs, hx⟩ | ⟨a, len, cap, m, Sx, hcs, _, hl, hm, hmm, hx, hc⟩
  · obtain rfl := (List.cons.inj hcs).1
    exact ⟨[], ⟨_, _, _, rfl⟩, ReadT.nil _ _ _, .inl rfl⟩
  · obtain rfl := (List.cons.inj hcs).1
    have hml : len ≤ m := by rw [hmm]; split <;> omega
    refine ⟨(List.range len).map Sx, ⟨_, _, _, rfl⟩, ⟨some a, cap, by rw [List.length_map, List.length_range], fun h0 => ?_⟩, .inr ⟨(List.range (m - len)).map fun j => .lit (.string (Sx (len + j)).data.toList), ?_⟩⟩
    · rw [List.length_map, List.length_range] at h0
      refine ⟨a, rfl, ?_, fun i b hi => ?_⟩
      · have := lt_of_cellI (hc 0 (by omega)).1
        rwa [addBlock] at this
      · rw [List.getElem?_map] at hi
        obtain ⟨j, hj, rfl⟩ := Option.map_eq_some_iff.1 hi
        obtain ⟨hj1, rfl⟩ := List.getElem?_eq_some_iff.1 hj
        rw [List.length_range] at hj1
        rw [List.getElem_range]
        exact (hc i (by omega)).1
    · rw [List.map_map]
      exact congrArg Prod.fst hx
set_option maxRecDepth 100000 in
theorem itemZ_cells {H : Type} {enc : TypeId × Value → H} {W : World} {n : Nat} {cs : List Value} {x : DataW H × List MemPlace}
    (h : DataW.trod enc Try.prog W 0 (fun _ => true) true n 26 cs = some x) :
    ∃ (i : Itm) (q : Slc), cs = encI i (sl q) ∧ ReadT W.heap.size W (sl q) (sts i.groups) ∧ i.jid.length ∈ DataW.weights Try.prog 26 x.1 ∧ (i.groups = [] ∨ ∃ m, i.groups.length ≤ m ∧ m * 16 ∈ DataW.weights Try.prog 26 x.1) := by
  have c6 : Try.prog.cellsOf 26 = 6 := by kernel_rfl
  have b16 : Try.prog.bytesOf 9 = 16 := by kernel_rfl
  obtain ⟨v0, v1, v2, v3, v4, v5, y0, y1, y2, y3, y4, y5, k, rfl, hD, t0, t1, t2, t3, t4, t5⟩ := six_of_trodY Try.underlying26 c6 rfl (by kernel_rfl) h
  obtain ⟨s0, e0, w0, _⟩ := DataW.trod_string Try.underlying9 t0
  obtain ⟨s1, e1, w1, _⟩ := DataW.trod_string Try.underlying9 t1
  obtain ⟨z3, e3, w3, _⟩ := DataW.trod_int Try.underlying3 t3
  obtain ⟨b4, e4, w4⟩ := DataW.trod_bool Try.underlying4 t4
  obtain ⟨b5, e5, w5⟩ := DataW.trod_bool Try.underlying4 t5
  obtain rfl := (List.cons.inj e0).1
  obtain rfl := (List.cons.inj e1).1
  obtain rfl := (List.cons.inj e3).1
  obtain rfl := (List.cons.inj e4).1
  obtain rfl := (List.cons.inj e5).1
  obtain ⟨xs, ⟨a2, n2, m2, rfl⟩, r2, hd2⟩ := readsZ_strs t2
  refine ⟨⟨s0.data.toList, s1.data.toList, btI xs, z3, b4, b5⟩, (a2, n2, m2), rfl, by rw [sts_btI]; exact r2, ?_, ?_⟩
  · rw [hD, w0, DataW.weights, Try.underlying26]
    simp [DataW.weightsEach, DataW.weights]
  · rcases hd2 with rfl | ⟨rest, hr⟩
    · exact .inl rfl
    · refine .inr ⟨(xs.map fun s => (.lit (.string s.data.toList) : DataW H)).length + rest.length, ?_, ?_⟩
      · show (btI xs).length ≤ _
        unfold btI
        rw [List.length_map, List.length_map]
        omega
      · rw [hD, hr, DataW.weights, Try.underlying26]
        simp only [DataW.weightsEach, List.map_cons, List.mem_append]
        right; right; left
        rw [DataW.weights, Try.underlying24]
        simp only [b16]
        exact List.mem_cons_self
end Go.Proofs.Ytpaehhlhngilcaa
