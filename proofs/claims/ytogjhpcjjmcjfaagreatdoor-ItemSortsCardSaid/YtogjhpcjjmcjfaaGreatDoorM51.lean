import Derived.Test.YtogjhpcjjmcjfaaGreatDoorM50
import Derived.SizedLaws
/- what is reached of it -/
namespace Go.Proofs.YtogjhpcjjmcjfaaGreatDoor
open Go.ChangeShapes Go.WideShapes Go.ChangeAt Go.RowKit Tx Vc Ct
theorem readsZ_strs {H : Type} {enc : TypeId × Value → H} {W : World} {v : Value} {n : Nat} {x : DataW H × List MemPlace}
    (h : DataW.trod enc Tryz.prog W 0 (fun _ => true) true n 22 [v] = some x) :
    ∃ xs : List ByteArray, (∃ a len cap, v = .slice a len cap) ∧ ReadT W.heap.size W v xs ∧ (xs = [] ∨ ∃ rest, x.1 = .slice (xs.map fun s => .lit (.string s.data.toList)) rest) := by
  rcases Go.Deep.open_strs Tryz.underlying22 Tryz.underlying9 (by kernel_rfl) h with ⟨hcs, hx⟩ | ⟨a, len, cap, m, Sx, hcs, _, hl, hm, hmm, hx, hc⟩
  · obtain rfl := (List.cons.inj hcs).1
    exact ⟨[], ⟨_, _, _, rfl⟩, ReadT.nil _ _ _, .inl rfl⟩
  · obtain rfl := (List.cons.inj hcs).1
    have hml : len ≤ m := by rw [hmm]; split <;> omega
    refine ⟨(List.range len).map Sx, ⟨_, _, _, rfl⟩, ⟨some a, cap, by rw [List.length_map, List.length_range], fun h0 => ?_⟩, .inr ⟨(List.range (m - len)).map fun j => .lit (.string (Sx (len + j)).data.toList), ?_⟩⟩
    · rw [List.length_map, List.length_range] at h0
      refine ⟨a, rfl, ?_, fun i b hi => ?_⟩
      · have := lt_of_cellI (hc 0 (by omega)).1
        rwa [addBlock] at this
      · rw [List.getElem?_map] at hi
        obtain ⟨j, hj, rfl⟩ := Option.map_eq_some_iff.1 hi
        obtain ⟨hj1, rfl⟩ := List.getElem?_eq_some_iff.1 hj
        rw [List.length_range] at hj1
        rw [List.getElem_range]
        exact (hc i (by omega)).1
    · rw [List.map_map]
      exact congrArg Prod.fst hx
set_option maxRecDepth 100000 in
theorem itemZ_cells {H : Type} {enc : TypeId × Value → H} {W : World} {n : Nat} {cs : List Value} {x : DataW H × List MemPlace}
    (h : DataW.trod enc Tryz.prog W 0 (fun _ => true) true n 24 cs = some x) :
    ∃ (i : Itm) (q : Slc), cs = encI i (sl q) ∧ ReadT W.heap.size W (sl q) (sts i.groups) ∧ i.jid.length ∈ DataW.weights Tryz.prog 24 x.1 ∧ (i.groups = [] ∨ ∃ m, i.groups.length ≤ m ∧ m * 16 ∈ DataW.weights Tryz.prog 24 x.1) := by
  have c6 : Tryz.prog.cellsOf 24 = 6 := by kernel_rfl
  have b16 : Tryz.prog.bytesOf 9 = 16 := by kernel_rfl
  obtain ⟨v0, v1, v2, v3, v4, v5, y0, y1, y2, y3, y4, y5, k, rfl, hD, t0, t1, t2, t3, t4, t5⟩ := six_of_trodY Tryz.underlying24 c6 rfl (by kernel_rfl) h
  obtain ⟨s0, e0, w0, _⟩ := DataW.trod_string Tryz.underlying9 t0
  obtain ⟨s1, e1, w1, _⟩ := DataW.trod_string Tryz.underlying9 t1
  obtain ⟨z3, e3, w3, _⟩ := DataW.trod_int Tryz.underlying3 t3
  obtain ⟨b4, e4, w4⟩ := DataW.trod_bool Tryz.underlying4 t4
  obtain ⟨b5, e5, w5⟩ := DataW.trod_bool Tryz.underlying4 t5
  obtain rfl := (List.cons.inj e0).1
  obtain rfl := (List.cons.inj e1).1
  obtain rfl := (List.cons.inj e3).1
  obtain rfl := (List.cons.inj e4).1
  obtain rfl := (List.cons.inj e5).1
  obtain ⟨xs, ⟨a2, n2, m2, rfl⟩, r2, hd2⟩ := readsZ_strs t2
  refine ⟨⟨s0.data.toList, s1.data.toList, btI xs, z3, b4, b5⟩, (a2, n2, m2), rfl, by rw [sts_btI]; exact r2, ?_, ?_⟩
  · rw [hD, w0, DataW.weights, Tryz.underlying24]
    simp [DataW.weightsEach, DataW.weights]
  · rcases hd2 with rfl | ⟨rest, hr⟩
    · exact .inl rfl
    · refine .inr ⟨(xs.map fun s => (.lit (.string s.data.toList) : DataW H)).length + rest.length, ?_, ?_⟩
      · show (btI xs).length ≤ _
        unfold btI
        rw [List.length_map, List.length_map]
        omega
      · rw [hD, hr, DataW.weights, Tryz.underlying24]
        simp only [DataW.weightsEach, List.map_cons, List.mem_append]
        right; right; left
        rw [DataW.weights, Tryz.underlying22]
        simp only [b16]
        exact List.mem_cons_self
theorem weights_all {H : Type} {P : Program} {e : TypeId} {d : DataW H} {n : Nat} (hn : n ∈ DataW.weights P e d) : ∀ {l : List (DataW H)}, d ∈ l → n ∈ DataW.weightsAll P e l
  | a :: l, h => by
    rw [DataW.weightsAll, List.mem_append]
    rcases List.mem_cons.1 h with rfl | h
    · exact .inl hn
    · exact .inr (weights_all hn h)
set_option maxRecDepth 100000 in
/-- Items that came in, and what the form's own reach says of them. -/
theorem itemsZ_came {H : Type} {enc : TypeId × Value → H} {W : World} {v : Value} {d : DataW H} {ps : List MemPlace} {ts : List TypeId} {ds : List (DataW H)} {j : Nat}
    (hz : (DataW.weightsEach Tryz.prog ts ds).all (· ≤ reachBytes) = true) (ht : ts[j]? = some 25) (hj : ds[j]? = some d)
    (hv : ∃ a len cap, v = .slice a len cap) (h : DataW.Trod enc Tryz.prog W 0 (fun _ => true) true 25 v d ps) :
    ∃ l : List (Itm × Slc), ReadI W.heap.size W v l ∧ l.length ≤ 140737488355328 ∧ ∀ p ∈ l, p.1.jid.length ≤ 140737488355328 ∧ p.1.groups.length ≤ 8796093022208 := by
  have hrb : reachBytes = 140737488351232 := rfl
  have b72 : Tryz.prog.bytesOf 24 = 72 := by kernel_rfl
  obtain ⟨a0, len0, cap0, rfl⟩ := hv
  obtain ⟨fuel, hf⟩ := h
  rcases Go.Deep.open_slice Tryz.underlying25 hf with ⟨hcs, hx⟩ | ⟨a, len, cap, m, n, D, Pl, hcs, _, hl, hcp, hmm, hx, hc⟩
  · simp [Value.cells] at hcs
    obtain ⟨rfl, rfl, rfl⟩ := hcs
    exact ⟨[], ⟨none, 0, rfl, fun h0 => absurd h0 (Nat.not_lt_zero _), fun p hp => by cases hp⟩, Nat.zero_le _, fun p hp => by cases hp⟩
  · simp [Value.cells] at hcs
    obtain ⟨rfl, rfl, rfl⟩ := hcs
    have hml : len0 ≤ m := by rw [hmm]; split <;> omega
    have c6 : Tryz.prog.cellsOf 24 = 6 := by kernel_rfl
    rw [c6] at hc
    have hd : d = .slice ((List.range len0).map D) ((List.range (m - len0)).map fun j => D (len0 + j)) := congrArg Prod.fst hx
    have hw : ∀ i, i < len0 → ∀ k, k ∈ DataW.weights Tryz.prog 24 (D i) → k ≤ 140737488351232 := fun i hi k hk => by
      have h1 := List.all_eq_true.1 hz k (DataW.weights_mem_each ht hj k (by
        rw [hd, DataW.weights, Tryz.underlying25]
        exact List.mem_cons_of_mem _ (List.mem_append_left _ (weights_all hk (List.mem_map.2 ⟨i, List.mem_range.2 hi, rfl⟩)))))
      have := of_decide_eq_true h1
      omega
    have hlen : len0 ≤ 140737488355328 := by
      have h1 := List.all_eq_true.1 hz _ (DataW.weights_mem_each ht hj _ (by
        rw [hd, DataW.weights, Tryz.underlying25]
        exact List.mem_cons_self))
      have := of_decide_eq_true h1
      rw [b72, List.length_map, List.length_range] at this
      omega
    have each : ∀ i, i < len0 → ∃ p : Itm × Slc, (W.cells? 0 (a.add (i * 6)) 6 = some (encI p.1 (sl p.2)) ∧ ReadT W.heap.size W (sl p.2) (sts p.1.groups)) ∧ p.1.jid.length ≤ 140737488355328 ∧ p.1.groups.length ≤ 8796093022208 := fun i hi => by
      obtain ⟨cs, h1, h2⟩ := hc i (by omega)
      obtain ⟨x, q, rfl, hr, hb, hg⟩ := itemZ_cells h2
      refine ⟨(x, q), ⟨h1, hr⟩, ?_, ?_⟩
      · have := hw i hi _ hb
        show x.jid.length ≤ _
        omega
      · show x.groups.length ≤ _
        rcases hg with h0 | ⟨k, hk1, hk2⟩
        · rw [h0]; exact Nat.zero_le _
        · have := hw i hi _ hk2
          omega
    obtain ⟨X, hX⟩ := Go.Deep.choose_lt each
    have hcell : ∀ i, i < len0 → ∀ c u, (encI (X i).1 (sl (X i).2))[c]? = some u → W.cell? (a.add (i * 6 + c)) = some u := fun i hi c u hu => by
      obtain ⟨_, _, hcl⟩ := World.cells?_some (hX i hi).1.1
      have hc6 : c < 6 := by
        have := (List.getElem?_eq_some_iff.1 hu).1
        simpa [encI] using this
      have e := hcl c hc6
      rw [Go.Deep.add_add] at e
      rw [e]
      exact hu
    refine ⟨(List.range len0).map X, ⟨some a, cap0, by rw [List.length_map, List.length_range], fun h0 => ?_, fun p hp => ?_⟩, by rw [List.length_map, List.length_range]; exact hlen, fun p hp => ?_⟩
    · rw [List.length_map, List.length_range] at h0
      have z0 := hcell 0 h0 0 _ rfl
      have z1 : W.cell? a = some (.string (bts (X 0).1.jid)) := by simpa [Addr.add] using z0
      have hsp := spot_none z1
      obtain ⟨b, off, sp⟩ := a
      simp only at hsp
      subst hsp
      refine ⟨b, off, rfl, lt_of_cellI z1, fun i p hi c u hu => ?_⟩
      rw [List.getElem?_map] at hi
      obtain ⟨j, hj, rfl⟩ := Option.map_eq_some_iff.1 hi
      obtain ⟨hj1, rfl⟩ := List.getElem?_eq_some_iff.1 hj
      rw [List.length_range] at hj1
      rw [List.getElem_range] at hu
      have e := hcell i hj1 c u hu
      rw [show (⟨b, off + i * 6 + c, none⟩ : Addr) = (⟨b, off, none⟩ : Addr).add (i * 6 + c) from ?_]
      · exact e
      · unfold Addr.add
        split
        · next h => simp only [Addr.mk.injEq, and_true, true_and]; omega
        · simp only [Nat.add_assoc]
    · obtain ⟨i, hi, rfl⟩ := List.mem_map.1 hp
      exact (hX i (List.mem_range.1 hi)).1.2
    · obtain ⟨i, hi, rfl⟩ := List.mem_map.1 hp
      exact (hX i (List.mem_range.1 hi)).2
end Go.Proofs.YtogjhpcjjmcjfaaGreatDoor
