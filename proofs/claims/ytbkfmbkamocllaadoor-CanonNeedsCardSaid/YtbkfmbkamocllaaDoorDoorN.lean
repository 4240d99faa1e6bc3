/-
  NODES THAT CAME IN, opened, each slice within its capacity; how much may be written of them.
-/
import Derived.Test.YtbkfmbkamocllaaDoorDoorX
import Derived.Test.YtbkfmbkamocllaaDoorCnM
import Derived.Test.YtbkfmbkamocllaaDoorCnS
namespace Go.Proofs.YtbkfmbkamocllaaDoor
open Go.ChangeShapes Go.WideShapes Go.ChangeAt Go.RowKit Tk Tr Cn

theorem sum_le_all {H : Type} {D : Nat → DataW H} {f : Nat → Nat} (c : Nat) : ∀ l : List Nat, (∀ i ∈ l, f i ≤ c * Rows.uptoBulk (D i)) → (l.map f).sum ≤ c * Rows.uptoBulkAll (l.map D)
  | [], _ => Nat.zero_le _
  | a :: t, h => by
    have ih := sum_le_all c t (fun i hi => h i (List.mem_cons_of_mem _ hi))
    have ha := h a List.mem_cons_self
    rw [List.map_cons, List.map_cons, List.sum_cons, Rows.uptoBulkAll, Nat.mul_add]
    omega
/-- A slice of attributes within what came in. -/
theorem attrsC_of_trod {H : Type} {enc : TypeId × Value → H} {W : World} {n : Nat} {v : Value} {x : DataW H × List MemPlace} (h : DataW.trod enc Tryd.prog W 0 (fun _ => true) true n 30 [v] = some x) :
    ∃ l : List Att, ReadC W v l ∧ l.length ≤ Rows.uptoBulk x.1 ∧ ownA l ≤ 7 * Rows.uptoBulk x.1 := by
  rcases Go.Deep.open_slice_pairs Tryd.underlying30 Tryd.underlying29 (by kernel_rfl) rfl rfl (by kernel_rfl) (by kernel_rfl) h with ⟨hcs, hx⟩ | ⟨a, len, cap, m, k, V0, V1, D0, D1, P0, P1, hcs, _, hl, hcp, hmm, hx, hc⟩
  · injection hcs with hcs
    subst hcs
    exact ⟨[], ReadC.nil W, Nat.zero_le _, Nat.zero_le _⟩
  · injection hcs with hcs
    subst hcs
    have hml : len ≤ m := by rw [hmm]; split <;> omega
    have each : ∀ i, i < len → ∃ r : Att, (W.cell? (a.add (i * 2)) = some (.string (bts r.1)) ∧ W.cell? (a.add (i * 2 + 1)) = some (.string (bts r.2))) ∧ 4 + r.1.length + 6 * r.2.length ≤ 7 * Rows.uptoBulk (DataW.agg [D0 i, D1 i]) := fun i hi => by
      obtain ⟨h0, h1, h2, h3⟩ := hc i (by omega)
      obtain ⟨s, e1, w1, _⟩ := DataW.trod_string Tryd.underlying9 h2
      obtain ⟨t, e2, w2, _⟩ := DataW.trod_string Tryd.underlying9 h3
      injection e1 with e1
      injection e2 with e2
      refine ⟨(s.data.toList, t.data.toList), ⟨by rw [h0, e1, bts_data], by rw [h1, e2, bts_data]⟩, ?_⟩
      have w1' : D0 i = .lit (.string s.data.toList) := congrArg Prod.fst w1
      have w2' : D1 i = .lit (.string t.data.toList) := congrArg Prod.fst w2
      rw [w1', w2']
      simp only [Rows.uptoBulk, Rows.uptoBulkAll]
      omega
    obtain ⟨X, hX⟩ := Go.Deep.choose_lt each
    refine ⟨(List.range len).map X, ⟨some a, cap, by rw [List.length_map, List.length_range], by rw [List.length_map, List.length_range]; exact hl, ⟨hcp, fun e => by cases e⟩, fun h0 => ?_⟩, ?_, ?_⟩
    · rw [List.length_map, List.length_range] at h0
      refine ⟨a, rfl, ?_, fun i r hi => ?_⟩
      · have := lt_of_cellT (hX 0 h0).1.1
        rwa [addBlock] at this
      · rw [List.getElem?_map] at hi
        obtain ⟨j, hj, rfl⟩ := Option.map_eq_some_iff.1 hi
        obtain ⟨hj1, rfl⟩ := List.getElem?_eq_some_iff.1 hj
        rw [List.length_range] at hj1
        rw [List.getElem_range]
        have h2 := (hX i hj1).1.2
        rw [add_succ _ _ _ (by decide)] at h2
        exact ⟨(hX i hj1).1.1, h2⟩
    · rw [List.length_map, List.length_range, hx]
      have := bulk_length ((List.range len).map fun i => (DataW.agg [D0 i, D1 i] : DataW H))
      rw [List.length_map, List.length_range] at this
      simp only [Rows.uptoBulk]
      omega
    · have h1 := sum_le_all 7 (D := fun i => (DataW.agg [D0 i, D1 i] : DataW H)) (f := fun i => 4 + (X i).1.length + 6 * (X i).2.length) (List.range len) (fun i hi => (hX i (List.mem_range.1 hi)).2)
      have e : ownA ((List.range len).map X) = ((List.range len).map fun i => 4 + (X i).1.length + 6 * (X i).2.length).sum := by unfold ownA; rw [List.map_map]; rfl
      rw [e, hx]
      simp only [Rows.uptoBulk]
      omega
/-- A slice of nodes that came in. -/
theorem readsM_of_trod {H : Type} {enc : TypeId × Value → H} {W : World} {v : Value} {d : DataW H} {ps : List MemPlace}
    (hv : ∃ a len cap, v = .slice a len cap) (h : DataW.Trod enc Tryd.prog W 0 (fun _ => true) true 22 v d ps) :
    ∃ ns : List Nd, ReadM W v ns ∧ ns.length ≤ Rows.uptoBulk d ∧ (ns.map ownL).sum ≤ 30 * Rows.uptoBulk d := by
  obtain ⟨a0, len0, cap0, rfl⟩ := hv
  obtain ⟨fuel, hf⟩ := h
  rcases Go.Deep.open_slice Tryd.underlying22 hf with ⟨hcs, hx⟩ | ⟨a, len, cap, m, n, D, Pl, hcs, _, hl, hcp, hmm, hx, hc⟩
  · simp [Value.cells] at hcs
    obtain ⟨rfl, rfl, rfl⟩ := hcs
    exact ⟨[], ⟨none, 0, rfl, Nat.le_refl _, Nat.zero_le _, fun h0 => absurd h0 (Nat.not_lt_zero _)⟩, Nat.zero_le _, Nat.zero_le _⟩
  · simp [Value.cells] at hcs
    obtain ⟨rfl, rfl, rfl⟩ := hcs
    have hml : len0 ≤ m := by rw [hmm]; split <;> omega
    have c6 : Tryd.prog.cellsOf 32 = 6 := by kernel_rfl
    rw [c6] at hc
    have each : ∀ i, i < len0 → ∃ t : Nd, (∃ u, AtN W (a.add (i * 6)) t u ∧ ReadC W u t.2.2.2.2.1) ∧ ownL t ≤ 30 * Rows.uptoBulk (D i) := fun i hi => by
      obtain ⟨cs, h1, h2⟩ := hc i (by omega)
      obtain ⟨v0, v1, v2, v3, v4, v5, y0, y1, y2, y3, y4, y5, k, rfl, hD, t0, t1, t2, t3, t4, t5⟩ := six_of_trod Tryd.underlying32 c6 rfl (by kernel_rfl) h2
      obtain ⟨k0, k1, k2, k3, k4, k5⟩ := cells_six h1
      obtain ⟨z0, e0, w0, _⟩ := DataW.trod_int Tryd.underlying3 t0
      obtain ⟨z1, e1, w1, _⟩ := DataW.trod_int Tryd.underlying3 t1
      obtain ⟨s2, e2, w2, _⟩ := DataW.trod_string Tryd.underlying9 t2
      obtain ⟨s3, e3, w3, _⟩ := DataW.trod_string Tryd.underlying9 t3
      obtain ⟨l4, r4, b4, o4⟩ := attrsC_of_trod t4
      obtain ⟨s5, e5, w5, _⟩ := DataW.trod_string Tryd.underlying9 t5
      obtain rfl := (List.cons.inj e0).1
      obtain rfl := (List.cons.inj e1).1
      obtain rfl := (List.cons.inj e2).1
      obtain rfl := (List.cons.inj e3).1
      obtain rfl := (List.cons.inj e5).1
      have hD2 : D i = .agg [y0.1, y1.1, y2.1, y3.1, y4.1, y5.1] := hD
      refine ⟨(z0, z1, s2.data.toList, s3.data.toList, l4, s5.data.toList), ⟨v4, ⟨k0, k1, ?_, ?_, k4, ?_⟩, r4⟩, ?_⟩
      · rw [k2, bts_data]
      · rw [k3, bts_data]
      · rw [k5, bts_data]
      · rw [hD2, w2, w3, w5]
        unfold ownL
        simp only [Rows.uptoBulk, Rows.uptoBulkAll]
        omega
    obtain ⟨X, hX⟩ := Go.Deep.choose_lt each
    have hd : d = .slice ((List.range len0).map D) ((List.range (m - len0)).map fun j => D (len0 + j)) := congrArg Prod.fst hx
    have hu : Rows.uptoBulkAll ((List.range len0).map D) ≤ Rows.uptoBulk d := by
      rw [hd]
      simp only [Rows.uptoBulk]
      omega
    refine ⟨(List.range len0).map X, ⟨some a, cap0, by rw [List.length_map, List.length_range], by rw [List.length_map, List.length_range]; exact hl, hcp, fun h0 => ?_⟩, ?_, ?_⟩
    · rw [List.length_map, List.length_range] at h0
      refine ⟨a, rfl, ?_, fun i r hi => ?_⟩
      · obtain ⟨u, k, _⟩ := (hX 0 h0).1
        have := lt_of_cellT k.1
        rwa [addBlock] at this
      · rw [List.getElem?_map] at hi
        obtain ⟨j, hj, rfl⟩ := Option.map_eq_some_iff.1 hi
        obtain ⟨hj1, rfl⟩ := List.getElem?_eq_some_iff.1 hj
        rw [List.length_range] at hj1
        rw [List.getElem_range]
        exact (hX i hj1).1
    · have := bulk_length ((List.range len0).map D)
      rw [List.length_map] at this ⊢
      omega
    · have h1 := sum_le_all 30 (D := D) (f := fun i => ownL (X i)) (List.range len0) (fun i hi => (hX i (List.mem_range.1 hi)).2)
      rw [List.map_map]
      exact Nat.le_trans h1 (Nat.mul_le_mul_left _ hu)
end Go.Proofs.YtbkfmbkamocllaaDoor
