/-
  TOKENS AND NODES THAT CAME IN, opened: what a walk asks of them, and how much they are.
-/
import Derived.Test.YtpomcamkkcggmaaGreatDoorDoorE
import Derived.Test.YtpomcamkkcggmaaGreatDoorTrM
import Derived.Deep.SlicePairs
import Derived.Deep.Slices
namespace Go.Proofs.YtpomcamkkcggmaaGreatDoor
open Go.ChangeShapes Go.WideShapes Go.ChangeAt Go.RowKit Tk Tr

theorem lt_of_cellT {W : World} {a : Addr} {v : Value} (h : W.cell? a = some v) : a.block < W.heap.size := World.block_lt_of_cell? W a h
theorem bts_data (s : ByteArray) : bts s.data.toList = s := (bytes_of rfl).symm
theorem bulk_mem {H : Type} {d : DataW H} : ∀ {l : List (DataW H)}, d ∈ l → Rows.uptoBulk d ≤ Rows.uptoBulkAll l
  | [], h => by cases h
  | a :: l, h => by
    rw [Rows.uptoBulkAll]
    rcases List.mem_cons.1 h with rfl | h
    · omega
    · have := bulk_mem h; omega
theorem bulk_pos {H : Type} (d : DataW H) : 1 ≤ Rows.uptoBulk d := by
  cases d with
  | lit l => cases l <;> simp [Rows.uptoBulk]
  | _ => simp [Rows.uptoBulk]
theorem bulk_length {H : Type} : ∀ l : List (DataW H), l.length ≤ Rows.uptoBulkAll l
  | [] => Nat.zero_le _
  | a :: l => by
    have h1 := bulk_pos a
    have h2 := bulk_length l
    rw [Rows.uptoBulkAll, List.length_cons]
    omega
/-- Six fields of one cell each. -/
theorem six_of_trod {H : Type} {enc : TypeId × Value → H} {P : Program} {w : World} {base : Nat} {spare : Nat → Bool} {held : Bool} {e : TypeId} {f0 f1 f2 f3 f4 f5 : Field} {n : Nat} {cs : List Value} {x : DataW H × List MemPlace}
    (he : P.underlying e = some (.struct #[f0, f1, f2, f3, f4, f5])) (ce : P.cellsOf e = 6) (ho : [f0, f1, f2, f3, f4, f5].map (·.offset) = [0, 1, 2, 3, 4, 5]) (hc : [f0, f1, f2, f3, f4, f5].map (fun f => P.cellsOf f.type) = [1, 1, 1, 1, 1, 1])
    (h : DataW.trod enc P w base spare held n e cs = some x) :
    ∃ (v0 v1 v2 v3 v4 v5 : Value) (y0 y1 y2 y3 y4 y5 : DataW H × List MemPlace) (k : Nat), cs = [v0, v1, v2, v3, v4, v5] ∧ x.1 = .agg [y0.1, y1.1, y2.1, y3.1, y4.1, y5.1] ∧
      DataW.trod enc P w base spare held k f0.type [v0] = some y0 ∧ DataW.trod enc P w base spare held k f1.type [v1] = some y1 ∧ DataW.trod enc P w base spare held k f2.type [v2] = some y2 ∧
      DataW.trod enc P w base spare held k f3.type [v3] = some y3 ∧ DataW.trod enc P w base spare held k f4.type [v4] = some y4 ∧ DataW.trod enc P w base spare held k f5.type [v5] = some y5 := by
  simp only [List.map_cons, List.map_nil, List.cons.injEq, and_true] at ho hc
  obtain ⟨o0, o1, o2, o3, o4, o5⟩ := ho
  obtain ⟨c0, c1, c2, c3, c4, c5⟩ := hc
  obtain ⟨xs, k, _, hxy, hlen, hxl, hf⟩ := DataW.trod_struct he h
  rw [ce] at hlen
  match xs, hxl, cs, hlen with
  | [y0, y1, y2, y3, y4, y5], _, [v0, v1, v2, v3, v4, v5], _ =>
    have g0 := hf 0 f0 rfl
    have g1 := hf 1 f1 rfl
    have g2 := hf 2 f2 rfl
    have g3 := hf 3 f3 rfl
    have g4 := hf 4 f4 rfl
    have g5 := hf 5 f5 rfl
    simp [o0, o1, o2, o3, o4, o5, c0, c1, c2, c3, c4, c5] at g0 g1 g2 g3 g4 g5
    exact ⟨v0, v1, v2, v3, v4, v5, y0, y1, y2, y3, y4, y5, k, rfl, by rw [hxy]; rfl, g0, g1, g2, g3, g4, g5⟩
/-- A slice of attributes within what came in. -/
theorem attrs_of_trod {H : Type} {enc : TypeId × Value → H} {W : World} {n : Nat} {v : Value} {x : DataW H × List MemPlace} (h : DataW.trod enc Tryz.prog W 0 (fun _ => true) true n 32 [v] = some x) :
    ∃ l : List Att, ReadA W v l ∧ l.length ≤ Rows.uptoBulk x.1 := by
  rcases Go.Deep.open_slice_pairs Tryz.underlying32 Tryz.underlying63 (by kernel_rfl) rfl rfl (by kernel_rfl) (by kernel_rfl) h with ⟨hcs, hx⟩ | ⟨a, len, cap, m, k, V0, V1, D0, D1, P0, P1, hcs, _, hl, hm, hmm, hx, hc⟩
  · injection hcs with hcs
    subst hcs
    exact ⟨[], ⟨none, 0, rfl, fun h0 => absurd h0 (Nat.not_lt_zero _)⟩, Nat.zero_le _⟩
  · injection hcs with hcs
    subst hcs
    have hml : len ≤ m := by rw [hmm]; split <;> omega
    have each : ∀ i, i < len → ∃ r : Att, W.cell? (a.add (i * 2)) = some (.string (bts r.1)) ∧ W.cell? (a.add (i * 2 + 1)) = some (.string (bts r.2)) := fun i hi => by
      obtain ⟨h0, h1, h2, h3⟩ := hc i (by omega)
      obtain ⟨s, e1, _, _⟩ := DataW.trod_string Tryz.underlying9 h2
      obtain ⟨t, e2, _, _⟩ := DataW.trod_string Tryz.underlying9 h3
      injection e1 with e1
      injection e2 with e2
      exact ⟨(s.data.toList, t.data.toList), by rw [h0, e1, bts_data], by rw [h1, e2, bts_data]⟩
    obtain ⟨X, hX⟩ := Go.Deep.choose_lt each
    refine ⟨(List.range len).map X, ⟨some a, cap, by rw [List.length_map, List.length_range], fun h0 => ?_⟩, ?_⟩
    · rw [List.length_map, List.length_range] at h0
      refine ⟨a, rfl, ?_, fun i r hi => ?_⟩
      · have := lt_of_cellT (hX 0 h0).1
        rwa [addBlock] at this
      · rw [List.getElem?_map] at hi
        obtain ⟨j, hj, rfl⟩ := Option.map_eq_some_iff.1 hi
        obtain ⟨hj1, rfl⟩ := List.getElem?_eq_some_iff.1 hj
        rw [List.length_range] at hj1
        rw [List.getElem_range]
        have h2 := (hX i hj1).2
        rw [add_succ _ _ _ (by decide)] at h2
        exact ⟨(hX i hj1).1, h2⟩
    · rw [List.length_map, List.length_range, hx]
      have := bulk_length ((List.range len).map fun i => (DataW.agg [D0 i, D1 i] : DataW H))
      rw [List.length_map, List.length_range] at this
      simp only [Rows.uptoBulk]
      omega
theorem cells_six {W : World} {a : Addr} {i : Nat} {v0 v1 v2 v3 v4 v5 : Value} (h : W.cells? 0 (a.add (i * 6)) 6 = some [v0, v1, v2, v3, v4, v5]) :
    W.cell? (a.add (i * 6)) = some v0 ∧ W.cell? ⟨(a.add (i * 6)).block, (a.add (i * 6)).off + 1, none⟩ = some v1 ∧ W.cell? ⟨(a.add (i * 6)).block, (a.add (i * 6)).off + 2, none⟩ = some v2 ∧ W.cell? ⟨(a.add (i * 6)).block, (a.add (i * 6)).off + 3, none⟩ = some v3 ∧
      W.cell? ⟨(a.add (i * 6)).block, (a.add (i * 6)).off + 4, none⟩ = some v4 ∧ W.cell? ⟨(a.add (i * 6)).block, (a.add (i * 6)).off + 5, none⟩ = some v5 := by
  obtain ⟨_, _, hcell⟩ := World.cells?_some h
  have e0 := hcell 0 (by omega)
  have e1 := hcell 1 (by omega)
  have e2 := hcell 2 (by omega)
  have e3 := hcell 3 (by omega)
  have e4 := hcell 4 (by omega)
  have e5 := hcell 5 (by omega)
  rw [Go.Deep.add_add] at e0 e1 e2 e3 e4 e5
  rw [add_succ _ _ _ (by decide)] at e1 e2 e3 e4 e5
  exact ⟨by simpa using e0, by simpa using e1, by simpa using e2, by simpa using e3, by simpa using e4, by simpa using e5⟩
theorem bulk_toksD {H : Type} {X : Nat → TokI} {D : Nat → DataW H} : ∀ l : List Nat, (∀ i ∈ l, (X i).2.2.2.1.length ≤ Rows.uptoBulk (D i)) → bulk (l.map X) ≤ Rows.uptoBulkAll (l.map D)
  | [], _ => Nat.zero_le _
  | a :: t, h => by
    have ih := bulk_toksD t (fun i hi => h i (List.mem_cons_of_mem _ hi))
    have ha := h a List.mem_cons_self
    unfold bulk at ih ⊢
    rw [List.map_cons, List.map_cons, List.map_cons, List.sum_cons, Rows.uptoBulkAll]
    omega
/-- A slice of tokens that came in. -/
theorem readsI_of_trod {H : Type} {enc : TypeId × Value → H} {W : World} {v : Value} {d : DataW H} {ps : List MemPlace}
    (hv : ∃ a len cap, v = .slice a len cap) (h : DataW.Trod enc Tryz.prog W 0 (fun _ => true) true 22 v d ps) :
    ∃ ts : List TokI, ReadI W v ts ∧ ts.length ≤ Rows.uptoBulk d ∧ bulk ts ≤ Rows.uptoBulk d ∧ ∀ t ∈ ts, t.2.2.2.2.1.length ≤ Rows.uptoBulk d := by
  obtain ⟨a0, len0, cap0, rfl⟩ := hv
  obtain ⟨fuel, hf⟩ := h
  rcases Go.Deep.open_slice Tryz.underlying22 hf with ⟨hcs, hx⟩ | ⟨a, len, cap, m, n, D, Pl, hcs, _, hl, hm, hmm, hx, hc⟩
  · simp [Value.cells] at hcs
    obtain ⟨rfl, rfl, rfl⟩ := hcs
    exact ⟨[], ⟨none, 0, rfl, fun h0 => absurd h0 (Nat.not_lt_zero _)⟩, Nat.zero_le _, Nat.zero_le _, fun t ht => by cases ht⟩
  · simp [Value.cells] at hcs
    obtain ⟨rfl, rfl, rfl⟩ := hcs
    have hml : len0 ≤ m := by rw [hmm]; split <;> omega
    have c6 : Tryz.prog.cellsOf 45 = 6 := by kernel_rfl
    rw [c6] at hc
    have each : ∀ i, i < len0 → ∃ t : TokI, (∃ u, AtT W (a.add (i * 6)) t u ∧ ReadA W u t.2.2.2.2.1) ∧ t.2.2.2.1.length ≤ Rows.uptoBulk (D i) ∧ t.2.2.2.2.1.length ≤ Rows.uptoBulk (D i) := fun i hi => by
      obtain ⟨cs, h1, h2⟩ := hc i (by omega)
      obtain ⟨v0, v1, v2, v3, v4, v5, y0, y1, y2, y3, y4, y5, k, rfl, hD, t0, t1, t2, t3, t4, t5⟩ := six_of_trod Tryz.underlying45 c6 rfl (by kernel_rfl) h2
      obtain ⟨k0, k1, k2, k3, k4, k5⟩ := cells_six h1
      obtain ⟨z0, e0, _, _⟩ := DataW.trod_int Tryz.underlying3 t0
      obtain ⟨z1, e1, _, _⟩ := DataW.trod_int Tryz.underlying3 t1
      obtain ⟨s2, e2, _, _⟩ := DataW.trod_string Tryz.underlying9 t2
      obtain ⟨s3, e3, w3, _⟩ := DataW.trod_string Tryz.underlying9 t3
      obtain ⟨l4, r4, b4⟩ := attrs_of_trod t4
      obtain ⟨b5, e5, _⟩ := DataW.trod_bool Tryz.underlying4 t5
      obtain rfl := (List.cons.inj e0).1
      obtain rfl := (List.cons.inj e1).1
      obtain rfl := (List.cons.inj e2).1
      obtain rfl := (List.cons.inj e3).1
      obtain rfl := (List.cons.inj e5).1
      have hD2 : D i = .agg [y0.1, y1.1, y2.1, y3.1, y4.1, y5.1] := hD
      refine ⟨(z0, z1, s2.data.toList, s3.data.toList, l4, b5), ⟨v4, ⟨k0, k1, ?_, ?_, k4, k5⟩, r4⟩, ?_, ?_⟩
      · rw [k2, bts_data]
      · rw [k3, bts_data]
      · rw [hD2, w3]
        simp only [Rows.uptoBulk, Rows.uptoBulkAll]
        omega
      · rw [hD2]
        simp only [Rows.uptoBulk, Rows.uptoBulkAll]
        omega
    obtain ⟨X, hX⟩ := Go.Deep.choose_lt each
    have hd : d = .slice ((List.range len0).map D) ((List.range (m - len0)).map fun j => D (len0 + j)) := congrArg Prod.fst hx
    have hu : Rows.uptoBulkAll ((List.range len0).map D) ≤ Rows.uptoBulk d := by
      rw [hd]
      simp only [Rows.uptoBulk]
      omega
    refine ⟨(List.range len0).map X, ⟨some a, cap0, by rw [List.length_map, List.length_range], fun h0 => ?_⟩, ?_, ?_, fun t ht => ?_⟩
    · rw [List.length_map, List.length_range] at h0
      refine ⟨a, rfl, ?_, fun i r hi => ?_⟩
      · obtain ⟨u, k, _⟩ := (hX 0 h0).1
        have := lt_of_cellT k.1
        rwa [addBlock] at this
      · rw [List.getElem?_map] at hi
        obtain ⟨j, hj, rfl⟩ := Option.map_eq_some_iff.1 hi
        obtain ⟨hj1, rfl⟩ := List.getElem?_eq_some_iff.1 hj
        rw [List.length_range] at hj1
        rw [List.getElem_range]
        exact (hX i hj1).1
    · have := bulk_length ((List.range len0).map D)
      rw [List.length_map] at this ⊢
      omega
    · exact Nat.le_trans (bulk_toksD (List.range len0) (fun i hi => (hX i (List.mem_range.1 hi)).2.1)) hu
    · obtain ⟨i, hi, rfl⟩ := List.mem_map.1 ht
      have h1 := (hX i (List.mem_range.1 hi)).2.2
      have h2 : Rows.uptoBulk (D i) ≤ Rows.uptoBulkAll ((List.range len0).map D) := bulk_mem (List.mem_map.2 ⟨i, hi, rfl⟩)
      omega
/-- A slice of nodes that came in. -/
theorem readsN_of_trod {H : Type} {enc : TypeId × Value → H} {W : World} {v : Value} {d : DataW H} {ps : List MemPlace}
    (hv : ∃ a len cap, v = .slice a len cap) (h : DataW.Trod enc Tryz.prog W 0 (fun _ => true) true 23 v d ps) :
    ∃ ns : List Nd, ReadN W v ns ∧ ns.length ≤ Rows.uptoBulk d ∧ ∀ t ∈ ns, t.2.2.2.2.1.length ≤ Rows.uptoBulk d := by
  obtain ⟨a0, len0, cap0, rfl⟩ := hv
  obtain ⟨fuel, hf⟩ := h
  rcases Go.Deep.open_slice Tryz.underlying23 hf with ⟨hcs, hx⟩ | ⟨a, len, cap, m, n, D, Pl, hcs, _, hl, hm, hmm, hx, hc⟩
  · simp [Value.cells] at hcs
    obtain ⟨rfl, rfl, rfl⟩ := hcs
    exact ⟨[], ⟨none, 0, rfl, fun h0 => absurd h0 (Nat.not_lt_zero _)⟩, Nat.zero_le _, fun t ht => by cases ht⟩
  · simp [Value.cells] at hcs
    obtain ⟨rfl, rfl, rfl⟩ := hcs
    have hml : len0 ≤ m := by rw [hmm]; split <;> omega
    have c6 : Tryz.prog.cellsOf 34 = 6 := by kernel_rfl
    rw [c6] at hc
    have each : ∀ i, i < len0 → ∃ t : Nd, (∃ u, AtN W (a.add (i * 6)) t u ∧ ReadA W u t.2.2.2.2.1) ∧ t.2.2.2.2.1.length ≤ Rows.uptoBulk (D i) := fun i hi => by
      obtain ⟨cs, h1, h2⟩ := hc i (by omega)
      obtain ⟨v0, v1, v2, v3, v4, v5, y0, y1, y2, y3, y4, y5, k, rfl, hD, t0, t1, t2, t3, t4, t5⟩ := six_of_trod Tryz.underlying34 c6 rfl (by kernel_rfl) h2
      obtain ⟨k0, k1, k2, k3, k4, k5⟩ := cells_six h1
      obtain ⟨z0, e0, _, _⟩ := DataW.trod_int Tryz.underlying3 t0
      obtain ⟨z1, e1, _, _⟩ := DataW.trod_int Tryz.underlying3 t1
      obtain ⟨s2, e2, _, _⟩ := DataW.trod_string Tryz.underlying9 t2
      obtain ⟨s3, e3, _, _⟩ := DataW.trod_string Tryz.underlying9 t3
      obtain ⟨l4, r4, b4⟩ := attrs_of_trod t4
      obtain ⟨s5, e5, _, _⟩ := DataW.trod_string Tryz.underlying9 t5
      obtain rfl := (List.cons.inj e0).1
      obtain rfl := (List.cons.inj e1).1
      obtain rfl := (List.cons.inj e2).1
      obtain rfl := (List.cons.inj e3).1
      obtain rfl := (List.cons.inj e5).1
      have hD2 : D i = .agg [y0.1, y1.1, y2.1, y3.1, y4.1, y5.1] := hD
      refine ⟨(z0, z1, s2.data.toList, s3.data.toList, l4, s5.data.toList), ⟨v4, ⟨k0, k1, ?_, ?_, k4, ?_⟩, r4⟩, ?_⟩
      · rw [k2, bts_data]
      · rw [k3, bts_data]
      · rw [k5, bts_data]
      · rw [hD2]
        simp only [Rows.uptoBulk, Rows.uptoBulkAll]
        omega
    obtain ⟨X, hX⟩ := Go.Deep.choose_lt each
    have hd : d = .slice ((List.range len0).map D) ((List.range (m - len0)).map fun j => D (len0 + j)) := congrArg Prod.fst hx
    have hu : Rows.uptoBulkAll ((List.range len0).map D) ≤ Rows.uptoBulk d := by
      rw [hd]
      simp only [Rows.uptoBulk]
      omega
    refine ⟨(List.range len0).map X, ⟨some a, cap0, by rw [List.length_map, List.length_range], fun h0 => ?_⟩, ?_, fun t ht => ?_⟩
    · rw [List.length_map, List.length_range] at h0
      refine ⟨a, rfl, ?_, fun i r hi => ?_⟩
      · obtain ⟨u, k, _⟩ := (hX 0 h0).1
        have := lt_of_cellT k.1
        rwa [addBlock] at this
      · rw [List.getElem?_map] at hi
        obtain ⟨j, hj, rfl⟩ := Option.map_eq_some_iff.1 hi
        obtain ⟨hj1, rfl⟩ := List.getElem?_eq_some_iff.1 hj
        rw [List.length_range] at hj1
        rw [List.getElem_range]
        exact (hX i hj1).1
    · have := bulk_length ((List.range len0).map D)
      rw [List.length_map] at this ⊢
      omega
    · obtain ⟨i, hi, rfl⟩ := List.mem_map.1 ht
      have h1 := (hX i (List.mem_range.1 hi)).2
      have h2 : Rows.uptoBulk (D i) ≤ Rows.uptoBulkAll ((List.range len0).map D) := bulk_mem (List.mem_map.2 ⟨i, hi, rfl⟩)
      omega
end Go.Proofs.YtpomcamkkcggmaaGreatDoor
