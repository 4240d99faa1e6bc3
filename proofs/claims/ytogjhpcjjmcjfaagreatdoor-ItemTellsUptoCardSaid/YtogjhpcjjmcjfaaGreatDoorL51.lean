import Derived.Test.YtogjhpcjjmcjfaaGreatDoorL50
import Derived.Test.YtogjhpcjjmcjfaaGreatDoorL46
import Derived.Deep.SlicePairs
/- what is reached of it -/
namespace Go.Proofs.YtogjhpcjjmcjfaaGreatDoor
open Go.ChangeShapes Go.WideShapes Go.ChangeAt Go.RowKit Tx Vc Ct
theorem six_of_trodY {H : Type} {enc : TypeId × Value → H} {P : Program} {w : World} {base : Nat} {spare : Nat → Bool} {held : Bool} {e : TypeId} {f0 f1 f2 f3 f4 f5 : Field} {n : Nat} {cs : List Value} {x : DataW H × List MemPlace}
    (he : P.underlying e = some (.struct #[f0, f1, f2, f3, f4, f5])) (ce : P.cellsOf e = 6) (ho : [f0, f1, f2, f3, f4, f5].map (·.offset) = [0, 1, 2, 3, 4, 5]) (hc : [f0, f1, f2, f3, f4, f5].map (fun f => P.cellsOf f.type) = [1, 1, 1, 1, 1, 1])
    (h : DataW.trod enc P w base spare held n e cs = some x) :
    ∃ (v0 v1 v2 v3 v4 v5 : Value) (y0 y1 y2 y3 y4 y5 : DataW H × List MemPlace) (k : Nat), cs = [v0, v1, v2, v3, v4, v5] ∧ x.1 = .agg [y0.1, y1.1, y2.1, y3.1, y4.1, y5.1] ∧
      DataW.trod enc P w base spare held k f0.type [v0] = some y0 ∧ DataW.trod enc P w base spare held k f1.type [v1] = some y1 ∧ DataW.trod enc P w base spare held k f2.type [v2] = some y2 ∧
      DataW.trod enc P w base spare held k f3.type [v3] = some y3 ∧ DataW.trod enc P w base spare held k f4.type [v4] = some y4 ∧ DataW.trod enc P w base spare held k f5.type [v5] = some y5 := by
  simp only [List.map_cons, List.map_nil, List.cons.injEq, and_true] at ho hc
  obtain ⟨o0, o1, o2, o3, o4, o5⟩ := ho
  obtain ⟨c0, c1, c2, c3, c4, c5⟩ := hc
  obtain ⟨xs, k, _, hxy, hlen, hxl, hf⟩ := DataW.trod_struct he h
  rw [ce] at hlen
  match xs, hxl, cs, hlen with
  | [y0, y1, y2, y3, y4, y5], _, [v0, v1, v2, v3, v4, v5], _ =>
    have g0 := hf 0 f0 rfl
    have g1 := hf 1 f1 rfl
    have g2 := hf 2 f2 rfl
    have g3 := hf 3 f3 rfl
    have g4 := hf 4 f4 rfl
    have g5 := hf 5 f5 rfl
    simp [o0, o1, o2, o3, o4, o5, c0, c1, c2, c3, c4, c5] at g0 g1 g2 g3 g4 g5
    exact ⟨v0, v1, v2, v3, v4, v5, y0, y1, y2, y3, y4, y5, k, rfl, by rw [hxy]; rfl, g0, g1, g2, g3, g4, g5⟩
set_option maxRecDepth 100000 in
/-- the six cells of an item that came in -/
theorem item_of_cells {H : Type} {enc : TypeId × Value → H} {W : World} {n : Nat} {cs : List Value} {x : DataW H × List MemPlace}
    (h : DataW.trod enc Tryz.prog W 0 (fun _ => true) true n 24 cs = some x) :
    ∃ (i : Itm) (q : Slc), cs = encI i (sl q) ∧ ReadT W.heap.size W (sl q) (sts i.groups) ∧ heavyI i ≤ 8 * Rows.uptoBulk x.1 ∧ 2 ≤ Rows.uptoBulk x.1 := by
  have c6 : Tryz.prog.cellsOf 24 = 6 := by kernel_rfl
  obtain ⟨v0, v1, v2, v3, v4, v5, y0, y1, y2, y3, y4, y5, k, rfl, hD, t0, t1, t2, t3, t4, t5⟩ := six_of_trodY Tryz.underlying24 c6 rfl (by kernel_rfl) h
  obtain ⟨s0, e0, w0, _⟩ := DataW.trod_string Tryz.underlying9 t0
  obtain ⟨s1, e1, w1, _⟩ := DataW.trod_string Tryz.underlying9 t1
  obtain ⟨z3, e3, w3, _⟩ := DataW.trod_int Tryz.underlying3 t3
  obtain ⟨b4, e4, w4⟩ := DataW.trod_bool Tryz.underlying4 t4
  obtain ⟨b5, e5, w5⟩ := DataW.trod_bool Tryz.underlying4 t5
  obtain rfl := (List.cons.inj e0).1
  obtain rfl := (List.cons.inj e1).1
  obtain rfl := (List.cons.inj e3).1
  obtain rfl := (List.cons.inj e4).1
  obtain rfl := (List.cons.inj e5).1
  obtain ⟨a2, n2, m2, rfl⟩ : ∃ a n m, v2 = .slice a n m := by
    rcases Go.Deep.open_strs Tryz.underlying22 Tryz.underlying9 (by kernel_rfl) t2 with ⟨hcs, _⟩ | ⟨a, len, cap, m, Sx, hcs, _⟩
    · exact ⟨_, _, _, (List.cons.inj hcs).1⟩
    · exact ⟨_, _, _, (List.cons.inj hcs).1⟩
  obtain ⟨xs, r2, b2⟩ := strs_of_cellsI (v := .slice a2 n2 m2) rfl t2
  have hh := heavy_came b2
  refine ⟨⟨s0.data.toList, s1.data.toList, btI xs, z3, b4, b5⟩, (a2, n2, m2), rfl, by rw [sts_btI]; exact r2, ?_, ?_⟩ <;> rw [hD, w0, w1, w3, w4, w5]
  case refine_2 =>
    simp only [Rows.uptoBulk, Rows.uptoBulkAll]
    omega
  show 5 + s0.data.toList.length + s1.data.toList.length + heavyT (btI xs) ≤ _
  simp only [Rows.uptoBulk, Rows.uptoBulkAll]
  omega
set_option maxRecDepth 100000 in
/-- An item that came in. -/
theorem item_of_trod {H : Type} {enc : TypeId × Value → H} {W : World} {base : Nat} {v : Value} {d : DataW H} {ps : List MemPlace}
    (hv : Value.okWide Tryz.prog W .any base 24 v) (h : DataW.Trod enc Tryz.prog W 0 (fun _ => true) true 24 v d ps) :
    ∃ (i : Itm) (gv : Value), v = agI i gv ∧ ReadT W.heap.size W gv (sts i.groups) ∧ heavyI i ≤ 8 * Rows.uptoBulk d := by
  obtain ⟨cs, rfl, hsz⟩ := okWide_struct Tryz.underlying24 hv
  obtain ⟨fuel, hf⟩ := h
  obtain ⟨i, q, hc, hr, hb, _⟩ := item_of_cells hf
  refine ⟨i, sl q, ?_, hr, hb⟩
  show Value.agg cs = .agg (encI _ _).toArray
  congr 1
  apply Array.ext'
  show (Value.agg cs).cells.toList = _
  rw [hc]
theorem spot_none {W : World} {a : Addr} {v : Value} (h : W.cell? a = some v) : a.spot = none := by
  unfold World.cell? at h
  split at h
  · by_cases hs : a.spot.isSome = true
    · rw [if_pos hs] at h; cases h
    · cases ha : a.spot with
      | none => rfl
      | some x => rw [ha] at hs; exact absurd rfl hs
  · cases h
theorem sum_allY {H : Type} {D : Nat → DataW H} {f : Nat → Nat} (c : Nat) : ∀ l : List Nat, (∀ i ∈ l, f i ≤ c * Rows.uptoBulk (D i)) → (l.map f).sum ≤ c * Rows.uptoBulkAll (l.map D)
  | [], _ => by simp
  | a :: t, h => by
    have h1 := h a List.mem_cons_self
    have h2 := sum_allY c t (fun i hi => h i (List.mem_cons_of_mem _ hi))
    simp only [List.map_cons, List.sum_cons, Rows.uptoBulkAll]
    rw [Nat.mul_add]
    omega
theorem bulk_lengthY {H : Type} : ∀ l : List (DataW H), (∀ d ∈ l, 2 ≤ Rows.uptoBulk d) → 2 * l.length ≤ Rows.uptoBulkAll l
  | [], _ => Nat.zero_le _
  | a :: t, h => by
    have := bulk_lengthY t (fun d hd => h d (List.mem_cons_of_mem _ hd))
    have := h a List.mem_cons_self
    simp only [List.length_cons, Rows.uptoBulkAll]
    omega
/-- Items that came in. -/
theorem items_came {H : Type} {enc : TypeId × Value → H} {W : World} {v : Value} {d : DataW H} {ps : List MemPlace}
    (hv : ∃ a len cap, v = .slice a len cap) (h : DataW.Trod enc Tryz.prog W 0 (fun _ => true) true 25 v d ps) :
    ∃ l : List (Itm × Slc), ReadI W.heap.size W v l ∧ 2 * l.length ≤ Rows.uptoBulk d ∧ heavyIs l ≤ 8 * Rows.uptoBulk d := by
  obtain ⟨a0, len0, cap0, rfl⟩ := hv
  obtain ⟨fuel, hf⟩ := h
  rcases Go.Deep.open_slice Tryz.underlying25 hf with ⟨hcs, hx⟩ | ⟨a, len, cap, m, n, D, Pl, hcs, _, hl, hcp, hmm, hx, hc⟩
  · simp [Value.cells] at hcs
    obtain ⟨rfl, rfl, rfl⟩ := hcs
    exact ⟨[], ⟨none, 0, rfl, fun h0 => absurd h0 (Nat.not_lt_zero _), fun p hp => by cases hp⟩, Nat.zero_le _, Nat.zero_le _⟩
  · simp [Value.cells] at hcs
    obtain ⟨rfl, rfl, rfl⟩ := hcs
    have hml : len0 ≤ m := by rw [hmm]; split <;> omega
    have c6 : Tryz.prog.cellsOf 24 = 6 := by kernel_rfl
    rw [c6] at hc
    have each : ∀ i, i < len0 → ∃ p : Itm × Slc, (W.cells? 0 (a.add (i * 6)) 6 = some (encI p.1 (sl p.2)) ∧ ReadT W.heap.size W (sl p.2) (sts p.1.groups)) ∧ heavyI p.1 ≤ 8 * Rows.uptoBulk (D i) ∧ 2 ≤ Rows.uptoBulk (D i) := fun i hi => by
      obtain ⟨cs, h1, h2⟩ := hc i (by omega)
      obtain ⟨x, q, rfl, hr, hb, hb2⟩ := item_of_cells h2
      exact ⟨(x, q), ⟨h1, hr⟩, hb, hb2⟩
    obtain ⟨X, hX⟩ := Go.Deep.choose_lt each
    have hcell : ∀ i, i < len0 → ∀ c u, (encI (X i).1 (sl (X i).2))[c]? = some u → W.cell? (a.add (i * 6 + c)) = some u := fun i hi c u hu => by
      obtain ⟨_, _, hcl⟩ := World.cells?_some (hX i hi).1.1
      have hc6 : c < 6 := by
        have := (List.getElem?_eq_some_iff.1 hu).1
        simpa [encI] using this
      have e := hcl c hc6
      rw [Go.Deep.add_add] at e
      rw [e]
      exact hu
    have hd : d = .slice ((List.range len0).map D) ((List.range (m - len0)).map fun j => D (len0 + j)) := congrArg Prod.fst hx
    have hu : Rows.uptoBulkAll ((List.range len0).map D) ≤ Rows.uptoBulk d := by
      rw [hd]
      simp only [Rows.uptoBulk]
      omega
    refine ⟨(List.range len0).map X, ⟨some a, cap0, by rw [List.length_map, List.length_range], fun h0 => ?_, fun p hp => ?_⟩, ?_, ?_⟩
    · rw [List.length_map, List.length_range] at h0
      have z0 := hcell 0 h0 0 _ rfl
      have z1 : W.cell? a = some (.string (bts (X 0).1.jid)) := by simpa [Addr.add] using z0
      have hsp := spot_none z1
      obtain ⟨b, off, sp⟩ := a
      simp only at hsp
      subst hsp
      refine ⟨b, off, rfl, lt_of_cellI z1, fun i p hi c u hu => ?_⟩
      rw [List.getElem?_map] at hi
      obtain ⟨j, hj, rfl⟩ := Option.map_eq_some_iff.1 hi
      obtain ⟨hj1, rfl⟩ := List.getElem?_eq_some_iff.1 hj
      rw [List.length_range] at hj1
      rw [List.getElem_range] at hu
      have e := hcell i hj1 c u hu
      rw [show (⟨b, off + i * 6 + c, none⟩ : Addr) = (⟨b, off, none⟩ : Addr).add (i * 6 + c) from ?_]
      · exact e
      · unfold Addr.add
        split
        · next h => simp only [Addr.mk.injEq, and_true, true_and]; omega
        · simp only [Nat.add_assoc]
    · obtain ⟨i, hi, rfl⟩ := List.mem_map.1 hp
      exact (hX i (List.mem_range.1 hi)).1.2
    · have := bulk_lengthY ((List.range len0).map D) (fun d hd => by
        obtain ⟨i, hi, rfl⟩ := List.mem_map.1 hd
        exact (hX i (List.mem_range.1 hi)).2.2)
      rw [List.length_map] at this ⊢
      omega
    · have h1 := sum_allY 8 (D := D) (f := fun i => heavyI (X i).1) (List.range len0) (fun i hi => (hX i (List.mem_range.1 hi)).2.1)
      unfold heavyIs
      rw [List.map_map]
      exact Nat.le_trans h1 (Nat.mul_le_mul_left _ hu)
end Go.Proofs.YtogjhpcjjmcjfaaGreatDoor
