import Derived.Test.YtpaehhlhngilcaaM41
import Derived.Test.YtpaehhlhngilcaaM42
import Derived.Test.YtpaehhlhngilcaaM07
import Derived.Test.YtpaehhlhngilcaaM06
/- what is reached of it -/
namespace Go.Proofs.Ytpaehhlhngilcaa
open Go.ChangeShapes Go.WideShapes Go.ChangeAt Go.RowKit Tx Vc Ct
theorem five_of_trod {H : Type} {enc : TypeId × Value → H} {P : Program} {w : World} {base : Nat} {spare : Nat → Bool} {held : Bool} {e : TypeId} {f0 f1 f2 f3 f4 : Field} {n : Nat} {cs : List Value} {x : DataW H × List MemPlace}
    (he : P.underlying e = some (.struct #[f0, f1, f2, f3, f4])) (ce : P.cellsOf e = 5) (ho : [f0, f1, f2, f3, f4].map (·.offset) = [0, 1, 2, 3, 4]) (hc : [f0, f1, f2, f3, f4].map (fun f => P.cellsOf f.type) = [1, 1, 1, 1, 1])
    (h : DataW.trod enc P w base spare held n e cs = some x) :
    ∃ (v0 v1 v2 v3 v4 : Value) (y0 y1 y2 y3 y4 : DataW H × List MemPlace) (k : Nat), cs = [v0, v1, v2, v3, v4] ∧
      DataW.trod enc P w base spare held k f0.type [v0] = some y0 ∧ DataW.trod enc P w base spare held k f1.type [v1] = some y1 ∧ DataW.trod enc P w base spare held k f2.type [v2] = some y2 ∧
      DataW.trod enc P w base spare held k f3.type [v3] = some y3 ∧ DataW.trod enc P w base spare held k f4.type [v4] = some y4 := by
  simp only [List.map_cons, List.map_nil, List.cons.injEq, and_true] at ho hc
  obtain ⟨o0, o1, o2, o3, o4⟩ := ho
  obtain ⟨c0, c1, c2, c3, c4⟩ := hc
  obtain ⟨xs, k, _, hxy, hlen, hxl, hf⟩ := DataW.trod_struct he h
  rw [ce] at hlen
  match xs, hxl, cs, hlen with
  | [y0, y1, y2, y3, y4], _, [v0, v1, v2, v3, v4], _ =>
    have g0 := hf 0 f0 rfl
    have g1 := hf 1 f1 rfl
    have g2 := hf 2 f2 rfl
    have g3 := hf 3 f3 rfl
    have g4 := hf 4 f4 rfl
    simp [o0, o1, o2, o3, o4, c0, c1, c2, c3, c4] at g0 g1 g2 g3 g4
    exact ⟨v0, v1, v2, v3, v4, y0, y1, y2, y3, y4, k, rfl, g0, g1, g2, g3, g4⟩
set_option maxRecDepth 100000 in
/-- A mode that came in. -/
theorem mode_of_trod {H : Type} {enc : TypeId × Value → H} {W : World} {base : Nat} {v : Value} {d : DataW H} {ps : List MemPlace}
    (hv : Value.okWide Try.prog W .any base 23 v) (h : DataW.Trod enc Try.prog W 0 (fun _ => true) true 23 v d ps) : ∃ m : Mod, v = agM m := by
  have c5 : Try.prog.cellsOf 23 = 5 := by kernel_rfl
  obtain ⟨cs, rfl, hsz⟩ := okWide_struct Try.underlying23 hv
  obtain ⟨fuel, hf⟩ := h
  obtain ⟨v0, v1, v2, v3, v4, y0, y1, y2, y3, y4, k, hcs, t0, t1, t2, t3, t4⟩ := five_of_trod Try.underlying23 c5 rfl (by kernel_rfl) hf
  obtain ⟨b0, e0, _⟩ := DataW.trod_bool Try.underlying4 t0
  obtain ⟨b1, e1, _⟩ := DataW.trod_bool Try.underlying4 t1
  obtain ⟨b2, e2, _⟩ := DataW.trod_bool Try.underlying4 t2
  obtain ⟨b3, e3, _⟩ := DataW.trod_bool Try.underlying4 t3
  obtain ⟨b4, e4, _⟩ := DataW.trod_bool Try.underlying4 t4
  obtain rfl := (List.cons.inj e0).1
  obtain rfl := (List.cons.inj e1).1
  obtain rfl := (List.cons.inj e2).1
  obtain rfl := (List.cons.inj e3).1
  obtain rfl := (List.cons.inj e4).1
  refine ⟨⟨b0, b1, b2, b3, b4⟩, ?_⟩
  show Value.agg cs = .agg #[.bool b0, .bool b1, .bool b2, .bool b3, .bool b4]
  congr 1
  apply Array.ext'
  show (Value.agg cs).cells.toList = _
  rw [hcs]
set_option maxRecDepth 100000 in
/-- An item that came in, and what the form's own reach says of it. -/
theorem itemZ_of_trod {H : Type} {enc : TypeId × Value → H} {W : World} {base : Nat} {v : Value} {d : DataW H} {ps : List MemPlace} {ts : List TypeId} {ds : List (DataW H)} {j : Nat}
    (hz : (DataW.weightsEach Try.prog ts ds).all (· ≤ reachBytes) = true) (ht : ts[j]? = some 26) (hj : ds[j]? = some d)
    (hv : Value.okWide Try.prog W .any base 26 v) (h : DataW.Trod enc Try.prog W 0 (fun _ => true) true 26 v d ps) :
    ∃ (i : Itm) (q : Slc), v = agI i (sl q) ∧ ReadT W.heap.size W (sl q) (sts i.groups) ∧ i.groups.length ≤ 8796093022208 := by
  have hrb : reachBytes = 140737488351232 := rfl
  obtain ⟨cs, rfl, hsz⟩ := okWide_struct Try.underlying26 hv
  obtain ⟨fuel, hf⟩ := h
  obtain ⟨i, q, hc, hr, hb, hg⟩ := itemZ_cells hf
  refine ⟨i, q, ?_, hr, ?_⟩
  · show Value.agg cs = .agg (encI _ _).toArray
    congr 1
    apply Array.ext'
    show (Value.agg cs).cells.toList = _
    rw [hc]
  · rcases hg with h0 | ⟨k, hk1, hk2⟩
    · rw [h0]; exact Nat.zero_le _
    · have h1 := List.all_eq_true.1 hz _ (DataW.weights_mem_each ht hj _ hk2)
      have := of_decide_eq_true h1
      omega
end Go.Proofs.Ytpaehhlhngilcaa
