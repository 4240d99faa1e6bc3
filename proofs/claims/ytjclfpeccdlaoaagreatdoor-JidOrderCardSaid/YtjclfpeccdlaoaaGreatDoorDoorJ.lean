/-
  FROM A WALK TO A STATEMENT, where a law is handed an address (three strings), or leans on the library's search: what came in, opened; its bounds; what the row's own world holds.
-/
import Derived.Test.YtjclfpeccdlaoaaGreatDoorDoor
import Derived.Test.YtjclfpeccdlaoaaGreatDoorJdW
import Derived.Lib.SmallJoins
import Derived.SizedLaws
namespace Go.Proofs.YtjclfpeccdlaoaaGreatDoor
open Go.ChangeShapes Go.WideShapes Go.ChangeAt Go.RowKit

theorem okw_of {W : World} (hT : Lib.Utf8Tabs 1 2 W) (hS : W.ShapedOpen Tryz.prog) : Okw W := ⟨hT, Tryz.laysM219.s1_3 W hS⟩
set_option maxRecDepth 100000 in
/-- An address that came in: its three strings, and its datum. -/
theorem open_jid {H : Type} {enc : TypeId × Value → H} {W : World} {base : Nat} {v : Value} {d : DataW H} {ps : List MemPlace}
    (hv : Value.okWide Tryz.prog W .any base 23 v) (h : DataW.Trod enc Tryz.prog W 0 (fun _ => true) true 23 v d ps) :
    ∃ l e r : ByteArray, v = .agg #[.string l, .string e, .string r] ∧ d = .agg [.lit (.string l.data.toList), .lit (.string e.data.toList), .lit (.string r.data.toList)] ∧ ps = [] := by
  obtain ⟨v0, v1, v2, y0, y1, y2, n, rfl, rfl, rfl, t0, t1, t2⟩ := Joins.open_agg3 Tryz.underlying23 (by kernel_rfl) (by kernel_rfl) hv h
  obtain ⟨s0, e0, x0, -⟩ := DataW.trod_string Tryz.underlying9 t0
  obtain ⟨s1, e1, x1, -⟩ := DataW.trod_string Tryz.underlying9 t1
  obtain ⟨s2, e2, x2, -⟩ := DataW.trod_string Tryz.underlying9 t2
  obtain rfl := (List.cons.inj e0).1
  obtain rfl := (List.cons.inj e1).1
  obtain rfl := (List.cons.inj e2).1
  rw [x0, x1, x2]
  exact ⟨s0, s1, s2, rfl, rfl, rfl⟩
/-- what the form's own reach says of a string that came in -/
theorem reach_str {H : Type} {ts : List TypeId} {ds : List (DataW H)} {a : ByteArray} (h : (DataW.weightsEach Tryz.prog ts ds).all (· ≤ reachBytes) = true) {j : Nat} (ht : ts[j]? = some 9) (hj : ds[j]? = some (.lit (.string a.data.toList))) : a.size ≤ 140737488355328 := by
  have h1 := sized_string h ht hj
  rw [← Lib.size_eq] at h1
  have hr : reachBytes = 140737488351232 := rfl
  omega
/-- .. and of an address' three -/
theorem reach_jid {H : Type} {ts : List TypeId} {ds : List (DataW H)} {l e r : ByteArray} (h : (DataW.weightsEach Tryz.prog ts ds).all (· ≤ reachBytes) = true) {j : Nat} (ht : ts[j]? = some 23)
    (hj : ds[j]? = some (.agg [.lit (.string l.data.toList), .lit (.string e.data.toList), .lit (.string r.data.toList)])) : l.size ≤ 140737488355328 ∧ e.size ≤ 140737488355328 ∧ r.size ≤ 140737488355328 := by
  have hr : reachBytes = 140737488351232 := rfl
  have key : ∀ n, (n = l.data.toList.length ∨ n = e.data.toList.length ∨ n = r.data.toList.length) → n ≤ reachBytes := fun n hn => by
    have := List.all_eq_true.1 h n (DataW.weights_mem_each ht hj n (by
      rw [DataW.weights, Tryz.underlying23]
      simp [DataW.weightsEach, DataW.weights]
      exact hn))
    exact of_decide_eq_true this
  have h1 := key _ (.inl rfl)
  have h2 := key _ (.inr (.inl rfl))
  have h3 := key _ (.inr (.inr rfl))
  rw [← Lib.size_eq] at h1 h2 h3
  omega
end Go.Proofs.YtjclfpeccdlaoaaGreatDoor
