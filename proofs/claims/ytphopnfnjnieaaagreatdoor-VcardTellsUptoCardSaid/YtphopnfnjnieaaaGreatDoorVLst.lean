/-
  package vcard's lists: a card's list of properties (add), the list of cards (add, last).
-/
import Derived.Test.YtphopnfnjnieaaaGreatDoorVPr
import Derived.Test.YtphopnfnjnieaaaGreatDoorMaxL
import Derived.Deep.RegionWith
import Derived.Deep.RegionLaw
import Derived.Deep.QuietTactic
import Derived.BigQuiet
namespace Go.Proofs.YtphopnfnjnieaaaGreatDoor
open Go.RowKit Vc

theorem infoLst : (Tryz.prog.info? 75).map (fun i => (i.zero, i.size, i.bytes)) = some (some (.agg #[.slice none 0 0, .int .i64 0]), 2, 32) := by kernel_rfl
def encL (v : Value) : List Value := [v, .int .i64 40]
def lvs (l : List Value) : List Value := l.flatMap encL
theorem lvs_nil : lvs [] = [] := rfl
theorem lvs_append (a b : List Value) : lvs (a ++ b) = lvs a ++ lvs b := by simp [lvs]
theorem lvs_one (k : Value) : lvs [k] = [k, .int .i64 40] := by simp [lvs, encL]
theorem lvs_cons (k : Value) (l : List Value) : lvs (k :: l) = k :: .int .i64 40 :: lvs l := by simp [lvs, encL]
theorem lvs_length : ∀ (l : List Value), (lvs l).length = l.length * 2
  | [] => rfl
  | r :: l => by rw [lvs_cons, List.length_cons, List.length_cons, lvs_length l, List.length_cons]; omega
theorem lvs_get : ∀ {l : List Value} {j : Nat} {r : Value}, l[j]? = some r → (lvs l)[j * 2]? = some r ∧ (lvs l)[j * 2 + 1]? = some (.int .i64 40)
  | [], j, r, h => by simp at h
  | a :: l, 0, r, h => by
    obtain rfl : a = r := by simpa using h
    rw [lvs_cons]
    exact ⟨rfl, rfl⟩
  | a :: l, j + 1, r, h => by
    have := lvs_get (l := l) (j := j) (r := r) (by simpa using h)
    rw [lvs_cons, show (j + 1) * 2 = j * 2 + 1 + 1 by omega]
    simpa using this
theorem lvs_set : ∀ {l : List Value} {j : Nat} (u : Value), (lvs l).set (j * 2) u = lvs (l.set j u)
  | [], j, u => by simp [lvs]
  | a :: l, 0, u => by simp [lvs, encL]
  | a :: l, j + 1, u => by
    rw [lvs_cons, List.set_cons_succ, lvs_cons, show (j + 1) * 2 = j * 2 + 1 + 1 by omega, List.set_cons_succ, List.set_cons_succ, lvs_set u]
attribute [irreducible] lvs
/-- The slice v, made by the call (above block B), holds just these lists, each for 40 at most. -/
def OwnL (B : Nat) (w : World) (v : Value) (vs : List Value) : Prop := w.ownsRow B 75 2 v vs.length (lvs vs)
theorem OwnL.nil (B : Nat) (w : World) : OwnL B w (.slice none 0 0) [] := by
  unfold OwnL
  rw [lvs_nil]
  exact World.ownsRow_nil _ _ _ _
theorem OwnL.slice {B : Nat} {w : World} {v : Value} {l : List Value} (h : OwnL B w v l) : ∃ A cap, v = .slice A l.length cap := by
  rcases h.2 with ⟨rfl, h0⟩ | ⟨g, cap, cur, rfl, _⟩
  · exact ⟨none, 0, by rw [h0]⟩
  · exact ⟨_, _, rfl⟩
theorem OwnL.keep {B : Nat} {w w' : World} {v : Value} {l : List Value} (h : OwnL B w v l) (hb : ∀ g cs, Bk w g 75 cs → Bk w' g 75 cs) : OwnL B w' v l :=
  ⟨h.1, h.2.imp id fun ⟨g, cap, cur, k1, k2, k3, k4⟩ => ⟨g, cap, cur, k1, k2, hb g cur k3, k4⟩⟩
/-- its last one: where it lies, and what is there when it is stored anew -/
theorem OwnL.last {B : Nat} {w : World} {v u : Value} {us : List Value} (h : OwnL B w v (us ++ [u])) : ∃ g cap cs, v = .slice (some ⟨g, 0, none⟩) (us.length + 1) cap ∧ B ≤ g ∧ us.length + 1 ≤ cap ∧ Bk w g 75 cs ∧ w.cell? ⟨g, us.length * 2, none⟩ = some u ∧ w.cell? ⟨g, us.length * 2 + 1, none⟩ = some (.int .i64 40) ∧
    ∀ u', OwnL B (w.setCell ⟨g, us.length * 2, none⟩ u') v (us ++ [u']) := by
  have h' : w.ownsRow B 75 2 v (us ++ [u]).length (lvs (us ++ [u])) := h
  have hl : (us ++ [u]).length = us.length + 1 := by simp
  rcases h'.2 with ⟨rfl, h0⟩ | ⟨g, cap, cur, rfl, hg, hh, h1, h2, h3, h4⟩
  · rw [hl] at h0; omega
  · have hk : Bk w g 75 cur := hh
    have hgt := lvs_get (l := us ++ [u]) (j := us.length) (r := u) (by simp)
    refine ⟨g, cap, cur, by rw [hl], hg, by omega, hk, ?_, ?_, fun u' => ?_⟩
    · rw [hk.cell, ← Array.getElem?_toList, ← hgt.1, ← h4, List.getElem?_take_of_lt (by omega)]
    · rw [hk.cell, ← Array.getElem?_toList, ← hgt.2, ← h4, List.getElem?_take_of_lt (by omega)]
    · have e : (us ++ [u]).set us.length u' = us ++ [u'] := by
        rw [List.set_append_right _ _ (Nat.le_refl _), Nat.sub_self]
        rfl
      refine ⟨by rw [lvs_length], .inr ⟨g, cap, cur.setIfInBounds (us.length * 2) u', by rw [hl]; simp, hg, hk.put _ _, by simpa using h1, h2, ?_, ?_⟩⟩
      · rw [Array.size_setIfInBounds]
        exact h3
      · rw [← e, ← lvs_set, ← h4, List.length_set, Array.toList_setIfInBounds, List.take_set]
theorem OwnL.at {B : Nat} {w : World} {v : Value} {l : List Value} (h : OwnL B w v l) : ∃ A cap, v = .slice A l.length cap ∧ (0 < l.length → ∃ g, A = some ⟨g, 0, none⟩ ∧ g < w.heap.size ∧ ∀ i u, l[i]? = some u → w.cell? ⟨g, i * 2, none⟩ = some u ∧ w.cell? ⟨g, i * 2 + 1, none⟩ = some (.int .i64 40)) := by
  have h' : w.ownsRow B 75 2 v l.length (lvs l) := h
  rcases h'.2 with ⟨rfl, h0⟩ | ⟨g, cap, cur, rfl, hg, hh, h1, h2, h3, h4⟩
  · exact ⟨none, 0, by rw [h0], fun h => by omega⟩
  · refine ⟨_, cap, rfl, fun _ => ⟨g, rfl, lt_of_block hh, fun i u hi => ?_⟩⟩
    have hk : Bk w g 75 cur := hh
    have hgt := lvs_get hi
    have hi2 := (List.getElem?_eq_some_iff.1 hi).1
    rw [hk.cell, hk.cell, ← Array.getElem?_toList, ← Array.getElem?_toList, ← hgt.1, ← hgt.2, ← h4, List.getElem?_take_of_lt (by omega), List.getElem?_take_of_lt (by omega)]
    exact ⟨rfl, rfl⟩
/-- What an append of lists leaves as it was. -/
def GrewL (B : Nat) (w w' : World) : Prop := Below B w w' ∧ ∀ k cs t, Bk w k t cs → t ≠ 75 → Bk w' k t cs
theorem step_lst {ops : Array Oper} {o : Oper} {a : Act} {K : Act → World → Prop} {Q : Exit → Act → World → Prop} {E : Prop} (hgd : o.guard = none) (s y : Operand) (ho : o.op = .call { callee := .builtin .append, args := #[s, y], argTypes := #[46, 46] })
    (B : Nat) (v : Value) (vs : List Value) (u : Value) (hu1 : u.oneCell' = true) (w0 : World)
    (hs : a.eval s = v) (hown : OwnL B w0 v vs) (hy : a.eval y = .slice (some ⟨w0.heap.size, 0, none⟩) 1 1) (hn : vs.length ≤ 1000000000) (hB : B ≤ w0.heap.size)
    (h : ∀ v' w', OwnL B w' v' (vs ++ [u]) → GrewL B w0 w' → K (a.put o.dst v') w') : if Region.wanted o (yielded ops a.tmps) = true then Oper.wp Tryz.prog o a (w0.alloc (.cells #[u, .int .i64 40] 75)) K Q else E := by
  rw [if_pos (by simp [Region.wanted, hgd])]
  obtain ⟨i0, hi, hz0, hz1, hz2⟩ := info_parts infoLst
  have hown' : w0.ownsRow B 75 2 v vs.length (lvs vs) := hown
  refine wp_append_own _ s y 46 ho B 75 i0 _ 2 32 Tryz.underlying46 hi hz0 hz1 hz2 rfl (by decide) v vs.length (lvs vs) hs (hown'.alloc _) ⟨w0.heap.size, 0, none⟩ 1 1 [u, .int .i64 40] hy rfl ?_ ?_ ?_ (by omega) (by simp; omega) ?_
  · intro j x hj
    rw [add_at, cell_of_row _ _ _ #[_, _] _ (0, 0) (heap_alloc_new w0 _), Nat.zero_add]
    simpa using hj
  · intro x hx
    simp at hx
    rcases hx with rfl | rfl
    · exact hu1
    · rfl
  · unfold maxLen; omega
  · intro v' w' hown2 hg _
    refine h v' w' ?_ ⟨((Below.refl B w0).alloc hB _).grown hg (by simp; omega) (fun j hj => (World.ownsRow.lt hown' j hj).1), fun k cs t hk ht => ?_⟩
    · unfold OwnL
      rw [lvs_append, lvs_one, List.length_append, List.length_singleton]
      exact hown2
    · refine (hg.block k (by simp; have := hk.lt; omega) (fun e => ?_)).trans (hk.alloc _)
      rcases hown'.2 with ⟨rfl, _⟩ | ⟨g', cap, cur, rfl, _, hh, _⟩
      · cases e
      · injection e with e
        subst e
        exact Bk.type_ne hk (show Bk w0 _ 75 cur from hh) ht rfl

set_option maxHeartbeats 4000000 in
set_option maxRecDepth 100000 in
/-- (*list[list[Prop]]).last -/
theorem lastL_any (B R : Nat) (pl : Int) (v u : Value) (us : List Value) (w : World) (hR : Bk w R 50 #[.int .i64 pl, v, .int .i64 60]) (hv : OwnL B w v (us ++ [u])) (hn : us.length ≤ 1000) :
    Calls Tryz.prog 39 #[.pointer (some ⟨R, 1, none⟩)] w fun e w' => ∃ g, e = .returned (.pointer (some ⟨g, us.length * 2, none⟩)) ∧ (∃ cap, v = .slice (some ⟨g, 0, none⟩) (us.length + 1) cap) ∧ Below w.heap.size w w' := by
  obtain ⟨g, cap, cs, rfl, hg, hcap, hk, c0, c1, -⟩ := hv.last
  have r1 : w.cell? ⟨R, 1, none⟩ = some (.slice (some ⟨g, 0, none⟩) (us.length + 1) cap) := hR.cell 1
  obtain ⟨n, hn2⟩ : ∃ n, us.length = n := ⟨_, rfl⟩
  rw [hn2] at hn hcap r1 ⊢
  clear hR hv hk c0 c1 hn2
  go_enter Tryz.func39, Tryz.ntmps39
  go_wp2_with fail
  go_quiet (fail)
  go_wp2_with fail
  go_ret
  exact ⟨g, by simp, ⟨cap, rfl⟩, below_drewNP _ _⟩
end Go.Proofs.YtphopnfnjnieaaaGreatDoor
