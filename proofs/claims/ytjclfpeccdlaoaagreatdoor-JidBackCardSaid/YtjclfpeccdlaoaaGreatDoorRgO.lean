/-
  slices.SortFunc by the lows, of a slice that the call has made.
-/
import Derived.Test.YtjclfpeccdlaoaaGreatDoorPrs
import Derived.Test.YtjclfpeccdlaoaaGreatDoorShelf
import Derived.Lib.Hide
namespace Go.Proofs.YtjclfpeccdlaoaaGreatDoor
open Go.RowKit Rg

theorem flat_get (l : List R) {j : Nat} (hj : j < l.length * 2) : (prs l)[j]? = some (Go.Sort.flatK encR 2 l.toArray)[j]! := by
  rw [Go.Sort.get_flatK _ _ _ _ (by simpa using hj)]
  have h2 : j / 2 < l.length := by omega
  have hp := prs_get (List.getElem?_eq_getElem h2)
  have e : l.toArray[j / 2]! = l[j / 2] := by
    rw [getElem!_pos l.toArray (j / 2) (by simpa using h2)]
    simp
  rw [e]
  rcases Nat.mod_two_eq_zero_or_one j with h | h
  · rw [h]
    have h3 : j / 2 * 2 = j := by omega
    rw [h3] at hp
    exact hp.1
  · rw [h]
    have h3 : j / 2 * 2 + 1 = j := by omega
    rw [h3] at hp
    exact hp.2
theorem flat_size (l : List R) : (Go.Sort.flatK encR 2 l.toArray).size = l.length * 2 := by simp

/-- the row that a slice of the call's own has, as the sort asks it -/
theorem holds_of {w : World} {g : Nat} {t : TypeId} {cur : Array Value} {l : List R} (hk : Bk w g t cur) (hc : cur.toList.take (l.length * 2) = prs l) : Go.Sort.HoldsK encR 2 w g 0 l.toArray := by
  intro j hj
  rw [flat_size] at hj
  have h := flat_get l hj
  rw [← hc, List.getElem?_take_of_lt hj] at h
  rw [Nat.zero_add, hk.cell, hk.free]
  exact ⟨by rw [← Array.getElem?_toList]; exact h, rfl⟩
/-- .. and behind it -/
theorem own_sorted {B : Nat} {w : World} {g cap n : Nat} {cur : Array Value} {l d : List R} {os : Array Obj} (hk : Bk w g 81 cur) (hB : B ≤ g) (hl : l.length ≤ cap) (hm : cap ≤ maxLen) (hs : cur.size = cap * 2) (hd : d.length = l.length) :
    OwnR B (Go.Proofs.sortWorldK encR 2 w g 0 n d.toArray os) (.slice (some ⟨g, 0, none⟩) l.length cap) d ∧ Below B w (Go.Proofs.sortWorldK encR 2 w g 0 n d.toArray os) := by
  have hgl := hk.lt
  have hh : (Go.Proofs.sortWorldK encR 2 w g 0 n d.toArray os).heap = (w.heap.modify g (Go.Sort.onCells (Go.Sort.putCells id 0 (Go.Sort.flatK encR 2 d.toArray)))) ++ os := rfl
  have hk' : w.heap[g]? = some (.cells cur 81 (0, 0)) := hk
  refine ⟨⟨prs_length d, .inr ⟨g, cap, Go.Sort.putCells id 0 (Go.Sort.flatK encR 2 d.toArray) cur, by rw [hd], hB, ?_, by omega, hm, ?_, ?_⟩⟩, rfl, rfl, rfl, ?_, fun k hkb => ?_⟩
  · rw [hh, Array.getElem?_append_left (by simpa using hgl), Array.getElem?_modify, if_pos rfl, hk']
    rfl
  · simp [Go.Sort.putCells, hs]
  · refine List.ext_getElem? fun j => ?_
    by_cases hj : j < d.length * 2
    · rw [List.getElem?_take_of_lt hj, flat_get d hj, Array.getElem?_toList]
      have hjs : j < cur.size := by omega
      simp [Go.Sort.putCells, hjs, hj]
    · rw [List.getElem?_eq_none (by rw [List.length_take]; omega), List.getElem?_eq_none (by rw [prs_length]; omega)]
  · rw [hh]
    simp
  · rw [hh, Array.getElem?_append_left (by simp; omega), Array.getElem?_modify, if_neg (by omega)]

theorem cmpLt (x y : R) : ltOf (fun x y : R => Lib.compareInt x.1 y.1) x y = decide (x.1 < y.1) := by
  unfold ltOf Lib.compareInt
  by_cases h1 : x.1 < y.1
  · simp [h1]
  · by_cases h2 : y.1 < x.1 <;> simp [h1, h2]
theorem swoR : Go.Sort.SWO (ltOf fun x y : R => Lib.compareInt x.1 y.1) where
  irrefl x := by rw [cmpLt]; simp
  trans x y z h1 h2 := by rw [cmpLt] at *; simp at *; omega
  ntrans x y z h1 h2 := by rw [cmpLt] at *; simp at *; omega
set_option maxHeartbeats 1000000 in
theorem less_any (x y : R) (W : World) : Calls Tryz.prog 72 #[.agg #[.int .i64 x.1, .int .i64 x.2], .agg #[.int .i64 y.1, .int .i64 y.2]] W fun e w' => e = .returned (.int .i64 (Lib.compareInt x.1 y.1)) ∧ ∃ q os', w' = Go.Sort.grow (W.drewN q) os' := by
  have hcon := fun W' => Tryz.cmp_Compare_int x.1 y.1 W'
  generalize Lib.compareInt x.1 y.1 = r at hcon ⊢
  go_enter Tryz.func72, Tryz.ntmps72
  go_wp2_with (go_at_call 73; refine (hcon _).mono ?_; rintro e w' ⟨rfl, rfl⟩)
  go_ret
  exact ⟨rfl, 0, _, by rw [Go.Sort.alloc_eq_grow, Go.Sort.alloc_eq_grow, Go.Sort.grow_grow]; rfl⟩

theorem sort_any (B : Nat) (v : Value) (l : List R) (w : World) (h : OwnR B w v l) (hl : l.length ≤ 1000000000000) :
    Calls Tryz.prog 71 #[v, .func (.func 72) #[] #[]] w fun e w' => e = .returned (.tuple #[]) ∧ ∃ d : List R, d.Perm l ∧ (d.Pairwise fun p q => p.1 ≤ q.1) ∧ OwnR B w' v d ∧ Below B w w' := by
  by_cases hne : l = []
  · subst hne
    obtain ⟨A, cap, rfl⟩ := h.slice
    refine (AnyF.slices_SortFunc_none Tryz.sortRng A cap (.func (.func 72) #[] #[]) w).mono ?_
    rintro e w' ⟨rfl, rfl⟩
    exact ⟨rfl, [], .refl _, .nil, h, Below.refl _ _⟩
  · obtain ⟨g, cap, cur, rfl, hB, hk, hc1, hc2, hc3, hc4⟩ := h.full hne
    have eg : ∀ args w, (callFunc 72 args).run Tryz.prog w = .ok (.enter 72 args) w := Go.Proofs.enters_of Tryz.func72 (by kernel_rfl) rfl
    have hcon := AnyQ.slices_SortFunc Tryz.sortRng 2 Tryz.isAgg81 Tryz.sizeOf81 encR (fun _ => rfl) (fun x v hv => by simp [encR] at hv; rcases hv with rfl | rfl <;> rfl) (fun x y => Lib.compareInt x.1 y.1) swoR 72 #[] g 0 cap l.toArray w eg
      (fun _ _ _ _ x y => less_any x y _) (holds_of hk hc4) hk.lt (by simp; omega)
    rw [List.size_toArray] at hcon
    refine hcon.mono ?_
    rintro e w' ⟨rfl, d', n, os, hp, hs, rfl⟩
    obtain ⟨hp1, _, hp3⟩ := hp
    have hlen : d'.toList.length = l.length := by simpa using hp1
    have ho := own_sorted (n := n) (os := os) hk hB hc1 hc2 hc3 hlen
    rw [Array.toArray_toList] at ho
    have e1 : d'.extract 0 l.length = d' := by rw [← hlen]; simp
    have e2 : l.toArray.extract 0 l.length = l.toArray := by simp
    rw [e1, e2] at hp3
    refine ⟨rfl, d'.toList, hp3, ?_, ho.1, ho.2⟩
    rw [List.pairwise_iff_getElem]
    intro i j hi hj hij
    have h3 := hs i j (Nat.zero_le _) hij (by rw [← hlen]; exact hj)
    rw [cmpLt] at h3
    rw [getElem!_pos d' i (by simpa using hi), getElem!_pos d' j (by simpa using hj)] at h3
    simp at h3 ⊢
    exact h3
end Go.Proofs.YtjclfpeccdlaoaaGreatDoor
