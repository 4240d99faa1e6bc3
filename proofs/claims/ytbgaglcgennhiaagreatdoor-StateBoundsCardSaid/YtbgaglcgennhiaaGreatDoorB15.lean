import Derived.Test.YtbgaglcgennhiaaGreatDoorB12
import Derived.Test.YtbgaglcgennhiaaGreatDoorShelf
import Derived.Lib.Hide
section
/- what is reached of it -/
namespace Go.Proofs.YtbgaglcgennhiaaGreatDoor
open Go.RowKit Rg
set_option maxHeartbeats 400000 in
theorem grow_any (n : Nat) (w : World) (hn : n ≤ 1000000000000) : Calls Tryz.prog 245 #[.slice none 0 0, .int .i64 n] w fun e w' => ∃ v, e = .returned v ∧ OwnR w.heap.size w' v [] ∧ Below w.heap.size w w' := by
  rcases Nat.eq_zero_or_pos n with rfl | h0
  · refine (Any8.slices_Grow_room Tryz.growRng none 0 0 0 w (Nat.le_refl _) (by omega) (by omega) (by omega)).mono ?_
    rintro e w' ⟨rfl, rfl⟩
    exact ⟨_, rfl, OwnR.nil _ _, Below.refl _ _⟩
  · obtain ⟨i0, hi, hz0, hz1, hz2⟩ := info_parts infoRng
    refine (Any8.slices_Grow_grow Tryz.growRng i0 _ hi hz0 (by omega) none 0 0 n [] w (Nat.le_refl _) (by omega) (by rw [hz2]; omega) (by omega) (by simp) (fun _ => rfl) (fun a h => by cases h)).mono ?_
    rintro e w' ⟨rfl, rfl⟩
    refine ⟨_, rfl, ?_, ?_⟩
    · have h1 := grownCap_ge w (0 + n) 0 185
      have h2 := grownCap_le_maxLen w (0 + n) 0 185 (by unfold maxLen; omega)
      unfold OwnR
      rw [prs_nil]
      refine World.ownsRow_made (size := 2) w.drew _ _ (Nat.le_refl _) h2 ?_
      rw [Array.size_append, Array.size_append, size_zeroCells, size_zeroCells]
      show 0 + (0 + n - 0) * 2 + (grownCap w (0 + n) 0 185 - (0 + n)) * 2 = grownCap w (0 + n) 0 185 * 2
      omega
    · exact (Below.refl w.heap.size w).drew.alloc (Nat.le_refl _) _

set_option maxHeartbeats 2000000 in
/-- What Concat is handed: two lists, in a block. -/
theorem concat_any (g : Nat) (va vb : Value) (a b : List R) (w : World) (t : TypeId) (hk : Bk w g t #[va, vb]) (ha : ReadR w.heap.size w va a) (hb : ReadR w.heap.size w vb b) (hl : a.length ≤ 100000000000) (hm : b.length ≤ 100000000000) :
    Calls Tryz.prog 217 #[.slice (some ⟨g, 0, none⟩) 2 2] w fun e w' => ∃ v, e = .returned v ∧ OwnR w.heap.size w' v (a ++ b) ∧ Below w.heap.size w w' := by
  have HG := Lib.hid grow_any
  obtain ⟨Aa, ca, rfl, ha1, ha2⟩ := ha
  obtain ⟨Ab, cb, rfl, hb1, hb2⟩ := hb
  have HA : Hid (ReadR w.heap.size w (.slice Aa a.length ca) a) := ⟨Aa, ca, rfl, ha1, ha2⟩
  have HB : Hid (ReadR w.heap.size w (.slice Ab b.length cb) b) := ⟨Ab, cb, rfl, hb1, hb2⟩
  have HK := Lib.hid hk
  have c0 := hk.cell 0
  have c1 := hk.cell 1
  simp at c0 c1
  clear ha1 ha2 hb1 hb2 hk
  go_enter Tryz.func217, Tryz.ntmps217
  go_wp2_with fail
  go_loop [3, 11] (fun s i => (i = .int .i64 0 ∧ s = .int .i64 0) ∨ (i = .int .i64 1 ∧ s = .int .i64 a.length) ∨ (i = .int .i64 2 ∧ s = .int .i64 (a.length + b.length : Nat))) (fun _ i => 2 - (intOf i).toNat)
  case atStart => exact .inl ⟨rfl, rfl⟩
  case round =>
    rcases hrel with ⟨rfl, rfl⟩ | ⟨rfl, rfl⟩ | ⟨rfl, rfl⟩
    · go_wp2_with fail
      go_round
      case rel => exact .inr (.inl ⟨rfl, by simp⟩)
      case measure => simp [intOf]
    · go_wp2_with fail
      go_round
      case rel => exact .inr (.inr ⟨rfl, by simp⟩)
      case measure => simp [intOf]
    · go_wp2_with (go_at_call 245; refine (HG.out (a.length + b.length) _ (by omega)).mono ?_; rintro e w1 ⟨v1, rfl, o1, b1⟩)
      have hs1 := b1.size
      have c0' := ((HK.out.below b1 HK.out.lt).cell 0)
      have c1' := ((HK.out.below b1 HK.out.lt).cell 1)
      simp at c0' c1'
      clear c0 c1
      go_wp2_with fail
      go_loopw [6, 27] (fun vv i wr => ∃ v, vv = v ∧ Below w.heap.size w wr ∧ ((i = .int .i64 0 ∧ Hid (OwnR w.heap.size wr v [])) ∨ (i = .int .i64 1 ∧ Hid (OwnR w.heap.size wr v a)) ∨ (i = .int .i64 2 ∧ Hid (OwnR w.heap.size wr v (a ++ b))))) (fun _ i _ => 2 - (intOf i).toNat)
      case atStart => exact ⟨_, rfl, b1, .inl ⟨rfl, o1⟩⟩
      case round =>
        obtain ⟨v, hv, bw, hr⟩ := hrel
        have hv2 := hv.symm
        clear hv
        subst hv2
        have hsw := bw.size
        have d0 := ((HK.out.below bw HK.out.lt).cell 0)
        have d1 := ((HK.out.below bw HK.out.lt).cell 1)
        simp at d0 d1
        rcases hr with ⟨rfl, ho⟩ | ⟨rfl, ho⟩ | ⟨rfl, ho⟩
        · obtain ⟨A2, c2, rfl⟩ := ho.out.slice
          have hR : Hid (ReadR wr.heap.size wr (.slice Aa a.length ca) a) := (HA.out.below bw).more hsw
          go_wp2_with (at_builtin; refine push_all rfl _ _ rfl w.heap.size (.slice A2 ([] : List R).length c2) (.slice Aa a.length ca) [] a wr rfl ho.out rfl hR.out (by simp; omega) hsw ?_)
          intro v2 w2 o2 b2
          have o2' : Hid (OwnR w.heap.size w2 v2 a) := o2
          have b2' := bw.trans b2
          clear o2 b2
          go_wp2_with fail
          go_roundw
          case rel => exact ⟨_, rfl, b2', .inr (.inl ⟨rfl, o2'⟩)⟩
          case measure => simp [intOf]
        · obtain ⟨A2, c2, rfl⟩ := ho.out.slice
          have hR : Hid (ReadR wr.heap.size wr (.slice Ab b.length cb) b) := (HB.out.below bw).more hsw
          go_wp2_with (at_builtin; refine push_all rfl _ _ rfl w.heap.size (.slice A2 a.length c2) (.slice Ab b.length cb) a b wr rfl ho.out rfl hR.out (by omega) hsw ?_)
          intro v2 w2 o2 b2
          have o2' : Hid (OwnR w.heap.size w2 v2 (a ++ b)) := o2
          have b2' := bw.trans b2
          clear o2 b2
          go_wp2_with fail
          go_roundw
          case rel => exact ⟨_, rfl, b2', .inr (.inr ⟨rfl, o2'⟩)⟩
          case measure => simp [intOf]
        · go_wp2_with fail
          go_ret
          exact ⟨_, rfl, ho.out, bw⟩
end Go.Proofs.YtbgaglcgennhiaaGreatDoor
end
section
/- what is reached of it -/
namespace Go.Proofs.YtbgaglcgennhiaaGreatDoor
open Go.RowKit Rg
theorem flat_get (l : List R) {j : Nat} (hj : j < l.length * 2) : (prs l)[j]? = some (Go.Sort.flatK encR 2 l.toArray)[j]! := by
  rw [Go.Sort.get_flatK _ _ _ _ (by simpa using hj)]
  have h2 : j / 2 < l.length := by omega
  have hp := prs_get (List.getElem?_eq_getElem h2)
  have e : l.toArray[j / 2]! = l[j / 2] := by
    rw [getElem!_pos l.toArray (j / 2) (by simpa using h2)]
    simp
  rw [e]
  rcases Nat.mod_two_eq_zero_or_one j with h | h
  · rw [h]
    have h3 : j / 2 * 2 = j := by omega
    rw [h3] at hp
    exact hp.1
  · rw [h]
    have h3 : j / 2 * 2 + 1 = j := by omega
    rw [h3] at hp
    exact hp.2
theorem flat_size (l : List R) : (Go.Sort.flatK encR 2 l.toArray).size = l.length * 2 := by simp

/-- the row that a slice of the call's own has, as the sort asks it -/
theorem holds_of {w : World} {g : Nat} {t : TypeId} {cur : Array Value} {l : List R} (hk : Bk w g t cur) (hc : cur.toList.take (l.length * 2) = prs l) : Go.Sort.HoldsK encR 2 w g 0 l.toArray := by
  intro j hj
  rw [flat_size] at hj
  have h := flat_get l hj
  rw [← hc, List.getElem?_take_of_lt hj] at h
  rw [Nat.zero_add, hk.cell, hk.free]
  exact ⟨by rw [← Array.getElem?_toList]; exact h, rfl⟩
/-- .. and behind it -/
theorem own_sorted {B : Nat} {w : World} {g cap n : Nat} {cur : Array Value} {l d : List R} {os : Array Obj} (hk : Bk w g 185 cur) (hB : B ≤ g) (hl : l.length ≤ cap) (hm : cap ≤ maxLen) (hs : cur.size = cap * 2) (hd : d.length = l.length) :
    OwnR B (Go.Proofs.sortWorldK encR 2 w g 0 n d.toArray os) (.slice (some ⟨g, 0, none⟩) l.length cap) d ∧ Below B w (Go.Proofs.sortWorldK encR 2 w g 0 n d.toArray os) := by
  have hgl := hk.lt
  have hh : (Go.Proofs.sortWorldK encR 2 w g 0 n d.toArray os).heap = (w.heap.modify g (Go.Sort.onCells (Go.Sort.putCells id 0 (Go.Sort.flatK encR 2 d.toArray)))) ++ os := rfl
  have hk' : w.heap[g]? = some (.cells cur 185 (0, 0)) := hk
  refine ⟨⟨prs_length d, .inr ⟨g, cap, Go.Sort.putCells id 0 (Go.Sort.flatK encR 2 d.toArray) cur, by rw [hd], hB, ?_, by omega, hm, ?_, ?_⟩⟩, rfl, rfl, rfl, ?_, fun k hkb => ?_⟩
  · rw [hh, Array.getElem?_append_left (by simpa using hgl), Array.getElem?_modify, if_pos rfl, hk']
    rfl
  · simp [Go.Sort.putCells, hs]
  · refine List.ext_getElem? fun j => ?_
    by_cases hj : j < d.length * 2
    · rw [List.getElem?_take_of_lt hj, flat_get d hj, Array.getElem?_toList]
      have hjs : j < cur.size := by omega
      simp [Go.Sort.putCells, hjs, hj]
    · rw [List.getElem?_eq_none (by rw [List.length_take]; omega), List.getElem?_eq_none (by rw [prs_length]; omega)]
  · rw [hh]
    simp
  · rw [hh, Array.getElem?_append_left (by simp; omega), Array.getElem?_modify, if_neg (by omega)]

theorem cmpLt (x y : R) : ltOf (fun x y : R => Lib.compareInt x.1 y.1) x y = decide (x.1 < y.1) := by
  unfold ltOf Lib.compareInt
  by_cases h1 : x.1 < y.1
  · simp [h1]
  · by_cases h2 : y.1 < x.1 <;> simp [h1, h2]
theorem swoR : Go.Sort.SWO (ltOf fun x y : R => Lib.compareInt x.1 y.1) where
  irrefl x := by rw [cmpLt]; simp
  trans x y z h1 h2 := by rw [cmpLt] at *; simp at *; omega
  ntrans x y z h1 h2 := by rw [cmpLt] at *; simp at *; omega
set_option maxHeartbeats 1000000 in
theorem less_any (x y : R) (W : World) : Calls Tryz.prog 219 #[.agg #[.int .i64 x.1, .int .i64 x.2], .agg #[.int .i64 y.1, .int .i64 y.2]] W fun e w' => e = .returned (.int .i64 (Lib.compareInt x.1 y.1)) ∧ ∃ q os', w' = Go.Sort.grow (W.drewN q) os' := by
  have hcon := fun W' => Tryz.cmp_Compare_int x.1 y.1 W'
  generalize Lib.compareInt x.1 y.1 = r at hcon ⊢
  go_enter Tryz.func219, Tryz.ntmps219
  go_wp2_with (go_at_call 220; refine (hcon _).mono ?_; rintro e w' ⟨rfl, rfl⟩)
  go_ret
  exact ⟨rfl, 0, _, by rw [Go.Sort.alloc_eq_grow, Go.Sort.alloc_eq_grow, Go.Sort.grow_grow]; rfl⟩

theorem sort_any (B : Nat) (v : Value) (l : List R) (w : World) (h : OwnR B w v l) (hl : l.length ≤ 1000000000000) :
    Calls Tryz.prog 218 #[v, .func (.func 219) #[] #[]] w fun e w' => e = .returned (.tuple #[]) ∧ ∃ d : List R, d.Perm l ∧ (d.Pairwise fun p q => p.1 ≤ q.1) ∧ OwnR B w' v d ∧ Below B w w' := by
  by_cases hne : l = []
  · subst hne
    obtain ⟨A, cap, rfl⟩ := h.slice
    refine (AnyF.slices_SortFunc_none Tryz.sortRng A cap (.func (.func 219) #[] #[]) w).mono ?_
    rintro e w' ⟨rfl, rfl⟩
    exact ⟨rfl, [], .refl _, .nil, h, Below.refl _ _⟩
  · obtain ⟨g, cap, cur, rfl, hB, hk, hc1, hc2, hc3, hc4⟩ := h.full hne
    have eg : ∀ args w, (callFunc 219 args).run Tryz.prog w = .ok (.enter 219 args) w := Go.Proofs.enters_of Tryz.func219 (by kernel_rfl) rfl
    have hcon := AnyQ.slices_SortFunc Tryz.sortRng 2 Tryz.isAgg185 Tryz.sizeOf185 encR (fun _ => rfl) (fun x v hv => by simp [encR] at hv; rcases hv with rfl | rfl <;> rfl) (fun x y => Lib.compareInt x.1 y.1) swoR 219 #[] g 0 cap l.toArray w eg
      (fun _ _ _ _ x y => less_any x y _) (holds_of hk hc4) hk.lt (by simp; omega)
    rw [List.size_toArray] at hcon
    refine hcon.mono ?_
    rintro e w' ⟨rfl, d', n, os, hp, hs, rfl⟩
    obtain ⟨hp1, _, hp3⟩ := hp
    have hlen : d'.toList.length = l.length := by simpa using hp1
    have ho := own_sorted (n := n) (os := os) hk hB hc1 hc2 hc3 hlen
    rw [Array.toArray_toList] at ho
    have e1 : d'.extract 0 l.length = d' := by rw [← hlen]; simp
    have e2 : l.toArray.extract 0 l.length = l.toArray := by simp
    rw [e1, e2] at hp3
    refine ⟨rfl, d'.toList, hp3, ?_, ho.1, ho.2⟩
    rw [List.pairwise_iff_getElem]
    intro i j hi hj hij
    have h3 := hs i j (Nat.zero_le _) hij (by rw [← hlen]; exact hj)
    rw [cmpLt] at h3
    rw [getElem!_pos d' i (by simpa using hi), getElem!_pos d' j (by simpa using hj)] at h3
    simp at h3 ⊢
    exact h3
end Go.Proofs.YtbgaglcgennhiaaGreatDoor
end
