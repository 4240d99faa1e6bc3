/-
  slices.Grow, Concat and SortFunc, at ranges.
-/
import Derived.Test.YtjclfpeccdlaoaaGreatDoorPrs
import Derived.Test.YtjclfpeccdlaoaaGreatDoorShelf
import Derived.Lib.Hide
namespace Go.Proofs.YtjclfpeccdlaoaaGreatDoor
open Go.RowKit Rg

set_option maxHeartbeats 400000 in
theorem grow_any (n : Nat) (w : World) (hn : n ≤ 1000000000000) : Calls Tryz.prog 107 #[.slice none 0 0, .int .i64 n] w fun e w' => ∃ v, e = .returned v ∧ OwnR w.heap.size w' v [] ∧ Below w.heap.size w w' := by
  rcases Nat.eq_zero_or_pos n with rfl | h0
  · refine (Any8.slices_Grow_room Tryz.growRng none 0 0 0 w (Nat.le_refl _) (by omega) (by omega) (by omega)).mono ?_
    rintro e w' ⟨rfl, rfl⟩
    exact ⟨_, rfl, OwnR.nil _ _, Below.refl _ _⟩
  · obtain ⟨i0, hi, hz0, hz1, hz2⟩ := info_parts infoRng
    refine (Any8.slices_Grow_grow Tryz.growRng i0 _ hi hz0 (by omega) none 0 0 n [] w (Nat.le_refl _) (by omega) (by rw [hz2]; omega) (by omega) (by simp) (fun _ => rfl) (fun a h => by cases h)).mono ?_
    rintro e w' ⟨rfl, rfl⟩
    refine ⟨_, rfl, ?_, ?_⟩
    · have h1 := grownCap_ge w (0 + n) 0 81
      have h2 := grownCap_le_maxLen w (0 + n) 0 81 (by unfold maxLen; omega)
      unfold OwnR
      rw [prs_nil]
      refine World.ownsRow_made (size := 2) w.drew _ _ (Nat.le_refl _) h2 ?_
      rw [Array.size_append, Array.size_append, size_zeroCells, size_zeroCells]
      show 0 + (0 + n - 0) * 2 + (grownCap w (0 + n) 0 81 - (0 + n)) * 2 = grownCap w (0 + n) 0 81 * 2
      omega
    · exact (Below.refl w.heap.size w).drew.alloc (Nat.le_refl _) _

set_option maxHeartbeats 2000000 in
/-- What Concat is handed: two lists, in a block. -/
theorem concat_any (g : Nat) (va vb : Value) (a b : List R) (w : World) (t : TypeId) (hk : Bk w g t #[va, vb]) (ha : ReadR w.heap.size w va a) (hb : ReadR w.heap.size w vb b) (hl : a.length ≤ 100000000000) (hm : b.length ≤ 100000000000) :
    Calls Tryz.prog 70 #[.slice (some ⟨g, 0, none⟩) 2 2] w fun e w' => ∃ v, e = .returned v ∧ OwnR w.heap.size w' v (a ++ b) ∧ Below w.heap.size w w' := by
  have HG := Lib.hid grow_any
  obtain ⟨Aa, ca, rfl, ha1, ha2⟩ := ha
  obtain ⟨Ab, cb, rfl, hb1, hb2⟩ := hb
  have HA : Hid (ReadR w.heap.size w (.slice Aa a.length ca) a) := ⟨Aa, ca, rfl, ha1, ha2⟩
  have HB : Hid (ReadR w.heap.size w (.slice Ab b.length cb) b) := ⟨Ab, cb, rfl, hb1, hb2⟩
  have HK := Lib.hid hk
  have c0 := hk.cell 0
  have c1 := hk.cell 1
  simp at c0 c1
  clear ha1 ha2 hb1 hb2 hk
  go_enter Tryz.func70, Tryz.ntmps70
  go_wp2_with fail
  go_loop [3, 11] (fun s i => (i = .int .i64 0 ∧ s = .int .i64 0) ∨ (i = .int .i64 1 ∧ s = .int .i64 a.length) ∨ (i = .int .i64 2 ∧ s = .int .i64 (a.length + b.length : Nat))) (fun _ i => 2 - (intOf i).toNat)
  case atStart => exact .inl ⟨rfl, rfl⟩
  case round =>
    rcases hrel with ⟨rfl, rfl⟩ | ⟨rfl, rfl⟩ | ⟨rfl, rfl⟩
    · go_wp2_with fail
      go_round
      case rel => exact .inr (.inl ⟨rfl, by simp⟩)
      case measure => simp [intOf]
    · go_wp2_with fail
      go_round
      case rel => exact .inr (.inr ⟨rfl, by simp⟩)
      case measure => simp [intOf]
    · go_wp2_with (go_at_call 107; refine (HG.out (a.length + b.length) _ (by omega)).mono ?_; rintro e w1 ⟨v1, rfl, o1, b1⟩)
      have hs1 := b1.size
      have c0' := ((HK.out.below b1 HK.out.lt).cell 0)
      have c1' := ((HK.out.below b1 HK.out.lt).cell 1)
      simp at c0' c1'
      clear c0 c1
      go_wp2_with fail
      go_loopw [6, 27] (fun vv i wr => ∃ v, vv = v ∧ Below w.heap.size w wr ∧ ((i = .int .i64 0 ∧ Hid (OwnR w.heap.size wr v [])) ∨ (i = .int .i64 1 ∧ Hid (OwnR w.heap.size wr v a)) ∨ (i = .int .i64 2 ∧ Hid (OwnR w.heap.size wr v (a ++ b))))) (fun _ i _ => 2 - (intOf i).toNat)
      case atStart => exact ⟨_, rfl, b1, .inl ⟨rfl, o1⟩⟩
      case round =>
        obtain ⟨v, hv, bw, hr⟩ := hrel
        have hv2 := hv.symm
        clear hv
        subst hv2
        have hsw := bw.size
        have d0 := ((HK.out.below bw HK.out.lt).cell 0)
        have d1 := ((HK.out.below bw HK.out.lt).cell 1)
        simp at d0 d1
        rcases hr with ⟨rfl, ho⟩ | ⟨rfl, ho⟩ | ⟨rfl, ho⟩
        · obtain ⟨A2, c2, rfl⟩ := ho.out.slice
          have hR : Hid (ReadR wr.heap.size wr (.slice Aa a.length ca) a) := (HA.out.below bw).more hsw
          go_wp2_with (at_builtin; refine push_all rfl _ _ rfl w.heap.size (.slice A2 ([] : List R).length c2) (.slice Aa a.length ca) [] a wr rfl ho.out rfl hR.out (by simp; omega) hsw ?_)
          intro v2 w2 o2 b2
          have o2' : Hid (OwnR w.heap.size w2 v2 a) := o2
          have b2' := bw.trans b2
          clear o2 b2
          go_wp2_with fail
          go_roundw
          case rel => exact ⟨_, rfl, b2', .inr (.inl ⟨rfl, o2'⟩)⟩
          case measure => simp [intOf]
        · obtain ⟨A2, c2, rfl⟩ := ho.out.slice
          have hR : Hid (ReadR wr.heap.size wr (.slice Ab b.length cb) b) := (HB.out.below bw).more hsw
          go_wp2_with (at_builtin; refine push_all rfl _ _ rfl w.heap.size (.slice A2 a.length c2) (.slice Ab b.length cb) a b wr rfl ho.out rfl hR.out (by omega) hsw ?_)
          intro v2 w2 o2 b2
          have o2' : Hid (OwnR w.heap.size w2 v2 (a ++ b)) := o2
          have b2' := bw.trans b2
          clear o2 b2
          go_wp2_with fail
          go_roundw
          case rel => exact ⟨_, rfl, b2', .inr (.inr ⟨rfl, o2'⟩)⟩
          case measure => simp [intOf]
        · go_wp2_with fail
          go_ret
          exact ⟨_, rfl, ho.out, bw⟩
end Go.Proofs.YtjclfpeccdlaoaaGreatDoor
