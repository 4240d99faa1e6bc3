/-
  slices.Grow, Concat at attributes; package canon: said.
-/
import Derived.Test.YtbkfmbkamocllaaDoorCnM
import Derived.Test.YtbkfmbkamocllaaDoorShelg
import Derived.Test.YtbkfmbkamocllaaDoorCnA
import Derived.Laws.AppendOwnNone
namespace Go.Proofs.YtbkfmbkamocllaaDoor
open Go.RowKit Tk Tr Cn

theorem OwnA.readC {B : Nat} {w : World} {v : Value} {l : List Att} (h : OwnA B w v l) : ReadC w v l := by
  have h' : w.ownsRow B 29 2 v l.length (ats l) := h
  have hr := h.row.reads
  obtain ⟨A, cap, rfl, h2⟩ := hr
  refine ⟨A, cap, rfl, ?_, ?_, h2⟩
  · rcases h'.2 with ⟨e, h0⟩ | ⟨g, cap', cur, e, hg, hh, h1, _⟩
    · omega
    · injection e with e1 e2 e3
      omega
  · rcases h'.2 with ⟨e, h0⟩ | ⟨g, cap', cur, e, hg, hh, h1, h3, _⟩
    · injection e with e1 e2 e3
      subst e3
      exact ⟨Nat.zero_le _, fun _ => rfl⟩
    · injection e with e1 e2 e3
      subst e3
      exact ⟨h3, fun e => by rw [e] at e1; cases e1⟩
/-- An append of all of a slice that can be read. -/
theorem push_attS {ops : Array Oper} {rest : List Oper} {o : Oper} {a : Act} {Q : Exit → Act → World → Prop} (hgd : o.guard = none) (s x : Operand) (ho : o.op = .call { callee := .builtin .append, args := #[s, x], argTypes := #[30, 30] })
    (B : Nat) (v u : Value) (l m : List Att) (w0 : World) (hs : a.eval s = v) (hown : OwnA B w0 v l) (hx : a.eval x = u) (hu : ReadC w0 u m) (hn : l.length + m.length ≤ 1000000000000) (hB : B ≤ w0.heap.size)
    (h : ∀ v' w', OwnA B w' v' (l ++ m) → Below B w0 w' → wpList Tryd.prog ops Q rest (a.put o.dst v') w') : wpList Tryd.prog ops Q (o :: rest) a w0 := by
  obtain ⟨i0, hi, hz0, hz1, hz2⟩ := info_parts infoAtt
  have hown' : w0.ownsRow B 29 2 v l.length (ats l) := hown
  obtain ⟨A, cap, rfl, h1, ⟨h2, h3⟩, h4⟩ := hu
  cases A with
  | none =>
    obtain rfl := h3 rfl
    have hm : m = [] := List.eq_nil_of_length_eq_zero (by omega)
    subst hm
    refine wpList_append_own_none hgd s x 30 ho B 29 i0 2 Tryd.underlying30 hi v l.length (ats l) hs hown' hx (h _ _ ?_ (Below.refl _ _))
    rw [List.append_nil]
    exact hown
  | some ad =>
    have hc : ∀ j u, (ats m)[j]? = some u → w0.cell? (ad.add j) = some u := fun j u hj => by
      have hjl := (List.getElem?_eq_some_iff.1 hj).1
      rw [ats_length] at hjl
      obtain ⟨ad', e, _, hc⟩ := h4 (by omega)
      obtain rfl : ad = ad' := Option.some.inj e
      obtain ⟨b, hb⟩ : ∃ b, m[j / 2]? = some b := ⟨_, List.getElem?_eq_getElem (by omega)⟩
      obtain ⟨c0, c1⟩ := hc (j / 2) b hb
      obtain ⟨g0, g1⟩ := ats_get hb
      rcases Nat.mod_two_eq_zero_or_one j with hr | hr
      · rw [show j / 2 * 2 = j by omega] at c0 g0
        rw [g0] at hj
        rw [c0, hj]
      · rw [show j / 2 * 2 + 1 = j by omega] at g1
        rw [g1] at hj
        rw [← hj, ← c1, ← add_succ _ _ _ (by decide), show j / 2 * 2 + 1 = j by omega]
    refine wpList_append_own _ hgd s x 30 ho B 29 i0 _ 2 32 Tryd.underlying30 hi hz0 hz1 hz2 rfl (by decide) v l.length (ats l) hs hown' ad m.length cap (ats m) hx (ats_length m) hc (ats_cells m) ?_ (by omega) hB ?_
    · unfold maxLen; omega
    · intro v' w' hown2 hg _
      refine h v' w' ?_ ((Below.refl B w0).grown hg hB (fun j hj => (World.ownsRow.lt hown' j hj).1))
      unfold OwnA
      rw [ats_append, List.length_append]
      exact hown2
set_option maxHeartbeats 400000 in
theorem growA_any (n : Nat) (w : World) (hn : n ≤ 1000000000000) : Calls Tryd.prog 51 #[.slice none 0 0, .int .i64 n] w fun e w' => ∃ v, e = .returned v ∧ OwnA w.heap.size w' v [] ∧ Below w.heap.size w w' := by
  rcases Nat.eq_zero_or_pos n with rfl | h0
  · refine (Any8.slices_Grow_room Tryd.growAtt none 0 0 0 w (Nat.le_refl _) (by omega) (by omega) (by omega)).mono ?_
    rintro e w' ⟨rfl, rfl⟩
    exact ⟨_, rfl, OwnA.nil _ _, Below.refl _ _⟩
  · obtain ⟨i0, hi, hz0, hz1, hz2⟩ := info_parts infoAtt
    refine (Any8.slices_Grow_grow Tryd.growAtt i0 _ hi hz0 (by omega) none 0 0 n [] w (Nat.le_refl _) (by omega) (by rw [hz2]; omega) (by omega) (by simp) (fun _ => rfl) (fun a h => by cases h)).mono ?_
    rintro e w' ⟨rfl, rfl⟩
    refine ⟨_, rfl, ?_, ?_⟩
    · have h1 := grownCap_ge w (0 + n) 0 29
      have h2 := grownCap_le_maxLen w (0 + n) 0 29 (by unfold maxLen; omega)
      unfold OwnA
      rw [ats_nil]
      refine World.ownsRow_made (size := 2) w.drew _ _ (Nat.le_refl _) h2 ?_
      rw [Array.size_append, Array.size_append, size_zeroCells, size_zeroCells]
      show 0 + (0 + n - 0) * 2 + (grownCap w (0 + n) 0 29 - (0 + n)) * 2 = grownCap w (0 + n) 0 29 * 2
      omega
    · exact (Below.refl w.heap.size w).drew.alloc (Nat.le_refl _) _
set_option maxHeartbeats 2000000 in
/-- What Concat is handed: two lists, in a block. -/
theorem concatA_any (g : Nat) (va vb : Value) (a b : List Att) (w : World) (t : TypeId) (hk : Bk w g t #[va, vb]) (ha : ReadC w va a) (hb : ReadC w vb b) (hl : a.length ≤ 100000000000) (hm : b.length ≤ 100000000000) :
    Calls Tryd.prog 40 #[.slice (some ⟨g, 0, none⟩) 2 2] w fun e w' => ∃ v, e = .returned v ∧ OwnA w.heap.size w' v (a ++ b) ∧ Below w.heap.size w w' := by
  have HG := Lib.hid growA_any
  have HA := Lib.hid ha
  have HB := Lib.hid hb
  obtain ⟨Aa, ca, rfl, -⟩ := ha
  obtain ⟨Ab, cb, rfl, -⟩ := hb
  have HK := Lib.hid hk
  have c0 := hk.cell 0
  have c1 := hk.cell 1
  simp at c0 c1
  clear hk
  go_enter Tryd.func40, Tryd.ntmps40
  go_wp2_with fail
  go_loop [3, 11] (fun s i => (i = .int .i64 0 ∧ s = .int .i64 0) ∨ (i = .int .i64 1 ∧ s = .int .i64 a.length) ∨ (i = .int .i64 2 ∧ s = .int .i64 (a.length + b.length : Nat))) (fun _ i => 2 - (intOf i).toNat)
  case atStart => exact .inl ⟨rfl, rfl⟩
  case round =>
    rcases hrel with ⟨rfl, rfl⟩ | ⟨rfl, rfl⟩ | ⟨rfl, rfl⟩
    · go_wp2_with fail
      go_round
      case rel => exact .inr (.inl ⟨rfl, by simp⟩)
      case measure => simp [intOf]
    · go_wp2_with fail
      go_round
      case rel => exact .inr (.inr ⟨rfl, by simp⟩)
      case measure => simp [intOf]
    · go_wp2_with (go_at_call 51; refine (HG.out (a.length + b.length) _ (by omega)).mono ?_; rintro e w1 ⟨v1, rfl, o1, b1⟩)
      have hs1 := b1.size
      have c0' := ((HK.out.below b1 HK.out.lt).cell 0)
      have c1' := ((HK.out.below b1 HK.out.lt).cell 1)
      simp at c0' c1'
      clear c0 c1
      go_wp2_with fail
      go_loopw [6, 27] (fun vv i wr => ∃ v, vv = v ∧ Below w.heap.size w wr ∧ ((i = .int .i64 0 ∧ Hid (OwnA w.heap.size wr v [])) ∨ (i = .int .i64 1 ∧ Hid (OwnA w.heap.size wr v a)) ∨ (i = .int .i64 2 ∧ Hid (OwnA w.heap.size wr v (a ++ b))))) (fun _ i _ => 2 - (intOf i).toNat)
      case atStart => exact ⟨_, rfl, b1, .inl ⟨rfl, o1⟩⟩
      case round =>
        obtain ⟨v, hv, bw, hr⟩ := hrel
        have hv2 := hv.symm
        clear hv
        subst hv2
        have hsw := bw.size
        have d0 := ((HK.out.below bw HK.out.lt).cell 0)
        have d1 := ((HK.out.below bw HK.out.lt).cell 1)
        simp at d0 d1
        rcases hr with ⟨rfl, ho⟩ | ⟨rfl, ho⟩ | ⟨rfl, ho⟩
        · obtain ⟨A2, c2, rfl⟩ := ho.out.slice
          have hR : Hid (ReadC wr (.slice Aa a.length ca) a) := HA.out.below bw
          go_wp2_with (at_builtin; refine push_attS rfl _ _ rfl w.heap.size (.slice A2 ([] : List Att).length c2) (.slice Aa a.length ca) [] a wr rfl ho.out rfl hR.out (by simp; omega) hsw ?_)
          intro v2 w2 o2 b2
          have o2' : Hid (OwnA w.heap.size w2 v2 a) := o2
          have b2' := bw.trans b2
          clear o2 b2
          go_wp2_with fail
          go_roundw
          case rel => exact ⟨_, rfl, b2', .inr (.inl ⟨rfl, o2'⟩)⟩
          case measure => simp [intOf]
        · obtain ⟨A2, c2, rfl⟩ := ho.out.slice
          have hR : Hid (ReadC wr (.slice Ab b.length cb) b) := HB.out.below bw
          go_wp2_with (at_builtin; refine push_attS rfl _ _ rfl w.heap.size (.slice A2 a.length c2) (.slice Ab b.length cb) a b wr rfl ho.out rfl hR.out (by omega) hsw ?_)
          intro v2 w2 o2 b2
          have o2' : Hid (OwnA w.heap.size w2 v2 (a ++ b)) := o2
          have b2' := bw.trans b2
          clear o2 b2
          go_wp2_with fail
          go_roundw
          case rel => exact ⟨_, rfl, b2', .inr (.inr ⟨rfl, o2'⟩)⟩
          case measure => simp [intOf]
        · go_wp2_with fail
          go_ret
          exact ⟨_, rfl, ho.out, bw⟩
end Go.Proofs.YtbkfmbkamocllaaDoor
