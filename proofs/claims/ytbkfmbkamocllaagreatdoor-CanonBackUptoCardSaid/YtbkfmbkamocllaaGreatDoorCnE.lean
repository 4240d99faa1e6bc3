/- Texts laid together: CnC CnD CnE -/
import Derived.Test.YtbkfmbkamocllaaGreatDoorCnW
import Derived.Test.YtbkfmbkamocllaaGreatDoorShelg
import Derived.Laws.AppendOwnNone
import Derived.Test.YtbkfmbkamocllaaGreatDoorCanA
import Derived.Test.YtbkfmbkamocllaaGreatDoorTextW
import Derived.Deep.QuietTactic
import Derived.BigQuiet
import Derived.Deep.RegionWith
import Derived.Test.YtbkfmbkamocllaaGreatDoorBld
/-
  slices.Grow, Concat at attributes; package canon: said.
-/
namespace Go.Proofs.YtbkfmbkamocllaaGreatDoor
open Go.RowKit Tk Tr Cn

theorem OwnA.readC {B : Nat} {w : World} {v : Value} {l : List Att} (h : OwnA B w v l) : ReadC w v l := by
  have h' : w.ownsRow B 45 2 v l.length (ats l) := h
  have hr := h.row.reads
  obtain ⟨A, cap, rfl, h2⟩ := hr
  refine ⟨A, cap, rfl, ?_, ?_, h2⟩
  · rcases h'.2 with ⟨e, h0⟩ | ⟨g, cap', cur, e, hg, hh, h1, _⟩
    · omega
    · injection e with e1 e2 e3
      omega
  · rcases h'.2 with ⟨e, h0⟩ | ⟨g, cap', cur, e, hg, hh, h1, h3, _⟩
    · injection e with e1 e2 e3
      subst e3
      exact ⟨Nat.zero_le _, fun _ => rfl⟩
    · injection e with e1 e2 e3
      subst e3
      exact ⟨h3, fun e => by rw [e] at e1; cases e1⟩
/-- An append of all of a slice that can be read. -/
theorem push_attS {ops : Array Oper} {rest : List Oper} {o : Oper} {a : Act} {Q : Exit → Act → World → Prop} (hgd : o.guard = none) (s x : Operand) (ho : o.op = .call { callee := .builtin .append, args := #[s, x], argTypes := #[30, 30] })
    (B : Nat) (v u : Value) (l m : List Att) (w0 : World) (hs : a.eval s = v) (hown : OwnA B w0 v l) (hx : a.eval x = u) (hu : ReadC w0 u m) (hn : l.length + m.length ≤ 1000000000000) (hB : B ≤ w0.heap.size)
    (h : ∀ v' w', OwnA B w' v' (l ++ m) → Below B w0 w' → wpList Tryz.prog ops Q rest (a.put o.dst v') w') : wpList Tryz.prog ops Q (o :: rest) a w0 := by
  obtain ⟨i0, hi, hz0, hz1, hz2⟩ := info_parts infoAtt
  have hown' : w0.ownsRow B 45 2 v l.length (ats l) := hown
  obtain ⟨A, cap, rfl, h1, ⟨h2, h3⟩, h4⟩ := hu
  cases A with
  | none =>
    obtain rfl := h3 rfl
    have hm : m = [] := List.eq_nil_of_length_eq_zero (by omega)
    subst hm
    refine wpList_append_own_none hgd s x 30 ho B 45 i0 2 Tryz.underlying30 hi v l.length (ats l) hs hown' hx (h _ _ ?_ (Below.refl _ _))
    rw [List.append_nil]
    exact hown
  | some ad =>
    have hc : ∀ j u, (ats m)[j]? = some u → w0.cell? (ad.add j) = some u := fun j u hj => by
      have hjl := (List.getElem?_eq_some_iff.1 hj).1
      rw [ats_length] at hjl
      obtain ⟨ad', e, _, hc⟩ := h4 (by omega)
      obtain rfl : ad = ad' := Option.some.inj e
      obtain ⟨b, hb⟩ : ∃ b, m[j / 2]? = some b := ⟨_, List.getElem?_eq_getElem (by omega)⟩
      obtain ⟨c0, c1⟩ := hc (j / 2) b hb
      obtain ⟨g0, g1⟩ := ats_get hb
      rcases Nat.mod_two_eq_zero_or_one j with hr | hr
      · rw [show j / 2 * 2 = j by omega] at c0 g0
        rw [g0] at hj
        rw [c0, hj]
      · rw [show j / 2 * 2 + 1 = j by omega] at g1
        rw [g1] at hj
        rw [← hj, ← c1, ← add_succ _ _ _ (by decide), show j / 2 * 2 + 1 = j by omega]
    refine wpList_append_own _ hgd s x 30 ho B 45 i0 _ 2 32 Tryz.underlying30 hi hz0 hz1 hz2 rfl (by decide) v l.length (ats l) hs hown' ad m.length cap (ats m) hx (ats_length m) hc (ats_cells m) ?_ (by omega) hB ?_
    · unfold maxLen; omega
    · intro v' w' hown2 hg _
      refine h v' w' ?_ ((Below.refl B w0).grown hg hB (fun j hj => (World.ownsRow.lt hown' j hj).1))
      unfold OwnA
      rw [ats_append, List.length_append]
      exact hown2
set_option maxHeartbeats 400000 in
theorem growA_any (n : Nat) (w : World) (hn : n ≤ 1000000000000) : Calls Tryz.prog 63 #[.slice none 0 0, .int .i64 n] w fun e w' => ∃ v, e = .returned v ∧ OwnA w.heap.size w' v [] ∧ Below w.heap.size w w' := by
  rcases Nat.eq_zero_or_pos n with rfl | h0
  · refine (Any8.slices_Grow_room Tryz.growAtt none 0 0 0 w (Nat.le_refl _) (by omega) (by omega) (by omega)).mono ?_
    rintro e w' ⟨rfl, rfl⟩
    exact ⟨_, rfl, OwnA.nil _ _, Below.refl _ _⟩
  · obtain ⟨i0, hi, hz0, hz1, hz2⟩ := info_parts infoAtt
    refine (Any8.slices_Grow_grow Tryz.growAtt i0 _ hi hz0 (by omega) none 0 0 n [] w (Nat.le_refl _) (by omega) (by rw [hz2]; omega) (by omega) (by simp) (fun _ => rfl) (fun a h => by cases h)).mono ?_
    rintro e w' ⟨rfl, rfl⟩
    refine ⟨_, rfl, ?_, ?_⟩
    · have h1 := grownCap_ge w (0 + n) 0 45
      have h2 := grownCap_le_maxLen w (0 + n) 0 45 (by unfold maxLen; omega)
      unfold OwnA
      rw [ats_nil]
      refine World.ownsRow_made (size := 2) w.drew _ _ (Nat.le_refl _) h2 ?_
      rw [Array.size_append, Array.size_append, size_zeroCells, size_zeroCells]
      show 0 + (0 + n - 0) * 2 + (grownCap w (0 + n) 0 45 - (0 + n)) * 2 = grownCap w (0 + n) 0 45 * 2
      omega
    · exact (Below.refl w.heap.size w).drew.alloc (Nat.le_refl _) _
set_option maxHeartbeats 2000000 in
/-- What Concat is handed: two lists, in a block. -/
theorem concatA_any (g : Nat) (va vb : Value) (a b : List Att) (w : World) (t : TypeId) (hk : Bk w g t #[va, vb]) (ha : ReadC w va a) (hb : ReadC w vb b) (hl : a.length ≤ 100000000000) (hm : b.length ≤ 100000000000) :
    Calls Tryz.prog 42 #[.slice (some ⟨g, 0, none⟩) 2 2] w fun e w' => ∃ v, e = .returned v ∧ OwnA w.heap.size w' v (a ++ b) ∧ Below w.heap.size w w' := by
  have HG := Lib.hid growA_any
  have HA := Lib.hid ha
  have HB := Lib.hid hb
  obtain ⟨Aa, ca, rfl, -⟩ := ha
  obtain ⟨Ab, cb, rfl, -⟩ := hb
  have HK := Lib.hid hk
  have c0 := hk.cell 0
  have c1 := hk.cell 1
  simp at c0 c1
  clear hk
  go_enter Tryz.func42, Tryz.ntmps42
  go_wp2_with fail
  go_loop [3, 11] (fun s i => (i = .int .i64 0 ∧ s = .int .i64 0) ∨ (i = .int .i64 1 ∧ s = .int .i64 a.length) ∨ (i = .int .i64 2 ∧ s = .int .i64 (a.length + b.length : Nat))) (fun _ i => 2 - (intOf i).toNat)
  case atStart => exact .inl ⟨rfl, rfl⟩
  case round =>
    rcases hrel with ⟨rfl, rfl⟩ | ⟨rfl, rfl⟩ | ⟨rfl, rfl⟩
    · go_wp2_with fail
      go_round
      case rel => exact .inr (.inl ⟨rfl, by simp⟩)
      case measure => simp [intOf]
    · go_wp2_with fail
      go_round
      case rel => exact .inr (.inr ⟨rfl, by simp⟩)
      case measure => simp [intOf]
    · go_wp2_with (go_at_call 63; refine (HG.out (a.length + b.length) _ (by omega)).mono ?_; rintro e w1 ⟨v1, rfl, o1, b1⟩)
      have hs1 := b1.size
      have c0' := ((HK.out.below b1 HK.out.lt).cell 0)
      have c1' := ((HK.out.below b1 HK.out.lt).cell 1)
      simp at c0' c1'
      clear c0 c1
      go_wp2_with fail
      go_loopw [6, 27] (fun vv i wr => ∃ v, vv = v ∧ Below w.heap.size w wr ∧ ((i = .int .i64 0 ∧ Hid (OwnA w.heap.size wr v [])) ∨ (i = .int .i64 1 ∧ Hid (OwnA w.heap.size wr v a)) ∨ (i = .int .i64 2 ∧ Hid (OwnA w.heap.size wr v (a ++ b))))) (fun _ i _ => 2 - (intOf i).toNat)
      case atStart => exact ⟨_, rfl, b1, .inl ⟨rfl, o1⟩⟩
      case round =>
        obtain ⟨v, hv, bw, hr⟩ := hrel
        have hv2 := hv.symm
        clear hv
        subst hv2
        have hsw := bw.size
        have d0 := ((HK.out.below bw HK.out.lt).cell 0)
        have d1 := ((HK.out.below bw HK.out.lt).cell 1)
        simp at d0 d1
        rcases hr with ⟨rfl, ho⟩ | ⟨rfl, ho⟩ | ⟨rfl, ho⟩
        · obtain ⟨A2, c2, rfl⟩ := ho.out.slice
          have hR : Hid (ReadC wr (.slice Aa a.length ca) a) := HA.out.below bw
          go_wp2_with (at_builtin; refine push_attS rfl _ _ rfl w.heap.size (.slice A2 ([] : List Att).length c2) (.slice Aa a.length ca) [] a wr rfl ho.out rfl hR.out (by simp; omega) hsw ?_)
          intro v2 w2 o2 b2
          have o2' : Hid (OwnA w.heap.size w2 v2 a) := o2
          have b2' := bw.trans b2
          clear o2 b2
          go_wp2_with fail
          go_roundw
          case rel => exact ⟨_, rfl, b2', .inr (.inl ⟨rfl, o2'⟩)⟩
          case measure => simp [intOf]
        · obtain ⟨A2, c2, rfl⟩ := ho.out.slice
          have hR : Hid (ReadC wr (.slice Ab b.length cb) b) := HB.out.below bw
          go_wp2_with (at_builtin; refine push_attS rfl _ _ rfl w.heap.size (.slice A2 a.length c2) (.slice Ab b.length cb) a b wr rfl ho.out rfl hR.out (by omega) hsw ?_)
          intro v2 w2 o2 b2
          have o2' : Hid (OwnA w.heap.size w2 v2 (a ++ b)) := o2
          have b2' := bw.trans b2
          clear o2 b2
          go_wp2_with fail
          go_roundw
          case rel => exact ⟨_, rfl, b2', .inr (.inr ⟨rfl, o2'⟩)⟩
          case measure => simp [intOf]
        · go_wp2_with fail
          go_ret
          exact ⟨_, rfl, ho.out, bw⟩
end Go.Proofs.YtbkfmbkamocllaaGreatDoor
/-
  package canon: the attributes of a node with its namespace ahead (said), an attribute told, attributes told one behind the other.
-/
namespace Go.Proofs.YtbkfmbkamocllaaGreatDoor
open Go.RowKit Tk Tr Cn

/-- The namespace around a node that stands in p. -/
def spA (ns : List Nd) (p : Int) : List UInt8 := if 0 ≤ p then (match ns[p.toNat]? with | some y => y.2.2.2.1 | none => []) else []
theorem RowA.readC {w : World} {u : Value} {l : List Att} (h : RowA w u l) : ReadC w u l := by
  have hr := h.reads
  obtain ⟨A, cap, rfl, _, h1, h2, h3⟩ := h
  obtain ⟨A', cap', e, h4⟩ := hr
  injection e with e1 e2 e3
  subst e1 e3
  exact ⟨A, cap, rfl, h1, ⟨h2, h3⟩, h4⟩
/-- one attribute, written out, and something made behind it -/
theorem one_attr (w : World) (n v : List UInt8) (o : Obj) : ReadC ((w.alloc (.cells #[.string (bts n), .string (bts v)] 45)).alloc o) (.slice (some ⟨w.heap.size, 0, none⟩) 1 1) [(n, v)] := by
  have hk := (Bk.new w 45 #[.string (bts n), .string (bts v)]).alloc o
  refine ⟨_, 1, rfl, Nat.le_refl _, ⟨by decide, fun e => by cases e⟩, fun _ => ⟨_, rfl, by simp; omega, fun i a hi => ?_⟩⟩
  match i, hi with
  | 0, hi =>
    obtain rfl : (n, v) = a := by simpa using hi
    rw [Nat.zero_mul]
    exact ⟨hk.cell 0, hk.cell 1⟩
set_option maxHeartbeats 4000000 in
set_option maxRecDepth 100000 in
theorem said_any (v : Value) (ns : List Nd) (i : Nat) (x : Nd) (w : World) (hv : ReadM w v ns) (hx : ns[i]? = some x) (hp : x.1 < ns.length) (hl : ns.length ≤ 1000000) (ha : x.2.2.2.2.1.length ≤ 1000000) :
    Calls Tryz.prog 19 #[v, .int .i64 i] w fun e w' => ∃ u, e = .returned u ∧ ReadC w' u (allA x (spA ns x.1)) ∧ Below w.heap.size w w' := by
  obtain ⟨A, cap, rfl, hcap, hmax, hc⟩ := hv
  have hi := (List.getElem?_eq_some_iff.1 hx).1
  obtain ⟨ad, rfl, hlb, hcell⟩ := hc (by omega)
  have HX := Lib.hid hcell
  obtain ⟨u, hat, hua⟩ := hcell i x hx
  have HU := Lib.hid hua
  obtain ⟨k0, k1, k2, k3, k4, k5⟩ := hat
  obtain ⟨UA, ucap, rfl, -⟩ := hua
  obtain ⟨un, hun⟩ : ∃ un, x.2.2.2.2.1.length = un := ⟨_, rfl⟩
  have hq := bts_eqC x.2.2.2.1 (spA ns x.1)
  have HAA : Hid (allA x (spA ns x.1) = (if x.2.2.2.1 = spA ns x.1 then [] else [(xmlnsL, x.2.2.2.1)]) ++ x.2.2.2.2.1) := rfl
  have HSP : Hid (spA ns x.1 = if 0 ≤ x.1 then (match ns[x.1.toNat]? with | some y => y.2.2.2.1 | none => []) else []) := rfl
  obtain ⟨n, hn⟩ : ∃ n, ns.length = n := ⟨_, rfl⟩
  have HN := Lib.hid hn
  rw [hn] at hcap hp hl hi ⊢
  rw [hun] at k4 HU ha
  obtain ⟨a0, h0⟩ : ∃ a : Int, x.1 = a := ⟨_, rfl⟩
  obtain ⟨a1, h1⟩ : ∃ a : Int, x.2.1 = a := ⟨_, rfl⟩
  obtain ⟨a2, h2⟩ : ∃ a, bts x.2.2.1 = a := ⟨_, rfl⟩
  obtain ⟨a3, h3⟩ : ∃ a, bts x.2.2.2.1 = a := ⟨_, rfl⟩
  obtain ⟨a5, h5⟩ : ∃ a, bts x.2.2.2.2.2 = a := ⟨_, rfl⟩
  rw [h0] at k0 HSP hp
  rw [h1] at k1
  rw [h2] at k2
  rw [h3] at k3 hq
  rw [h5] at k5
  have H3 := Lib.hid h3
  have H0 := Lib.hid h0
  obtain ⟨Y, hY⟩ : ∃ Y, w.heap.size = Y := ⟨_, rfl⟩
  obtain ⟨W4, hW4⟩ : ∃ W, w.alloc (.cells #[.int .i64 a0, .int .i64 a1, .string a2, .string a3, .slice UA un ucap, .string a5] 32) = W := ⟨_, rfl⟩
  have B4 : Hid (Below w.heap.size w W4) := by rw [← hW4]; exact (Below.refl _ _).alloc (Nat.le_refl _) _
  have hk : Bk W4 Y 32 #[.int .i64 a0, .int .i64 a1, .string a2, .string a3, .slice UA un ucap, .string a5] := by rw [← hW4, ← hY]; exact Bk.new _ _ _
  have y0 : W4.cell? ⟨Y, 0, none⟩ = some (.int .i64 a0) := hk.cell 0
  have y3 : W4.cell? ⟨Y, 3, none⟩ = some (.string a3) := hk.cell 3
  have y4 : W4.cell? ⟨Y, 4, none⟩ = some (.slice UA un ucap) := hk.cell 4
  have HW4 := Lib.hid hW4
  have HYE := Lib.hid hY
  have HK := Lib.hid hk
  have HCO := Lib.hid (fun (g : Nat) (va : Value) (W : World) (hkk : Bk W g 30 #[va, .slice UA un ucap]) (h1 : ReadC W va [(xmlnsL, x.2.2.2.1)]) (h2 : Below w.heap.size w W) =>
    concatA_any g va (.slice UA un ucap) [(xmlnsL, x.2.2.2.1)] x.2.2.2.2.1 W _ hkk h1 (HU.out.below h2) (by simp) (by omega))
  clear hc hcell hx hun h0 h1 h2 h3 h5 hY hW4 hk hn hmax
  by_cases hneg : 0 ≤ a0
  · obtain ⟨p, rfl⟩ : ∃ p : Nat, a0 = p := ⟨a0.toNat, by omega⟩
    obtain ⟨y, hy⟩ : ∃ y, ns[p]? = some y := ⟨_, List.getElem?_eq_getElem (by have := HN.out; omega)⟩
    have hs : spA ns x.1 = y.2.2.2.1 := by rw [H0.out, HSP.out, if_pos hneg, Int.toNat_natCast, hy]
    obtain ⟨uy, haty, -⟩ := HX.out p y hy
    obtain ⟨-, -, -, e3, -, -⟩ := haty.of (w' := W4) (B4.out.block _ (by rw [addBlock]; exact hlb))
    have g0 : decide ((p : Int) ≥ 0) = true := decide_eq_true (by omega)
    rw [hs] at hq
    obtain ⟨s3, hs3⟩ : ∃ a, bts y.2.2.2.1 = a := ⟨_, rfl⟩
    rw [hs3] at hq e3
    clear hneg hy haty hs3
    by_cases heq : x.2.2.2.1 = spA ns x.1
    · have gq : (a3.toList == s3.toList) = true := by rw [hq]; exact decide_eq_true (heq.trans hs)
      clear hs
      have HR : Hid (allA x (spA ns x.1) = x.2.2.2.2.1) := by unfold Hid; rw [HAA.out, if_pos heq]; rfl
      clear heq hq
      go_enter Tryz.func19, Tryz.ntmps19
      go_upto_region 2 with fail
      rw [HW4.out, HYE.out]
      clear k0 k1 k2 k3 k4 k5
      go_wp2_with fail
      go_ret
      exact ⟨_, rfl, by rw [HR.out]; exact HU.out.below B4.out, B4.out⟩
    · have gq : (a3.toList == s3.toList) = false := by rw [hq]; exact decide_eq_false (fun e => heq (e.trans hs.symm))
      clear hs
      have HR : Hid (allA x (spA ns x.1) = [(xmlnsL, x.2.2.2.1)] ++ x.2.2.2.2.1) := by unfold Hid; rw [HAA.out, if_neg heq]
      have HK6 := Lib.hid (Bk.new1 W4 (.cells #[.string ⟨#[120, 109, 108, 110, 115]⟩, .string a3] 45) 30 #[.slice (some ⟨W4.heap.size, 0, none⟩) 1 1, .slice UA un ucap])
      have HR6 : Hid (ReadC ((W4.alloc (.cells #[.string ⟨#[120, 109, 108, 110, 115]⟩, .string a3] 45)).alloc (.cells #[.slice (some ⟨W4.heap.size, 0, none⟩) 1 1, .slice UA un ucap] 30)) (.slice (some ⟨W4.heap.size, 0, none⟩) 1 1) [(xmlnsL, x.2.2.2.1)]) := by rw [← H3.out]; exact one_attr W4 xmlnsL x.2.2.2.1 _
      have HB6 : Hid (Below w.heap.size w ((W4.alloc (.cells #[.string ⟨#[120, 109, 108, 110, 115]⟩, .string a3] 45)).alloc (.cells #[.slice (some ⟨W4.heap.size, 0, none⟩) 1 1, .slice UA un ucap] 30))) := (B4.out.alloc B4.out.size _).alloc (by simp; have := B4.out.size; omega) _
      have y4b : (W4.alloc (.cells #[.string ⟨#[120, 109, 108, 110, 115]⟩, .string a3] 45)).cell? ⟨Y, 4, none⟩ = some (.slice UA un ucap) := (HK.out.alloc (.cells #[.string ⟨#[120, 109, 108, 110, 115]⟩, .string a3] 45)).cell 4
      clear heq hq
      go_enter Tryz.func19, Tryz.ntmps19
      go_upto_region 2 with fail
      rw [HW4.out, HYE.out]
      clear k0 k1 k2 k3 k4 k5
      go_wp2_with (go_at_call 42; refine (HCO.out _ _ _ HK6.out HR6.out HB6.out).mono ?_; rintro e w7 ⟨v7, rfl, o7, b7⟩; obtain ⟨A7, c7, rfl⟩ := o7.slice)
      go_ret
      exact ⟨_, rfl, by rw [HR.out]; exact o7.readC, HB6.out.trans (b7.mono HB6.out.size)⟩
  · have hs : spA ns x.1 = [] := by rw [H0.out, HSP.out, if_neg hneg]
    have g0 : decide (a0 ≥ 0) = false := decide_eq_false (by omega)
    have hem : a3.toList.isEmpty = decide (x.2.2.2.1 = []) := by rw [← H3.out, bts_empty]
    clear hneg hq
    have hq : True := trivial
    by_cases heq : x.2.2.2.1 = spA ns x.1
    · have gq : a3.toList.isEmpty = true := by rw [hem]; exact decide_eq_true (heq.trans hs)
      clear hs hem
      have HR : Hid (allA x (spA ns x.1) = x.2.2.2.2.1) := by unfold Hid; rw [HAA.out, if_pos heq]; rfl
      clear heq hq
      go_enter Tryz.func19, Tryz.ntmps19
      go_upto_region 2 with fail
      rw [HW4.out, HYE.out]
      clear k0 k1 k2 k3 k4 k5
      go_wp2_with fail
      go_ret
      exact ⟨_, rfl, by rw [HR.out]; exact HU.out.below B4.out, B4.out⟩
    · have gq : a3.toList.isEmpty = false := by rw [hem]; exact decide_eq_false (fun e => heq (e.trans hs.symm))
      clear hs hem
      have HR : Hid (allA x (spA ns x.1) = [(xmlnsL, x.2.2.2.1)] ++ x.2.2.2.2.1) := by unfold Hid; rw [HAA.out, if_neg heq]
      have HK6 := Lib.hid (Bk.new1 W4 (.cells #[.string ⟨#[120, 109, 108, 110, 115]⟩, .string a3] 45) 30 #[.slice (some ⟨W4.heap.size, 0, none⟩) 1 1, .slice UA un ucap])
      have HR6 : Hid (ReadC ((W4.alloc (.cells #[.string ⟨#[120, 109, 108, 110, 115]⟩, .string a3] 45)).alloc (.cells #[.slice (some ⟨W4.heap.size, 0, none⟩) 1 1, .slice UA un ucap] 30)) (.slice (some ⟨W4.heap.size, 0, none⟩) 1 1) [(xmlnsL, x.2.2.2.1)]) := by rw [← H3.out]; exact one_attr W4 xmlnsL x.2.2.2.1 _
      have HB6 : Hid (Below w.heap.size w ((W4.alloc (.cells #[.string ⟨#[120, 109, 108, 110, 115]⟩, .string a3] 45)).alloc (.cells #[.slice (some ⟨W4.heap.size, 0, none⟩) 1 1, .slice UA un ucap] 30))) := (B4.out.alloc B4.out.size _).alloc (by simp; have := B4.out.size; omega) _
      have y4b : (W4.alloc (.cells #[.string ⟨#[120, 109, 108, 110, 115]⟩, .string a3] 45)).cell? ⟨Y, 4, none⟩ = some (.slice UA un ucap) := (HK.out.alloc (.cells #[.string ⟨#[120, 109, 108, 110, 115]⟩, .string a3] 45)).cell 4
      clear heq hq
      go_enter Tryz.func19, Tryz.ntmps19
      go_upto_region 2 with fail
      rw [HW4.out, HYE.out]
      clear k0 k1 k2 k3 k4 k5
      go_wp2_with (go_at_call 42; refine (HCO.out _ _ _ HK6.out HR6.out HB6.out).mono ?_; rintro e w7 ⟨v7, rfl, o7, b7⟩; obtain ⟨A7, c7, rfl⟩ := o7.slice)
      go_ret
      exact ⟨_, rfl, by rw [HR.out]; exact o7.readC, HB6.out.trans (b7.mono HB6.out.size)⟩
end Go.Proofs.YtbkfmbkamocllaaGreatDoor
/-
  package canon: an attribute told, attributes told one behind the other.
-/
namespace Go.Proofs.YtbkfmbkamocllaaGreatDoor
open Go.RowKit Tk Tr Cn

theorem attr_cat (n v : List UInt8) : (⟨#[32]⟩ ++ bts n ++ ⟨#[61, 39]⟩ ++ bts (Tx.esc v) ++ ⟨#[39]⟩ : ByteArray) = bts (attrT n v) := by
  apply ByteArray.ext
  apply Array.ext'
  simp [attrT]
set_option maxHeartbeats 4000000 in
set_option maxRecDepth 100000 in
theorem attribute_any (a : Att) (w : World) (h1 : a.1.length ≤ 1000000000) (h2 : a.2.length ≤ 1000000000) :
    Calls Tryz.prog 20 #[agA a] w fun e w' => e = .returned (.string (bts (attrT a.1 a.2))) ∧ Below w.heap.size w w' := by
  have hcat := attr_cat a.1 a.2
  have hes := Tx.esc_len a.2
  obtain ⟨Y, hY⟩ : ∃ Y, w.heap.size = Y := ⟨_, rfl⟩
  obtain ⟨W1, hW1⟩ : ∃ W, w.alloc (.cells #[.string (bts a.1), .string (bts a.2)] 45) = W := ⟨_, rfl⟩
  have B1 : Hid (Below w.heap.size w W1) := by rw [← hW1]; exact (Below.refl _ _).alloc (Nat.le_refl _) _
  have hk : Bk W1 Y 45 #[.string (bts a.1), .string (bts a.2)] := by rw [← hW1, ← hY]; exact Bk.new _ _ _
  have y0 : W1.cell? ⟨Y, 0, none⟩ = some (.string (bts a.1)) := hk.cell 0
  have y1 : W1.cell? ⟨Y, 1, none⟩ = some (.string (bts a.2)) := hk.cell 1
  have HYL : Hid (Y < W1.heap.size) := hk.lt
  have HT := Lib.hid (fun (W : World) (h : Below W1.heap.size W1 W) => (escText_any (bts a.2) W (by rw [bts_size]; omega)).mono (fun e w' (hh : e = .returned (.string ⟨(Tx.esc (bts a.2).data.toList).toArray⟩) ∧ Below W.heap.size W w') => (⟨hh.1, h.trans (hh.2.mono h.size)⟩ : e = .returned (.string (bts (Tx.esc a.2))) ∧ Below W1.heap.size W1 w')))
  have e1 : (bts a.1).size ≤ 1000000000 := by rw [bts_size]; exact h1
  have e2 : (bts (Tx.esc a.2)).size ≤ 6000000000 := by rw [bts_size]; omega
  obtain ⟨n0, hn0⟩ : ∃ x, bts a.1 = x := ⟨_, rfl⟩
  obtain ⟨v0, hv0⟩ : ∃ x, bts a.2 = x := ⟨_, rfl⟩
  obtain ⟨E, hE⟩ : ∃ x, bts (Tx.esc a.2) = x := ⟨_, rfl⟩
  have HW1 := Lib.hid hW1
  have HYE := Lib.hid hY
  unfold agA
  rw [hn0] at y0 hcat e1 HW1 ⊢
  rw [hv0] at y1 HT HW1 ⊢
  rw [hE] at HT hcat e2
  have HC := Lib.hid hcat
  have HL := Lib.hid (fun (W : World) (h : Below W1.heap.size W1 W) i => h.cell (p := ⟨Y, i, none⟩) HYL.out)
  clear hcat hes hY hW1 hk hn0 hv0 hE h1 h2
  go_enter Tryz.func20, Tryz.ntmps20
  go_upto_region 1 with fail
  rw [HW1.out, HYE.out]
  go_region_with ((go_at_call 21; refine (HT.out _ ?_).mono ?_; exact ⟨rfl, rfl, rfl, Nat.le_refl _, fun _ _ => rfl⟩; rintro e w2 ⟨rfl, b2⟩; have r0 := (HL.out _ b2 0).trans y0))
  all_goals
    go_wp2_with fail
    go_ret
    exact ⟨by rw [← HC.out]; rfl, B1.out.trans (b2.mono B1.out.size)⟩
theorem attrs_take {l : List Att} {k : Nat} {a : Att} (h : l[k]? = some a) : attrsT (l.take (k + 1)) = attrsT (l.take k) ++ attrT a.1 a.2 := by
  unfold attrsT
  rw [List.take_add_one, h, List.flatMap_append]
  simp
theorem ownA_take (l : List Att) (k : Nat) : ownA (l.take k) ≤ ownA l := by
  have h := ownA_append (l.take k) (l.drop k)
  rw [List.take_append_drop] at h
  omega
set_option maxHeartbeats 4000000 in
set_option maxRecDepth 100000 in
theorem writtenA_any (v : Value) (l : List Att) (w : World) (hv : ReadC w v l) (hs : ownA l ≤ 1000000000) :
    Calls Tryz.prog 18 #[v, .func (.func 20) #[] #[]] w fun e w' => e = .returned (.string (bts (attrsT l))) ∧ Below w.heap.size w w' := by
  have hl : l.length ≤ 1000000000 := Nat.le_trans (ownA_count l) hs
  obtain ⟨A, cap, rfl, -, -, hx⟩ := hv
  have HX := Lib.hid hx
  have HS := Lib.hid hs
  have eg : ∀ args w, (callFunc 20 args).run Tryz.prog w = .ok (.enter 20 args) w := Go.Proofs.enters_of Tryz.func20 (by kernel_rfl) rfl
  obtain ⟨n, hn⟩ : ∃ n, l.length = n := ⟨_, rfl⟩
  have HN := Lib.hid hn
  rw [hn] at hl HX ⊢
  obtain ⟨b, hb⟩ : ∃ b, w.heap.size = b := ⟨_, rfl⟩
  obtain ⟨W1, hW1⟩ : ∃ W, w.alloc (.cells #[.pointer none, .slice none 0 0] 85) = W := ⟨_, rfl⟩
  have B1 : Hid (Below b w W1) := by rw [← hW1, ← hb]; exact (Below.refl _ _).alloc (Nat.le_refl _) _
  have D1 : Hid (Bld b (b + 1) [] W1) := by rw [← hW1, ← hb]; exact Bld.start w
  have HW1 := Lib.hid hW1
  have HBE := Lib.hid hb
  clear hx hs hn hb hW1
  go_enter Tryz.func18, Tryz.ntmps18
  go_upto_region 2 with fail
  rw [HW1.out, HBE.out]
  go_wp2_with fail
  go_loopw [10] (fun c wr => ∃ (k : Nat), k ≤ n ∧ c = .int .i64 k ∧ Hid (Bld b (b + 1) (attrsT (l.take k)) wr) ∧ Hid (Below b w wr)) (fun c _ => n - (intOf c).toNat)
  case atStart => exact ⟨0, Nat.zero_le _, rfl, D1.out, B1.out⟩
  case round =>
    obtain ⟨k, hk, rfl, hd, hbw⟩ := hrel
    by_cases hlt : k < n
    · obtain ⟨ad, rfl, hlb, hc⟩ := HX.out (by omega)
      rw [HBE.out] at hlb
      obtain ⟨a, ha⟩ : ∃ a, l[k]? = some a := ⟨_, List.getElem?_eq_getElem (by have := HN.out; omega)⟩
      obtain ⟨c0, c1⟩ := hc k a ha
      rw [← hbw.out.cell (p := ad.add (k * 2)) (by rw [addBlock]; exact hlb)] at c0
      rw [← hbw.out.cell (p := ⟨(ad.add (k * 2)).block, (ad.add (k * 2)).off + 1, none⟩) (by show (ad.add (k * 2)).block < _; rw [addBlock]; exact hlb)] at c1
      obtain ⟨m1, m2⟩ := ownA_mem (List.mem_of_getElem? ha)
      have HAT := Lib.hid (attrs_take ha)
      obtain ⟨Y5, hY5⟩ : ∃ Y, wr.heap.size = Y := ⟨_, rfl⟩
      obtain ⟨W5, hW5⟩ : ∃ W, wr.alloc (.cells #[.string (bts a.1), .string (bts a.2)] 45) = W := ⟨_, rfl⟩
      have hw5 : Below wr.heap.size wr W5 := by rw [← hW5]; exact (Below.refl _ _).alloc (Nat.le_refl _) _
      have q0 : W5.cell? ⟨Y5, 0, none⟩ = some (.string (bts a.1)) := by rw [← hW5, ← hY5]; exact (Bk.new _ _ _).cell 0
      have q1 : W5.cell? ⟨Y5, 1, none⟩ = some (.string (bts a.2)) := by rw [← hW5, ← hY5]; exact (Bk.new _ _ _).cell 1
      have hbs : b ≤ wr.heap.size := by have := hd.out.lt; omega
      have B5 : Hid (Below b w W5) := hbw.out.trans (hw5.mono hbs)
      have D5 : Hid (Bld b (b + 1) (attrsT (l.take k)) W5) := hd.out.below hw5
      have HQ := Lib.hid (attribute_any a W5 (by have := HS.out; omega) (by have := HS.out; omega))
      have HLN : Hid ((attrsT (l.take k)).length + (bts (attrT a.1 a.2)).size ≤ 140737488355328 - 4096) := by
        unfold Hid
        have h1 := attrsT_len (l.take (k + 1))
        have h2 := ownA_take l (k + 1)
        have h3 := HS.out
        rw [attrs_take ha, List.length_append] at h1
        rw [bts_size]
        omega
      have HBS := Lib.hid (fun (W : World) (h : Below W5.heap.size W5 W) => bld_string b (b + 1) (attrsT (l.take k)) (bts (attrT a.1 a.2)) W (D5.out.below h) HLN.out)
      have HD2 : Hid ((bts (attrT a.1 a.2)).data.toList = attrT a.1 a.2) := rfl
      have HW5 := Lib.hid hW5
      have HY5 := Lib.hid hY5
      unfold agA at HQ
      obtain ⟨y0, h0⟩ : ∃ y, bts a.1 = y := ⟨_, rfl⟩
      obtain ⟨y1, h1⟩ : ∃ y, bts a.2 = y := ⟨_, rfl⟩
      obtain ⟨E, hE⟩ : ∃ y, bts (attrT a.1 a.2) = y := ⟨_, rfl⟩
      rw [h0] at c0 q0 HQ HW5
      rw [h1] at c1 q1 HQ HW5
      rw [hE] at HQ HBS HD2
      have hb5 := B5.out.size
      have hW5s : Hid (b ≤ W5.heap.size) := Nat.le_trans hbs hw5.size
      clear hc ha m1 m2 hY5 hW5 hw5 hbs h0 h1 hE hd hbw HLN D5 hb5
      go_upto_region 5 with fail
      rw [HW5.out, HY5.out]
      clear c0 c1
      go_wp2_with fail
      refine HQ.out.mono ?_
      rintro e w6 ⟨rfl, b6⟩
      go_wp2_with (go_at_call 40; refine (HBS.out _ b6).mono ?_; rintro e w7 ⟨rfl, bl7, t7⟩)
      have B7 : Hid (Below b w w7) := (B5.out.trans (b6.mono hW5s.out)).trans t7.below
      have D7 : Hid (Bld b (b + 1) (attrsT (l.take (k + 1))) w7) := by unfold Hid; rw [HAT.out, ← HD2.out]; exact bl7
      go_roundw
      case rel => exact ⟨k + 1, by omega, by go_num, D7, B7⟩
      case measure => simp [intOf]; omega
    · have HT : Hid (l.take k = l) := by unfold Hid; rw [List.take_of_length_le (by have := HN.out; omega)]
      have hd2 := hd.out
      rw [HT.out] at hd2
      have HSt := Lib.hid (bld_String b (b + 1) _ wr hd2)
      clear hd2
      go_wp2_with (go_at_call 41; refine HSt.out.mono ?_; rintro e w5 ⟨rfl, b5⟩)
      go_ret
      rw [HBE.out]
      exact ⟨rfl, hbw.out.trans b5⟩
end Go.Proofs.YtbkfmbkamocllaaGreatDoor
