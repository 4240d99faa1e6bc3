/- Texts laid together: VRn VRe -/
import Derived.Test.YtphopnfnjnieaaaGreatDoorVRm
import Derived.Test.YtphopnfnjnieaaaGreatDoorVOwn
import Derived.Test.YtphopnfnjnieaaaGreatDoorVRd
import Derived.Test.YtphopnfnjnieaaaGreatDoorVRq
import Derived.Test.YtphopnfnjnieaaaGreatDoorRefFo
/-
  The document's side of package vcard: cardexref08.ParseProp.
-/
namespace Go.Proofs.YtphopnfnjnieaaaGreatDoor
open Go.RowKit Vc

theorem OwnA.apart {B g : Nat} {w : World} {v : Value} {l : List Att} {t : TypeId} {cs : Array Value} (h : OwnA B w v l) (hb : Bk w g t cs) (ht : t ≠ 38) : some g ≠ v.ownBlock := by
  have h' : w.ownsRow B 38 2 v l.length (ats l) := h
  rcases h'.2 with ⟨rfl, _⟩ | ⟨g', cap, cur, rfl, _, hh, _⟩
  · intro e; cases e
  · intro e
    have e2 : g = g' := Option.some.inj e
    exact Bk.type_ne hb hh ht e2
/-- What the document's ParseProp answers. -/
def PropD (B : Nat) (l : List UInt8) (e : Ending) (w' : World) : Prop :=
  (∃ (p : Pr) (u : Value), e = .returned (.tuple #[agP p u, .bool true]) ∧ propL l = some p ∧ OwnA B w' u p.2.2.1) ∨ (propL l = none ∧ e = .returned (.tuple #[agZ, .bool false]))
theorem propD_no {l r : List UInt8} {n g : List UInt8} (hh : headL l = (g, n, r)) (h : n = [] ∨ (n ≠ [] ∧ ∀ ps v, parsF (l.length + 1) [] r ≠ some (ps, 58 :: v))) : propL l = none := by
  unfold propL
  rw [hh]
  rcases h with h | ⟨_, h⟩
  · rw [if_pos h]
  · split
    · rfl
    · split
      · rename_i ps v e
        exact absurd e (h ps v)
      · rfl
theorem propD_yes {l r v : List UInt8} {n g : List UInt8} {ps : List Par} (hh : headL l = (g, n, r)) (h : n ≠ []) (hp : parsF (l.length + 1) [] r = some (ps, 58 :: v)) : propL l = some (g, n, ps, v) := by
  unfold propL
  rw [hh, if_neg h]
  simp only [hp]
set_option maxHeartbeats 8000000 in
set_option maxRecDepth 100000 in
theorem parseProp_any (s : ByteArray) (w : World) (hs : s.size ≤ 1000000000) :
    Calls Tryz.prog 20 #[.string s] w fun e w' => PropD w.heap.size s.data.toList e w' ∧ Below w.heap.size w w' := by
  obtain ⟨l, hl⟩ : ∃ l, s.data.toList = l := ⟨_, rfl⟩
  have hsz := Lib.size_eq s
  have hw := fun i W (h : i ≤ s.size) => wordAt_any s i W h (by omega)
  have hpm := fun i W (h : i ≤ s.size) => param_any s i W h hs
  have hgs := fun k (h : k < s.size) => get_sign s k h
  have hcut : ∀ a b, s.extract a b = bts ((l.drop a).take (b - a)) := fun a b => by rw [← hl]; exact bts_of mid_cut
  rw [hl] at hsz hw hgs hpm ⊢
  have HW := Lib.hid hw
  have HPM := Lib.hid hpm
  have HSZ := Lib.hid hsz
  have HGS := Lib.hid hgs
  have HCUT := Lib.hid hcut
  have HU := Lib.hid (fun (b : ByteArray) (W : World) (h : b.size ≤ 1000000000000) => rupper_any b W h)
  obtain ⟨i0, hi0⟩ : ∃ i, reach l 0 = i := ⟨_, rfl⟩
  have hi0l : i0 ≤ s.size := by rw [← hi0, reach_far, hsz]; exact far_le (Nat.zero_le _)
  have HI0 := Lib.hid hi0
  have HW0 : Hid (∀ W : World, Calls Tryz.prog 42 #[.string s, .int .i64 0] W fun e w' => e = .returned (.int .i64 (i0 : Nat)) ∧ w' = W) := fun W => by
    have := hw 0 W (Nat.zero_le _)
    rwa [hi0] at this
  clear hsz hw hgs hcut hpm hi0 hl
  obtain ⟨A0, hA0⟩ : ∃ A, w.heap.size = A := ⟨_, rfl⟩
  have HA0 : Hid (w.heap.size ≤ A0) := by unfold Hid; omega
  by_cases hdot : 0 < i0 ∧ l[i0]? = some 46
  · have h0 : 0 < i0 := hdot.1
    have hil : i0 < s.size := by have := (List.getElem?_eq_some_iff.1 hdot.2).1; have := HSZ.out; omega
    have hz46 : ((((s[i0]'hil).toNat : Nat)) : Int) = 46 := by
      have := HGS.out i0 hil
      rw [hdot.2] at this
      injection this with this
      rw [← this]
      rfl
    obtain ⟨r0, hk⟩ : ∃ k, reach l (i0 + 1) = k := ⟨_, rfl⟩
    have hr1 : i0 + 1 ≤ r0 := by rw [← hk, reach_far]; exact far_ge
    have hr0 : r0 ≤ s.size := by rw [← hk, reach_far, HSZ.out]; exact far_le (by have := HSZ.out; omega)
    obtain ⟨g, hgg⟩ : ∃ g, l.take i0 = g := ⟨_, rfl⟩
    obtain ⟨n, hn⟩ : ∃ n, up ((l.drop (i0 + 1)).take (r0 - (i0 + 1))) = n := ⟨_, rfl⟩
    have HH : Hid (headL l = (g, n, l.drop r0)) := by unfold Hid; rw [head_dot HI0.out hdot.1 hdot.2 hk, hgg, hn]
    have HW2 : Hid (∀ W : World, Calls Tryz.prog 42 #[.string s, .int .i64 ((i0 : Int) + 1)] W fun e w' => e = .returned (.int .i64 (r0 : Nat)) ∧ w' = W) := fun W => by
      have := HW.out (i0 + 1) W (by omega)
      rw [hk] at this
      exact this
    have HCG : Hid (s.extract 0 i0 = bts g) := by unfold Hid; rw [HCUT.out, List.drop_zero, Nat.sub_zero, hgg]
    have HXS : Hid ((s.extract (i0 + 1) r0).size ≤ 1000000000000) := by unfold Hid; rw [ByteArray.size_extract]; omega
    have HCN : Hid (bts (up (s.extract (i0 + 1) r0).data.toList) = bts n) := by unfold Hid; rw [HCUT.out]; show bts (up ((l.drop (i0 + 1)).take (r0 - (i0 + 1)))) = _; rw [hn]
    obtain ⟨gb, hgb⟩ : ∃ b, bts g = b := ⟨_, rfl⟩
    obtain ⟨nb, hnb⟩ : ∃ b, bts n = b := ⟨_, rfl⟩
    have HGB := Lib.hid hgb
    have HNB := Lib.hid hnb
    obtain ⟨eb, heb⟩ : ∃ eb, nb.toList.isEmpty = eb := ⟨_, rfl⟩
    have HEB : Hid (eb = decide (n = [])) := by
      unfold Hid
      rw [← heb, ← hnb, ByteArray.toList_mk]
      cases n <;> rfl
    rw [hgb] at HCG
    rw [hnb] at HCN
    clear hdot hk hgg hn hgb hnb
    go_enter Tryz.func20, Tryz.ntmps20
    go_wp2_with fail
    refine (HW0.out _).mono ?_
    rintro e w1 ⟨rfl, rfl⟩
    obtain ⟨W1, hW1⟩ : ∃ W1, (w.alloc (.cells #[.string ⟨#[]⟩, .string ⟨#[]⟩, .slice none 0 0, .string ⟨#[]⟩] 41)).alloc (.cells #[.string ⟨#[]⟩, .string ⟨#[]⟩, .slice none 0 0, .string ⟨#[]⟩] 41) = W1 := ⟨_, rfl⟩
    have B1 : Hid (Below w.heap.size w W1) := by rw [← hW1]; exact ((Below.refl _ w).alloc (Nat.le_refl _) _).alloc (by simp) _
    have K1 : Hid (Bk W1 A0 41 #[.string ⟨#[]⟩, .string ⟨#[]⟩, .slice none 0 0, .string ⟨#[]⟩]) := by rw [← hW1, ← hA0]; exact (Bk.new w 41 #[.string ⟨#[]⟩, .string ⟨#[]⟩, .slice none 0 0, .string ⟨#[]⟩]).alloc _
    have P1 : Hid (Bk W1 (A0 + 1) 41 #[.string ⟨#[]⟩, .string ⟨#[]⟩, .slice none 0 0, .string ⟨#[]⟩]) := by rw [← hW1, ← hA0]; exact Bk.new1 _ _ _ _
    rw [hW1]
    clear hW1 hA0
    have p0 : W1.cell? ⟨A0 + 1, 0, none⟩ = some (.string ⟨#[]⟩) := P1.out.cell 0
    have e0 : W1.frozen? ⟨A0 + 1, 0, none⟩ = false := P1.out.free 0
    go_upto_region 5 with fail
    rw [HCG.out]
    obtain ⟨W4, hW4⟩ : ∃ W4, W1.setCell ⟨A0 + 1, 0, none⟩ (.string gb) = W4 := ⟨_, rfl⟩
    have P4 : Hid (Bk W4 (A0 + 1) 41 #[.string gb, .string ⟨#[]⟩, .slice none 0 0, .string ⟨#[]⟩]) := by rw [← hW4]; exact P1.out.put 0 _
    have K4 : Hid (Bk W4 A0 41 #[.string ⟨#[]⟩, .string ⟨#[]⟩, .slice none 0 0, .string ⟨#[]⟩]) := by rw [← hW4]; exact K1.out.far (by show A0 ≠ A0 + 1; omega) _
    have B4 : Hid (Below w.heap.size w W4) := by rw [← hW4]; exact B1.out.setCell (p := ⟨A0 + 1, 0, none⟩) (by show w.heap.size ≤ A0 + 1; have := HA0.out; omega) _
    rw [hW4]
    clear hW4 p0 e0
    go_wp2_with fail
    refine (HW2.out _).mono ?_
    rintro e w5 ⟨rfl, rfl⟩
    go_wp2_with fail
    refine (HU.out _ _ HXS.out).mono ?_
    rintro e w6 ⟨rfl, b6⟩
    rw [HCN.out]
    have B6 : Hid (Below w.heap.size w w6) := B4.out.trans (b6.mono B4.out.size)
    have K6 := Lib.hid (K4.out.below b6 K4.out.lt)
    have P6 := Lib.hid (P4.out.below b6 P4.out.lt)
    have p1 : w6.cell? ⟨A0 + 1, 1, none⟩ = some (.string ⟨#[]⟩) := P6.out.cell 1
    have e1 : w6.frozen? ⟨A0 + 1, 1, none⟩ = false := P6.out.free 1
    clear b6
    go_upto_region 8 with fail
    obtain ⟨W8, hW8⟩ : ∃ W8, w6.setCell ⟨A0 + 1, 1, none⟩ (.string nb) = W8 := ⟨_, rfl⟩
    have P8 : Hid (Bk W8 (A0 + 1) 41 #[.string gb, .string nb, .slice none 0 0, .string ⟨#[]⟩]) := by rw [← hW8]; exact P6.out.put 1 _
    have K8 : Hid (Bk W8 A0 41 #[.string ⟨#[]⟩, .string ⟨#[]⟩, .slice none 0 0, .string ⟨#[]⟩]) := by rw [← hW8]; exact K6.out.far (by show A0 ≠ A0 + 1; omega) _
    have B8 : Hid (Below w.heap.size w W8) := by rw [← hW8]; exact B6.out.setCell (p := ⟨A0 + 1, 1, none⟩) (by show w.heap.size ≤ A0 + 1; have := HA0.out; omega) _
    rw [hW8]
    clear hW8 p1 e1 hz46 hil h0 hr1
    have p1 : W8.cell? ⟨A0 + 1, 1, none⟩ = some (.string nb) := P8.out.cell 1
    cases eb
    case' true =>
      have HP : Hid (propL l = none) := propD_no HH.out (.inl (of_decide_eq_true HEB.out.symm))
      obtain ⟨v0, d0⟩ : ∃ v, W8.cell? ⟨A0, 0, none⟩ = some v := ⟨_, K8.out.cell 0⟩
      obtain ⟨v1, d1⟩ : ∃ v, W8.cell? ⟨A0, 1, none⟩ = some v := ⟨_, K8.out.cell 1⟩
      obtain ⟨v2, d2⟩ : ∃ v, W8.cell? ⟨A0, 2, none⟩ = some v := ⟨_, K8.out.cell 2⟩
      obtain ⟨v3, d3⟩ : ∃ v, W8.cell? ⟨A0, 3, none⟩ = some v := ⟨_, K8.out.cell 3⟩
      have f0 : W8.frozen? ⟨A0, 0, none⟩ = false := K8.out.free 0
      have f1 : W8.frozen? ⟨A0, 1, none⟩ = false := K8.out.free 1
      have f2 : W8.frozen? ⟨A0, 2, none⟩ = false := K8.out.free 2
      have f3 : W8.frozen? ⟨A0, 3, none⟩ = false := K8.out.free 3
      go_wp2_with fail
      have KF := Bk.four K8.out ⟨_, _, _, _, rfl⟩ (.string ⟨#[]⟩) (.string ⟨#[]⟩) (.slice none 0 0) (.string ⟨#[]⟩)
      have q0 : World.cell? (four A0 W8 (.string ⟨#[]⟩) (.string ⟨#[]⟩) (.slice none 0 0) (.string ⟨#[]⟩)) ⟨A0, 0, none⟩ = some (.string ⟨#[]⟩) := KF.cell 0
      have q1 : World.cell? (four A0 W8 (.string ⟨#[]⟩) (.string ⟨#[]⟩) (.slice none 0 0) (.string ⟨#[]⟩)) ⟨A0, 1, none⟩ = some (.string ⟨#[]⟩) := KF.cell 1
      have q2 : World.cell? (four A0 W8 (.string ⟨#[]⟩) (.string ⟨#[]⟩) (.slice none 0 0) (.string ⟨#[]⟩)) ⟨A0, 2, none⟩ = some (.slice none 0 0) := KF.cell 2
      have q3 : World.cell? (four A0 W8 (.string ⟨#[]⟩) (.string ⟨#[]⟩) (.slice none 0 0) (.string ⟨#[]⟩)) ⟨A0, 3, none⟩ = some (.string ⟨#[]⟩) := KF.cell 3
      refine bodyPost_ret (v := .tuple #[.agg #[.string ⟨#[]⟩, .string ⟨#[]⟩, .slice none 0 0, .string ⟨#[]⟩], .bool false]) (by simp [results, Tryz.results20, go_sem, q0, q1, q2, q3]) rfl ⟨.inr ⟨HP.out, rfl⟩, below_four B8.out HA0.out _ _ _ _⟩
    have HNN : Hid (n ≠ []) := fun e => by have := HEB.out; rw [decide_eq_true e] at this; cases this
    have HAW : Hid (A0 + 1 < W8.heap.size) := P8.out.lt
    have HO0 : Hid (∃ v, Bk W8 (A0 + 1) 41 #[.string gb, .string nb, v, .string ⟨#[]⟩] ∧ OwnA w.heap.size W8 v []) := ⟨_, P8.out, OwnA.nil _ _⟩
    go_wp2_with fail
    go_loopw [5] (fun iv wr => ∃ (i f : Nat) (ps : List Par), iv = .int .i64 i ∧ i ≤ s.size ∧ ps.length ≤ i ∧ Hid (s.size - i < f) ∧ Hid (parsF f ps (l.drop i) = parsF (l.length + 1) [] (l.drop r0)) ∧ Hid (∃ v, Bk wr (A0 + 1) 41 #[.string gb, .string nb, v, .string ⟨#[]⟩] ∧ OwnA w.heap.size wr v ps) ∧ Hid (Bk wr A0 41 #[.string ⟨#[]⟩, .string ⟨#[]⟩, .slice none 0 0, .string ⟨#[]⟩]) ∧ Hid (Below w.heap.size w wr)) (fun iv _ => s.size - (intOf iv).toNat)
    case atStart => exact ⟨r0, l.length + 1, [], rfl, hr0, Nat.zero_le _, by unfold Hid; have := HSZ.out; omega, Lib.hid rfl, HO0, K8, B8⟩
    case round =>
      obtain ⟨i, f, ps, rfl, hi, hpi, HF, HPS, HO, KR, BR⟩ := hrel
      clear HO0 HAW p1
      obtain ⟨u, PR, OR⟩ := HO.out
      have PR := Lib.hid PR
      have OR := Lib.hid OR
      clear HO
      by_cases h59 : l[i]? = some 59
      · have hil : i < s.size := by have := (List.getElem?_eq_some_iff.1 h59).1; have := HSZ.out; omega
        have hz59 : ((((s[i]'hil).toNat : Nat)) : Int) = 59 := by
          have := HGS.out i hil
          rw [h59] at this
          injection this with this
          rw [← this]
          rfl
        have H59 := Lib.hid h59
        have HQ := Lib.hid (HPM.out (i + 1) wr (by omega))
        have HZR : Hid (w.heap.size ≤ wr.heap.size) := BR.out.size
        clear h59
        go_wp2_with fail
        refine HQ.out.mono ?_
        rintro e w2 ⟨hv, b2⟩
        have B2 : Hid (Below w.heap.size w w2) := BR.out.trans (b2.mono HZR.out)
        have K2 := Lib.hid (KR.out.below b2 KR.out.lt)
        have P2 := Lib.hid (PR.out.below b2 PR.out.lt)
        have O2 := Lib.hid (OR.out.below b2)
        have HV := Lib.hid hv
        clear hv b2 hz59
        rcases HV.out with ⟨hpr, rfl⟩ | ⟨a, q, hpr, hq1, hq2, rfl⟩
        · have HP : Hid (propL l = none) := propD_no HH.out (.inr ⟨HNN.out, fun ps' v e => by
            obtain ⟨f', rfl⟩ : ∃ f', f = f' + 1 := ⟨f - 1, by have := HF.out; omega⟩
            rw [← HPS.out, pars_bad H59.out hpr] at e
            cases e⟩)
          clear hpr HV
          go_upto_region 12 with fail
          obtain ⟨W3, hW3⟩ : ∃ W3, w2.alloc (.cells #[.string ⟨#[]⟩, .string ⟨#[]⟩] 38) = W3 := ⟨_, rfl⟩
          have b3 : Below w2.heap.size w2 W3 := by rw [← hW3]; exact (Below.refl _ _).alloc (Nat.le_refl _) _
          have B3 : Hid (Below w.heap.size w W3) := B2.out.trans (b3.mono B2.out.size)
          have K3 := Lib.hid (K2.out.below b3 K2.out.lt)
          rw [hW3]
          clear hW3 b3
          obtain ⟨v0, d0⟩ : ∃ v, W3.cell? ⟨A0, 0, none⟩ = some v := ⟨_, K3.out.cell 0⟩
          obtain ⟨v1, d1⟩ : ∃ v, W3.cell? ⟨A0, 1, none⟩ = some v := ⟨_, K3.out.cell 1⟩
          obtain ⟨v2, d2⟩ : ∃ v, W3.cell? ⟨A0, 2, none⟩ = some v := ⟨_, K3.out.cell 2⟩
          obtain ⟨v3, d3⟩ : ∃ v, W3.cell? ⟨A0, 3, none⟩ = some v := ⟨_, K3.out.cell 3⟩
          have f0 : W3.frozen? ⟨A0, 0, none⟩ = false := K3.out.free 0
          have f1 : W3.frozen? ⟨A0, 1, none⟩ = false := K3.out.free 1
          have f2 : W3.frozen? ⟨A0, 2, none⟩ = false := K3.out.free 2
          have f3 : W3.frozen? ⟨A0, 3, none⟩ = false := K3.out.free 3
          go_wp2_with fail
          have KF := Bk.four K3.out ⟨_, _, _, _, rfl⟩ (.string ⟨#[]⟩) (.string ⟨#[]⟩) (.slice none 0 0) (.string ⟨#[]⟩)
          have q0 : World.cell? (four A0 W3 (.string ⟨#[]⟩) (.string ⟨#[]⟩) (.slice none 0 0) (.string ⟨#[]⟩)) ⟨A0, 0, none⟩ = some (.string ⟨#[]⟩) := KF.cell 0
          have q1 : World.cell? (four A0 W3 (.string ⟨#[]⟩) (.string ⟨#[]⟩) (.slice none 0 0) (.string ⟨#[]⟩)) ⟨A0, 1, none⟩ = some (.string ⟨#[]⟩) := KF.cell 1
          have q2 : World.cell? (four A0 W3 (.string ⟨#[]⟩) (.string ⟨#[]⟩) (.slice none 0 0) (.string ⟨#[]⟩)) ⟨A0, 2, none⟩ = some (.slice none 0 0) := KF.cell 2
          have q3 : World.cell? (four A0 W3 (.string ⟨#[]⟩) (.string ⟨#[]⟩) (.slice none 0 0) (.string ⟨#[]⟩)) ⟨A0, 3, none⟩ = some (.string ⟨#[]⟩) := KF.cell 3
          refine bodyPost_ret (v := .tuple #[.agg #[.string ⟨#[]⟩, .string ⟨#[]⟩, .slice none 0 0, .string ⟨#[]⟩], .bool false]) (by simp [results, Tryz.results20, go_sem, q0, q1, q2, q3]) rfl ⟨.inr ⟨HP.out, rfl⟩, below_four B3.out HA0.out _ _ _ _⟩
        · have HPS2 : Hid (parsF (f - 1) (ps ++ [a]) (l.drop q) = parsF (l.length + 1) [] (l.drop r0)) := by
            have := HPS.out
            obtain ⟨f', rfl⟩ : ∃ f', f = f' + 1 := ⟨f - 1, by have := HF.out; omega⟩
            rw [pars_step H59.out hpr] at this
            exact this
          have hq3 : q ≤ s.size := by have := HSZ.out; omega
          have HF2 : Hid (s.size - q < f - 1) := by have := HF.out; unfold Hid; omega
          have hpl : ps.length ≤ 1000000000 := by omega
          obtain ⟨n1, hn1⟩ : ∃ n1, bts a.1 = n1 := ⟨_, rfl⟩
          obtain ⟨n2, hn2⟩ : ∃ n2, bts a.2 = n2 := ⟨_, rfl⟩
          have HN1 := Lib.hid hn1
          have HN2 := Lib.hid hn2
          rw [hn1, hn2]
          obtain ⟨A, cap, rfl⟩ := O2.out.slice
          clear hpr HV hn1 hn2 hq2
          go_upto_region 12 with fail
          obtain ⟨W4, hW4⟩ : ∃ W4, w2.alloc (.cells #[.string n1, .string n2] 38) = W4 := ⟨_, rfl⟩
          obtain ⟨Y, hY⟩ : ∃ Y, w2.heap.size = Y := ⟨_, rfl⟩
          have b4 : Below w2.heap.size w2 W4 := by rw [← hW4]; exact (Below.refl _ _).alloc (Nat.le_refl _) _
          have k4 : Bk W4 Y 38 #[.string n1, .string n2] := by rw [← hW4, ← hY]; exact Bk.new _ _ _
          have y0 : W4.cell? ⟨Y, 0, none⟩ = some (.string n1) := k4.cell 0
          have y1 : W4.cell? ⟨Y, 1, none⟩ = some (.string n2) := k4.cell 1
          have O4 := Lib.hid (O2.out.below b4)
          have Z2 : Hid (w.heap.size ≤ w2.heap.size) := B2.out.size
          have B4 : Hid (Below w.heap.size w W4) := B2.out.trans (b4.mono Z2.out)
          have Z4 : Hid (w.heap.size ≤ W4.heap.size) := Nat.le_trans Z2.out b4.size
          have P4 := Lib.hid (P2.out.below b4 P2.out.lt)
          have K4 := Lib.hid (K2.out.below b4 K2.out.lt)
          have p2 : W4.cell? ⟨A0 + 1, 2, none⟩ = some (.slice A ps.length cap) := P4.out.cell 2
          rw [hW4, hY]
          clear b4 k4 hW4 hY
          go_wp2_with (at_builtin; refine push_att rfl _ _ rfl w.heap.size (.slice A ps.length cap) ps a n1 n2 HN1.out HN2.out W4 rfl O4.out rfl hpl Z4.out ?_)
          intro v' w5 o5 b5 k5
          have O5 := Lib.hid o5
          have B5 : Hid (Below w.heap.size w w5) := B4.out.trans b5
          have P5 : Hid (Bk w5 (A0 + 1) 41 #[.string gb, .string nb, .slice A ps.length cap, .string ⟨#[]⟩]) := (k5 _ P4.out.lt (O4.out.apart P4.out (by decide))).trans P4.out
          have K5 : Hid (Bk w5 A0 41 #[.string ⟨#[]⟩, .string ⟨#[]⟩, .slice none 0 0, .string ⟨#[]⟩]) := (k5 _ K4.out.lt (O4.out.apart K4.out (by decide))).trans K4.out
          have z2 : w5.cell? ⟨A0 + 1, 2, none⟩ = some (.slice A ps.length cap) := P5.out.cell 2
          have e2 : w5.frozen? ⟨A0 + 1, 2, none⟩ = false := P5.out.free 2
          clear o5 b5 k5 p2 y0 y1
          obtain ⟨A', cap', hsl⟩ := O5.out.slice
          rw [List.length_append, List.length_singleton] at hsl
          subst hsl
          go_wp2_with fail
          go_roundw
          case rel => exact ⟨q, f - 1, ps ++ [a], rfl, hq3, by rw [List.length_append, List.length_singleton]; omega, HF2, HPS2, ⟨_, P5.out.put 2 _, O5.out.stored P5.out (by decide) 2 _⟩, K5.out.far (by show A0 ≠ A0 + 1; omega) _, B5.out.setCell (p := ⟨A0 + 1, 2, none⟩) (by show w.heap.size ≤ A0 + 1; have := HA0.out; omega) _⟩
          case measure => simp [intOf]; omega
      · have HEND : Hid (parsF (l.length + 1) [] (l.drop r0) = some (ps, l.drop i)) := HPS.out.symm.trans (pars_done h59)
        have hg : (¬ i < s.size) ∨ (∃ h : i < s.size, ((((s[i]'h).toNat : Nat) : Int) == 59) = false) := by
          by_cases h : i < s.size
          · refine .inr ⟨h, beq_false_of_ne fun e => h59 ?_⟩
            rw [HGS.out i h]
            congr 1
            exact UInt8.toNat_inj.1 (by show (s[i]'h).toNat = 59; omega)
          · exact .inl h
        by_cases h58 : l[i]? = some 58
        · have hil : i < s.size := by have := (List.getElem?_eq_some_iff.1 h58).1; have := HSZ.out; omega
          have hz58 : ((((s[i]'hil).toNat : Nat)) : Int) = 58 := by
            have := HGS.out i hil
            rw [h58] at this
            injection this with this
            rw [← this]
            rfl
          have HX : Hid (propL l = some (g, n, ps, l.drop (i + 1))) := propD_yes HH.out HNN.out (by rw [HEND.out, drop_at h58])
          have HRB : Hid (s.extract (i + 1) s.size = bts (l.drop (i + 1))) := by
            unfold Hid
            rw [HCUT.out, List.take_of_length_le (by rw [List.length_drop]; have := HSZ.out; omega)]
          have z3 : wr.cell? ⟨A0 + 1, 3, none⟩ = some (.string ⟨#[]⟩) := PR.out.cell 3
          have e3 : wr.frozen? ⟨A0 + 1, 3, none⟩ = false := PR.out.free 3
          obtain ⟨A, cap, rfl⟩ := OR.out.slice
          clear h59 hg h58 HEND HPS
          go_upto_region 18 with fail
          obtain ⟨rb, hrb⟩ : ∃ rb, s.extract (i + 1) s.size = rb := ⟨_, rfl⟩
          have HRB2 : Hid (bts (l.drop (i + 1)) = rb) := HRB.out.symm.trans hrb
          rw [hrb]
          obtain ⟨W6, hW6⟩ : ∃ W6, wr.setCell ⟨A0 + 1, 3, none⟩ (.string rb) = W6 := ⟨_, rfl⟩
          have k6 : Bk W6 (A0 + 1) 41 #[.string gb, .string nb, .slice A ps.length cap, .string rb] := by rw [← hW6]; exact PR.out.put 3 _
          have K6 : Hid (Bk W6 A0 41 #[.string ⟨#[]⟩, .string ⟨#[]⟩, .slice none 0 0, .string ⟨#[]⟩]) := by rw [← hW6]; exact KR.out.far (by show A0 ≠ A0 + 1; omega) _
          have O6 : Hid (OwnA w.heap.size W6 (.slice A ps.length cap) ps) := by rw [← hW6]; exact OR.out.stored PR.out (by decide) 3 _
          have B6 : Hid (Below w.heap.size w W6) := by rw [← hW6]; exact BR.out.setCell (p := ⟨A0 + 1, 3, none⟩) (by show w.heap.size ≤ A0 + 1; have := HA0.out; omega) _
          rw [hW6]
          clear hW6 hrb z3 e3
          have y0 : W6.cell? ⟨A0 + 1, 0, none⟩ = some (.string gb) := k6.cell 0
          have y1 : W6.cell? ⟨A0 + 1, 1, none⟩ = some (.string nb) := k6.cell 1
          have y2 : W6.cell? ⟨A0 + 1, 2, none⟩ = some (.slice A ps.length cap) := k6.cell 2
          have y3 : W6.cell? ⟨A0 + 1, 3, none⟩ = some (.string rb) := k6.cell 3
          clear k6
          obtain ⟨v0, d0⟩ : ∃ v, W6.cell? ⟨A0, 0, none⟩ = some v := ⟨_, K6.out.cell 0⟩
          obtain ⟨v1, d1⟩ : ∃ v, W6.cell? ⟨A0, 1, none⟩ = some v := ⟨_, K6.out.cell 1⟩
          obtain ⟨v2, d2⟩ : ∃ v, W6.cell? ⟨A0, 2, none⟩ = some v := ⟨_, K6.out.cell 2⟩
          obtain ⟨v3, d3⟩ : ∃ v, W6.cell? ⟨A0, 3, none⟩ = some v := ⟨_, K6.out.cell 3⟩
          have f0 : W6.frozen? ⟨A0, 0, none⟩ = false := K6.out.free 0
          have f1 : W6.frozen? ⟨A0, 1, none⟩ = false := K6.out.free 1
          have f2 : W6.frozen? ⟨A0, 2, none⟩ = false := K6.out.free 2
          have f3 : W6.frozen? ⟨A0, 3, none⟩ = false := K6.out.free 3
          go_wp2_with fail
          have KF := Bk.four K6.out ⟨_, _, _, _, rfl⟩ (.string gb) (.string nb) (.slice A ps.length cap) (.string rb)
          have q0 : World.cell? (four A0 W6 (.string gb) (.string nb) (.slice A ps.length cap) (.string rb)) ⟨A0, 0, none⟩ = some (.string gb) := KF.cell 0
          have q1 : World.cell? (four A0 W6 (.string gb) (.string nb) (.slice A ps.length cap) (.string rb)) ⟨A0, 1, none⟩ = some (.string nb) := KF.cell 1
          have q2 : World.cell? (four A0 W6 (.string gb) (.string nb) (.slice A ps.length cap) (.string rb)) ⟨A0, 2, none⟩ = some (.slice A ps.length cap) := KF.cell 2
          have q3 : World.cell? (four A0 W6 (.string gb) (.string nb) (.slice A ps.length cap) (.string rb)) ⟨A0, 3, none⟩ = some (.string rb) := KF.cell 3
          refine bodyPost_ret (v := .tuple #[.agg #[.string gb, .string nb, .slice A ps.length cap, .string rb], .bool true]) (by simp [results, Tryz.results20, go_sem, q0, q1, q2, q3]) rfl ⟨.inl ⟨_, .slice A ps.length cap, by unfold agP; rw [HGB.out, HNB.out, HRB2.out], HX.out, O6.out.four K6.out (by decide) _ _ _ _⟩, below_four B6.out HA0.out _ _ _ _⟩
        · have HP : Hid (propL l = none) := propD_no HH.out (.inr ⟨HNN.out, fun ps' v e => by
            rw [HEND.out] at e
            injection e with e
            injection e with e1 e2
            apply h58
            have : (l.drop i)[0]? = some 58 := by rw [e2]; rfl
            rwa [List.getElem?_drop] at this⟩)
          have hg58 : (s.size ≤ i) ∨ (∃ h : i < s.size, ((((s[i]'h).toNat : Nat) : Int) == 59) = false ∧ ((((s[i]'h).toNat : Nat) : Int) != 58) = true) := by
            rcases hg with hg | ⟨h, hg⟩
            · exact .inl (by omega)
            · refine .inr ⟨h, hg, bne_iff_ne.2 fun e => h58 ?_⟩
              rw [HGS.out i h]
              congr 1
              exact UInt8.toNat_inj.1 (by show (s[i]'h).toNat = 58; omega)
          clear h59 hg h58 HEND HPS
          rcases hg58 with hg58 | ⟨hil, hg59, hg58⟩
          all_goals
            obtain ⟨v0, d0⟩ : ∃ v, wr.cell? ⟨A0, 0, none⟩ = some v := ⟨_, KR.out.cell 0⟩
            obtain ⟨v1, d1⟩ : ∃ v, wr.cell? ⟨A0, 1, none⟩ = some v := ⟨_, KR.out.cell 1⟩
            obtain ⟨v2, d2⟩ : ∃ v, wr.cell? ⟨A0, 2, none⟩ = some v := ⟨_, KR.out.cell 2⟩
            obtain ⟨v3, d3⟩ : ∃ v, wr.cell? ⟨A0, 3, none⟩ = some v := ⟨_, KR.out.cell 3⟩
            have f0 : wr.frozen? ⟨A0, 0, none⟩ = false := KR.out.free 0
            have f1 : wr.frozen? ⟨A0, 1, none⟩ = false := KR.out.free 1
            have f2 : wr.frozen? ⟨A0, 2, none⟩ = false := KR.out.free 2
            have f3 : wr.frozen? ⟨A0, 3, none⟩ = false := KR.out.free 3
            go_wp2_with fail
            have KF := Bk.four KR.out ⟨_, _, _, _, rfl⟩ (.string ⟨#[]⟩) (.string ⟨#[]⟩) (.slice none 0 0) (.string ⟨#[]⟩)
            have q0 : World.cell? (four A0 wr (.string ⟨#[]⟩) (.string ⟨#[]⟩) (.slice none 0 0) (.string ⟨#[]⟩)) ⟨A0, 0, none⟩ = some (.string ⟨#[]⟩) := KF.cell 0
            have q1 : World.cell? (four A0 wr (.string ⟨#[]⟩) (.string ⟨#[]⟩) (.slice none 0 0) (.string ⟨#[]⟩)) ⟨A0, 1, none⟩ = some (.string ⟨#[]⟩) := KF.cell 1
            have q2 : World.cell? (four A0 wr (.string ⟨#[]⟩) (.string ⟨#[]⟩) (.slice none 0 0) (.string ⟨#[]⟩)) ⟨A0, 2, none⟩ = some (.slice none 0 0) := KF.cell 2
            have q3 : World.cell? (four A0 wr (.string ⟨#[]⟩) (.string ⟨#[]⟩) (.slice none 0 0) (.string ⟨#[]⟩)) ⟨A0, 3, none⟩ = some (.string ⟨#[]⟩) := KF.cell 3
            refine bodyPost_ret (v := .tuple #[.agg #[.string ⟨#[]⟩, .string ⟨#[]⟩, .slice none 0 0, .string ⟨#[]⟩], .bool false]) (by simp [results, Tryz.results20, go_sem, q0, q1, q2, q3]) rfl ⟨.inr ⟨HP.out, rfl⟩, below_four BR.out HA0.out _ _ _ _⟩
  · have hg3 : ¬ 0 < i0 ∨ (0 < i0 ∧ ¬ i0 < s.size) ∨ (0 < i0 ∧ ∃ h : i0 < s.size, ((((s[i0]'h).toNat : Nat) : Int) == 46) = false) := by
      rcases Nat.eq_zero_or_pos i0 with h | h
      · exact .inl (by omega)
      · by_cases h2 : i0 < s.size
        · refine .inr (.inr ⟨h, h2, beq_false_of_ne fun e => hdot ⟨h, ?_⟩⟩)
          rw [HGS.out i0 h2]
          congr 1
          exact UInt8.toNat_inj.1 (by show (s[i0]'h2).toNat = 46; omega)
        · exact .inr (.inl ⟨h, h2⟩)
    obtain ⟨n, hn⟩ : ∃ n, up (l.take i0) = n := ⟨_, rfl⟩
    have HH0 : Hid (headL l = ([], n, l.drop i0)) := by unfold Hid; rw [head_plain HI0.out hdot, hn]
    have HXS : Hid ((s.extract 0 i0).size ≤ 1000000000000) := by unfold Hid; rw [ByteArray.size_extract]; omega
    have HCN : Hid (bts (up (s.extract 0 i0).data.toList) = bts n) := by unfold Hid; rw [HCUT.out, List.drop_zero, Nat.sub_zero]; show bts (up (l.take i0)) = _; rw [hn]
    obtain ⟨r0, hr0e⟩ : ∃ r, r = i0 := ⟨_, rfl⟩
    have hr0 : r0 ≤ s.size := by omega
    obtain ⟨g, hgg⟩ : ∃ g : List UInt8, ([] : List UInt8) = g := ⟨_, rfl⟩
    have HH : Hid (headL l = (g, n, l.drop r0)) := by unfold Hid; rw [hr0e, ← hgg]; exact HH0.out
    obtain ⟨gb, hgb⟩ : ∃ b, bts g = b := ⟨_, rfl⟩
    have hg0 : (⟨#[]⟩ : ByteArray) = gb := by rw [← hgb, ← hgg]
    obtain ⟨nb, hnb⟩ : ∃ b, bts n = b := ⟨_, rfl⟩
    have HGB := Lib.hid hgb
    have HNB := Lib.hid hnb
    have HG0 := Lib.hid hg0
    obtain ⟨eb, heb⟩ : ∃ eb, nb.toList.isEmpty = eb := ⟨_, rfl⟩
    have HEB : Hid (eb = decide (n = [])) := by
      unfold Hid
      rw [← heb, ← hnb, ByteArray.toList_mk]
      cases n <;> rfl
    rw [hnb] at HCN
    subst hr0e
    clear hdot hgg hn hgb hnb hg0 HH0
    go_enter Tryz.func20, Tryz.ntmps20
    go_wp2_with fail
    refine (HW0.out _).mono ?_
    rintro e w1 ⟨rfl, rfl⟩
    obtain ⟨W1, hW1⟩ : ∃ W1, (w.alloc (.cells #[.string ⟨#[]⟩, .string ⟨#[]⟩, .slice none 0 0, .string ⟨#[]⟩] 41)).alloc (.cells #[.string ⟨#[]⟩, .string ⟨#[]⟩, .slice none 0 0, .string ⟨#[]⟩] 41) = W1 := ⟨_, rfl⟩
    have B1 : Hid (Below w.heap.size w W1) := by rw [← hW1]; exact ((Below.refl _ w).alloc (Nat.le_refl _) _).alloc (by simp) _
    have K1 : Hid (Bk W1 A0 41 #[.string ⟨#[]⟩, .string ⟨#[]⟩, .slice none 0 0, .string ⟨#[]⟩]) := by rw [← hW1, ← hA0]; exact (Bk.new w 41 #[.string ⟨#[]⟩, .string ⟨#[]⟩, .slice none 0 0, .string ⟨#[]⟩]).alloc _
    have P1 : Hid (Bk W1 (A0 + 1) 41 #[.string ⟨#[]⟩, .string ⟨#[]⟩, .slice none 0 0, .string ⟨#[]⟩]) := by rw [← hW1, ← hA0]; exact Bk.new1 _ _ _ _
    rw [hW1]
    clear hW1 hA0
    have p1 : W1.cell? ⟨A0 + 1, 1, none⟩ = some (.string ⟨#[]⟩) := P1.out.cell 1
    have e1 : W1.frozen? ⟨A0 + 1, 1, none⟩ = false := P1.out.free 1
    rcases hg3 with hg3 | ⟨hg3, hg4⟩ | ⟨hg3, hil, hg4⟩
    all_goals
      go_wp2_with fail
      refine (HU.out _ _ HXS.out).mono ?_
      rintro e w6 ⟨rfl, b6⟩
      rw [HCN.out]
      have B6 : Hid (Below w.heap.size w w6) := B1.out.trans (b6.mono B1.out.size)
      have K6 := Lib.hid (K1.out.below b6 K1.out.lt)
      have P6 := Lib.hid (P1.out.below b6 P1.out.lt)
      clear p1 e1
      have p1 : w6.cell? ⟨A0 + 1, 1, none⟩ = some (.string ⟨#[]⟩) := P6.out.cell 1
      have e1 : w6.frozen? ⟨A0 + 1, 1, none⟩ = false := P6.out.free 1
      clear b6
      go_upto_region 8 with fail
      obtain ⟨W8, hW8⟩ : ∃ W8, w6.setCell ⟨A0 + 1, 1, none⟩ (.string nb) = W8 := ⟨_, rfl⟩
      have P8 : Hid (Bk W8 (A0 + 1) 41 #[.string gb, .string nb, .slice none 0 0, .string ⟨#[]⟩]) := by rw [← hW8, ← HG0.out]; exact P6.out.put 1 _
      have K8 : Hid (Bk W8 A0 41 #[.string ⟨#[]⟩, .string ⟨#[]⟩, .slice none 0 0, .string ⟨#[]⟩]) := by rw [← hW8]; exact K6.out.far (by show A0 ≠ A0 + 1; omega) _
      have B8 : Hid (Below w.heap.size w W8) := by rw [← hW8]; exact B6.out.setCell (p := ⟨A0 + 1, 1, none⟩) (by show w.heap.size ≤ A0 + 1; have := HA0.out; omega) _
      rw [hW8]
      clear hW8 p1 e1
      try clear hg4
      try clear hil
      clear hg3
      have p1 : W8.cell? ⟨A0 + 1, 1, none⟩ = some (.string nb) := P8.out.cell 1
      cases eb
      case' true =>
        have HP : Hid (propL l = none) := propD_no HH.out (.inl (of_decide_eq_true HEB.out.symm))
        obtain ⟨v0, d0⟩ : ∃ v, W8.cell? ⟨A0, 0, none⟩ = some v := ⟨_, K8.out.cell 0⟩
        obtain ⟨v1, d1⟩ : ∃ v, W8.cell? ⟨A0, 1, none⟩ = some v := ⟨_, K8.out.cell 1⟩
        obtain ⟨v2, d2⟩ : ∃ v, W8.cell? ⟨A0, 2, none⟩ = some v := ⟨_, K8.out.cell 2⟩
        obtain ⟨v3, d3⟩ : ∃ v, W8.cell? ⟨A0, 3, none⟩ = some v := ⟨_, K8.out.cell 3⟩
        have f0 : W8.frozen? ⟨A0, 0, none⟩ = false := K8.out.free 0
        have f1 : W8.frozen? ⟨A0, 1, none⟩ = false := K8.out.free 1
        have f2 : W8.frozen? ⟨A0, 2, none⟩ = false := K8.out.free 2
        have f3 : W8.frozen? ⟨A0, 3, none⟩ = false := K8.out.free 3
        go_wp2_with fail
        have KF := Bk.four K8.out ⟨_, _, _, _, rfl⟩ (.string ⟨#[]⟩) (.string ⟨#[]⟩) (.slice none 0 0) (.string ⟨#[]⟩)
        have q0 : World.cell? (four A0 W8 (.string ⟨#[]⟩) (.string ⟨#[]⟩) (.slice none 0 0) (.string ⟨#[]⟩)) ⟨A0, 0, none⟩ = some (.string ⟨#[]⟩) := KF.cell 0
        have q1 : World.cell? (four A0 W8 (.string ⟨#[]⟩) (.string ⟨#[]⟩) (.slice none 0 0) (.string ⟨#[]⟩)) ⟨A0, 1, none⟩ = some (.string ⟨#[]⟩) := KF.cell 1
        have q2 : World.cell? (four A0 W8 (.string ⟨#[]⟩) (.string ⟨#[]⟩) (.slice none 0 0) (.string ⟨#[]⟩)) ⟨A0, 2, none⟩ = some (.slice none 0 0) := KF.cell 2
        have q3 : World.cell? (four A0 W8 (.string ⟨#[]⟩) (.string ⟨#[]⟩) (.slice none 0 0) (.string ⟨#[]⟩)) ⟨A0, 3, none⟩ = some (.string ⟨#[]⟩) := KF.cell 3
        refine bodyPost_ret (v := .tuple #[.agg #[.string ⟨#[]⟩, .string ⟨#[]⟩, .slice none 0 0, .string ⟨#[]⟩], .bool false]) (by simp [results, Tryz.results20, go_sem, q0, q1, q2, q3]) rfl ⟨.inr ⟨HP.out, rfl⟩, below_four B8.out HA0.out _ _ _ _⟩
      have HNN : Hid (n ≠ []) := fun e => by have := HEB.out; rw [decide_eq_true e] at this; cases this
      have HAW : Hid (A0 + 1 < W8.heap.size) := P8.out.lt
      have HO0 : Hid (∃ v, Bk W8 (A0 + 1) 41 #[.string gb, .string nb, v, .string ⟨#[]⟩] ∧ OwnA w.heap.size W8 v []) := ⟨_, P8.out, OwnA.nil _ _⟩
      go_wp2_with fail
      go_loopw [5] (fun iv wr => ∃ (i f : Nat) (ps : List Par), iv = .int .i64 i ∧ i ≤ s.size ∧ ps.length ≤ i ∧ Hid (s.size - i < f) ∧ Hid (parsF f ps (l.drop i) = parsF (l.length + 1) [] (l.drop r0)) ∧ Hid (∃ v, Bk wr (A0 + 1) 41 #[.string gb, .string nb, v, .string ⟨#[]⟩] ∧ OwnA w.heap.size wr v ps) ∧ Hid (Bk wr A0 41 #[.string ⟨#[]⟩, .string ⟨#[]⟩, .slice none 0 0, .string ⟨#[]⟩]) ∧ Hid (Below w.heap.size w wr)) (fun iv _ => s.size - (intOf iv).toNat)
      case atStart => exact ⟨r0, l.length + 1, [], rfl, hr0, Nat.zero_le _, by unfold Hid; have := HSZ.out; omega, Lib.hid rfl, HO0, K8, B8⟩
      case round =>
        obtain ⟨i, f, ps, rfl, hi, hpi, HF, HPS, HO, KR, BR⟩ := hrel
        clear HO0 HAW p1
        obtain ⟨u, PR, OR⟩ := HO.out
        have PR := Lib.hid PR
        have OR := Lib.hid OR
        clear HO
        by_cases h59 : l[i]? = some 59
        · have hil : i < s.size := by have := (List.getElem?_eq_some_iff.1 h59).1; have := HSZ.out; omega
          have hz59 : ((((s[i]'hil).toNat : Nat)) : Int) = 59 := by
            have := HGS.out i hil
            rw [h59] at this
            injection this with this
            rw [← this]
            rfl
          have H59 := Lib.hid h59
          have HQ := Lib.hid (HPM.out (i + 1) wr (by omega))
          have HZR : Hid (w.heap.size ≤ wr.heap.size) := BR.out.size
          clear h59
          go_wp2_with fail
          refine HQ.out.mono ?_
          rintro e w2 ⟨hv, b2⟩
          have B2 : Hid (Below w.heap.size w w2) := BR.out.trans (b2.mono HZR.out)
          have K2 := Lib.hid (KR.out.below b2 KR.out.lt)
          have P2 := Lib.hid (PR.out.below b2 PR.out.lt)
          have O2 := Lib.hid (OR.out.below b2)
          have HV := Lib.hid hv
          clear hv b2 hz59
          rcases HV.out with ⟨hpr, rfl⟩ | ⟨a, q, hpr, hq1, hq2, rfl⟩
          · have HP : Hid (propL l = none) := propD_no HH.out (.inr ⟨HNN.out, fun ps' v e => by
              obtain ⟨f', rfl⟩ : ∃ f', f = f' + 1 := ⟨f - 1, by have := HF.out; omega⟩
              rw [← HPS.out, pars_bad H59.out hpr] at e
              cases e⟩)
            clear hpr HV
            go_upto_region 12 with fail
            obtain ⟨W3, hW3⟩ : ∃ W3, w2.alloc (.cells #[.string ⟨#[]⟩, .string ⟨#[]⟩] 38) = W3 := ⟨_, rfl⟩
            have b3 : Below w2.heap.size w2 W3 := by rw [← hW3]; exact (Below.refl _ _).alloc (Nat.le_refl _) _
            have B3 : Hid (Below w.heap.size w W3) := B2.out.trans (b3.mono B2.out.size)
            have K3 := Lib.hid (K2.out.below b3 K2.out.lt)
            rw [hW3]
            clear hW3 b3
            obtain ⟨v0, d0⟩ : ∃ v, W3.cell? ⟨A0, 0, none⟩ = some v := ⟨_, K3.out.cell 0⟩
            obtain ⟨v1, d1⟩ : ∃ v, W3.cell? ⟨A0, 1, none⟩ = some v := ⟨_, K3.out.cell 1⟩
            obtain ⟨v2, d2⟩ : ∃ v, W3.cell? ⟨A0, 2, none⟩ = some v := ⟨_, K3.out.cell 2⟩
            obtain ⟨v3, d3⟩ : ∃ v, W3.cell? ⟨A0, 3, none⟩ = some v := ⟨_, K3.out.cell 3⟩
            have f0 : W3.frozen? ⟨A0, 0, none⟩ = false := K3.out.free 0
            have f1 : W3.frozen? ⟨A0, 1, none⟩ = false := K3.out.free 1
            have f2 : W3.frozen? ⟨A0, 2, none⟩ = false := K3.out.free 2
            have f3 : W3.frozen? ⟨A0, 3, none⟩ = false := K3.out.free 3
            go_wp2_with fail
            have KF := Bk.four K3.out ⟨_, _, _, _, rfl⟩ (.string ⟨#[]⟩) (.string ⟨#[]⟩) (.slice none 0 0) (.string ⟨#[]⟩)
            have q0 : World.cell? (four A0 W3 (.string ⟨#[]⟩) (.string ⟨#[]⟩) (.slice none 0 0) (.string ⟨#[]⟩)) ⟨A0, 0, none⟩ = some (.string ⟨#[]⟩) := KF.cell 0
            have q1 : World.cell? (four A0 W3 (.string ⟨#[]⟩) (.string ⟨#[]⟩) (.slice none 0 0) (.string ⟨#[]⟩)) ⟨A0, 1, none⟩ = some (.string ⟨#[]⟩) := KF.cell 1
            have q2 : World.cell? (four A0 W3 (.string ⟨#[]⟩) (.string ⟨#[]⟩) (.slice none 0 0) (.string ⟨#[]⟩)) ⟨A0, 2, none⟩ = some (.slice none 0 0) := KF.cell 2
            have q3 : World.cell? (four A0 W3 (.string ⟨#[]⟩) (.string ⟨#[]⟩) (.slice none 0 0) (.string ⟨#[]⟩)) ⟨A0, 3, none⟩ = some (.string ⟨#[]⟩) := KF.cell 3
            refine bodyPost_ret (v := .tuple #[.agg #[.string ⟨#[]⟩, .string ⟨#[]⟩, .slice none 0 0, .string ⟨#[]⟩], .bool false]) (by simp [results, Tryz.results20, go_sem, q0, q1, q2, q3]) rfl ⟨.inr ⟨HP.out, rfl⟩, below_four B3.out HA0.out _ _ _ _⟩
          · have HPS2 : Hid (parsF (f - 1) (ps ++ [a]) (l.drop q) = parsF (l.length + 1) [] (l.drop r0)) := by
              have := HPS.out
              obtain ⟨f', rfl⟩ : ∃ f', f = f' + 1 := ⟨f - 1, by have := HF.out; omega⟩
              rw [pars_step H59.out hpr] at this
              exact this
            have hq3 : q ≤ s.size := by have := HSZ.out; omega
            have HF2 : Hid (s.size - q < f - 1) := by have := HF.out; unfold Hid; omega
            have hpl : ps.length ≤ 1000000000 := by omega
            obtain ⟨n1, hn1⟩ : ∃ n1, bts a.1 = n1 := ⟨_, rfl⟩
            obtain ⟨n2, hn2⟩ : ∃ n2, bts a.2 = n2 := ⟨_, rfl⟩
            have HN1 := Lib.hid hn1
            have HN2 := Lib.hid hn2
            rw [hn1, hn2]
            obtain ⟨A, cap, rfl⟩ := O2.out.slice
            clear hpr HV hn1 hn2 hq2
            go_upto_region 12 with fail
            obtain ⟨W4, hW4⟩ : ∃ W4, w2.alloc (.cells #[.string n1, .string n2] 38) = W4 := ⟨_, rfl⟩
            obtain ⟨Y, hY⟩ : ∃ Y, w2.heap.size = Y := ⟨_, rfl⟩
            have b4 : Below w2.heap.size w2 W4 := by rw [← hW4]; exact (Below.refl _ _).alloc (Nat.le_refl _) _
            have k4 : Bk W4 Y 38 #[.string n1, .string n2] := by rw [← hW4, ← hY]; exact Bk.new _ _ _
            have y0 : W4.cell? ⟨Y, 0, none⟩ = some (.string n1) := k4.cell 0
            have y1 : W4.cell? ⟨Y, 1, none⟩ = some (.string n2) := k4.cell 1
            have O4 := Lib.hid (O2.out.below b4)
            have Z2 : Hid (w.heap.size ≤ w2.heap.size) := B2.out.size
            have B4 : Hid (Below w.heap.size w W4) := B2.out.trans (b4.mono Z2.out)
            have Z4 : Hid (w.heap.size ≤ W4.heap.size) := Nat.le_trans Z2.out b4.size
            have P4 := Lib.hid (P2.out.below b4 P2.out.lt)
            have K4 := Lib.hid (K2.out.below b4 K2.out.lt)
            have p2 : W4.cell? ⟨A0 + 1, 2, none⟩ = some (.slice A ps.length cap) := P4.out.cell 2
            rw [hW4, hY]
            clear b4 k4 hW4 hY
            go_wp2_with (at_builtin; refine push_att rfl _ _ rfl w.heap.size (.slice A ps.length cap) ps a n1 n2 HN1.out HN2.out W4 rfl O4.out rfl hpl Z4.out ?_)
            intro v' w5 o5 b5 k5
            have O5 := Lib.hid o5
            have B5 : Hid (Below w.heap.size w w5) := B4.out.trans b5
            have P5 : Hid (Bk w5 (A0 + 1) 41 #[.string gb, .string nb, .slice A ps.length cap, .string ⟨#[]⟩]) := (k5 _ P4.out.lt (O4.out.apart P4.out (by decide))).trans P4.out
            have K5 : Hid (Bk w5 A0 41 #[.string ⟨#[]⟩, .string ⟨#[]⟩, .slice none 0 0, .string ⟨#[]⟩]) := (k5 _ K4.out.lt (O4.out.apart K4.out (by decide))).trans K4.out
            have z2 : w5.cell? ⟨A0 + 1, 2, none⟩ = some (.slice A ps.length cap) := P5.out.cell 2
            have e2 : w5.frozen? ⟨A0 + 1, 2, none⟩ = false := P5.out.free 2
            clear o5 b5 k5 p2 y0 y1
            obtain ⟨A', cap', hsl⟩ := O5.out.slice
            rw [List.length_append, List.length_singleton] at hsl
            subst hsl
            go_wp2_with fail
            go_roundw
            case rel => exact ⟨q, f - 1, ps ++ [a], rfl, hq3, by rw [List.length_append, List.length_singleton]; omega, HF2, HPS2, ⟨_, P5.out.put 2 _, O5.out.stored P5.out (by decide) 2 _⟩, K5.out.far (by show A0 ≠ A0 + 1; omega) _, B5.out.setCell (p := ⟨A0 + 1, 2, none⟩) (by show w.heap.size ≤ A0 + 1; have := HA0.out; omega) _⟩
            case measure => simp [intOf]; omega
        · have HEND : Hid (parsF (l.length + 1) [] (l.drop r0) = some (ps, l.drop i)) := HPS.out.symm.trans (pars_done h59)
          have hg : (¬ i < s.size) ∨ (∃ h : i < s.size, ((((s[i]'h).toNat : Nat) : Int) == 59) = false) := by
            by_cases h : i < s.size
            · refine .inr ⟨h, beq_false_of_ne fun e => h59 ?_⟩
              rw [HGS.out i h]
              congr 1
              exact UInt8.toNat_inj.1 (by show (s[i]'h).toNat = 59; omega)
            · exact .inl h
          by_cases h58 : l[i]? = some 58
          · have hil : i < s.size := by have := (List.getElem?_eq_some_iff.1 h58).1; have := HSZ.out; omega
            have hz58 : ((((s[i]'hil).toNat : Nat)) : Int) = 58 := by
              have := HGS.out i hil
              rw [h58] at this
              injection this with this
              rw [← this]
              rfl
            have HX : Hid (propL l = some (g, n, ps, l.drop (i + 1))) := propD_yes HH.out HNN.out (by rw [HEND.out, drop_at h58])
            have HRB : Hid (s.extract (i + 1) s.size = bts (l.drop (i + 1))) := by
              unfold Hid
              rw [HCUT.out, List.take_of_length_le (by rw [List.length_drop]; have := HSZ.out; omega)]
            have z3 : wr.cell? ⟨A0 + 1, 3, none⟩ = some (.string ⟨#[]⟩) := PR.out.cell 3
            have e3 : wr.frozen? ⟨A0 + 1, 3, none⟩ = false := PR.out.free 3
            obtain ⟨A, cap, rfl⟩ := OR.out.slice
            clear h59 hg h58 HEND HPS
            go_upto_region 18 with fail
            obtain ⟨rb, hrb⟩ : ∃ rb, s.extract (i + 1) s.size = rb := ⟨_, rfl⟩
            have HRB2 : Hid (bts (l.drop (i + 1)) = rb) := HRB.out.symm.trans hrb
            rw [hrb]
            obtain ⟨W6, hW6⟩ : ∃ W6, wr.setCell ⟨A0 + 1, 3, none⟩ (.string rb) = W6 := ⟨_, rfl⟩
            have k6 : Bk W6 (A0 + 1) 41 #[.string gb, .string nb, .slice A ps.length cap, .string rb] := by rw [← hW6]; exact PR.out.put 3 _
            have K6 : Hid (Bk W6 A0 41 #[.string ⟨#[]⟩, .string ⟨#[]⟩, .slice none 0 0, .string ⟨#[]⟩]) := by rw [← hW6]; exact KR.out.far (by show A0 ≠ A0 + 1; omega) _
            have O6 : Hid (OwnA w.heap.size W6 (.slice A ps.length cap) ps) := by rw [← hW6]; exact OR.out.stored PR.out (by decide) 3 _
            have B6 : Hid (Below w.heap.size w W6) := by rw [← hW6]; exact BR.out.setCell (p := ⟨A0 + 1, 3, none⟩) (by show w.heap.size ≤ A0 + 1; have := HA0.out; omega) _
            rw [hW6]
            clear hW6 hrb z3 e3
            have y0 : W6.cell? ⟨A0 + 1, 0, none⟩ = some (.string gb) := k6.cell 0
            have y1 : W6.cell? ⟨A0 + 1, 1, none⟩ = some (.string nb) := k6.cell 1
            have y2 : W6.cell? ⟨A0 + 1, 2, none⟩ = some (.slice A ps.length cap) := k6.cell 2
            have y3 : W6.cell? ⟨A0 + 1, 3, none⟩ = some (.string rb) := k6.cell 3
            clear k6
            obtain ⟨v0, d0⟩ : ∃ v, W6.cell? ⟨A0, 0, none⟩ = some v := ⟨_, K6.out.cell 0⟩
            obtain ⟨v1, d1⟩ : ∃ v, W6.cell? ⟨A0, 1, none⟩ = some v := ⟨_, K6.out.cell 1⟩
            obtain ⟨v2, d2⟩ : ∃ v, W6.cell? ⟨A0, 2, none⟩ = some v := ⟨_, K6.out.cell 2⟩
            obtain ⟨v3, d3⟩ : ∃ v, W6.cell? ⟨A0, 3, none⟩ = some v := ⟨_, K6.out.cell 3⟩
            have f0 : W6.frozen? ⟨A0, 0, none⟩ = false := K6.out.free 0
            have f1 : W6.frozen? ⟨A0, 1, none⟩ = false := K6.out.free 1
            have f2 : W6.frozen? ⟨A0, 2, none⟩ = false := K6.out.free 2
            have f3 : W6.frozen? ⟨A0, 3, none⟩ = false := K6.out.free 3
            go_wp2_with fail
            have KF := Bk.four K6.out ⟨_, _, _, _, rfl⟩ (.string gb) (.string nb) (.slice A ps.length cap) (.string rb)
            have q0 : World.cell? (four A0 W6 (.string gb) (.string nb) (.slice A ps.length cap) (.string rb)) ⟨A0, 0, none⟩ = some (.string gb) := KF.cell 0
            have q1 : World.cell? (four A0 W6 (.string gb) (.string nb) (.slice A ps.length cap) (.string rb)) ⟨A0, 1, none⟩ = some (.string nb) := KF.cell 1
            have q2 : World.cell? (four A0 W6 (.string gb) (.string nb) (.slice A ps.length cap) (.string rb)) ⟨A0, 2, none⟩ = some (.slice A ps.length cap) := KF.cell 2
            have q3 : World.cell? (four A0 W6 (.string gb) (.string nb) (.slice A ps.length cap) (.string rb)) ⟨A0, 3, none⟩ = some (.string rb) := KF.cell 3
            refine bodyPost_ret (v := .tuple #[.agg #[.string gb, .string nb, .slice A ps.length cap, .string rb], .bool true]) (by simp [results, Tryz.results20, go_sem, q0, q1, q2, q3]) rfl ⟨.inl ⟨_, .slice A ps.length cap, by unfold agP; rw [HGB.out, HNB.out, HRB2.out], HX.out, O6.out.four K6.out (by decide) _ _ _ _⟩, below_four B6.out HA0.out _ _ _ _⟩
          · have HP : Hid (propL l = none) := propD_no HH.out (.inr ⟨HNN.out, fun ps' v e => by
              rw [HEND.out] at e
              injection e with e
              injection e with e1 e2
              apply h58
              have : (l.drop i)[0]? = some 58 := by rw [e2]; rfl
              rwa [List.getElem?_drop] at this⟩)
            have hg58 : (s.size ≤ i) ∨ (∃ h : i < s.size, ((((s[i]'h).toNat : Nat) : Int) == 59) = false ∧ ((((s[i]'h).toNat : Nat) : Int) != 58) = true) := by
              rcases hg with hg | ⟨h, hg⟩
              · exact .inl (by omega)
              · refine .inr ⟨h, hg, bne_iff_ne.2 fun e => h58 ?_⟩
                rw [HGS.out i h]
                congr 1
                exact UInt8.toNat_inj.1 (by show (s[i]'h).toNat = 58; omega)
            clear h59 hg h58 HEND HPS
            rcases hg58 with hg58 | ⟨hil, hg59, hg58⟩
            all_goals
              obtain ⟨v0, d0⟩ : ∃ v, wr.cell? ⟨A0, 0, none⟩ = some v := ⟨_, KR.out.cell 0⟩
              obtain ⟨v1, d1⟩ : ∃ v, wr.cell? ⟨A0, 1, none⟩ = some v := ⟨_, KR.out.cell 1⟩
              obtain ⟨v2, d2⟩ : ∃ v, wr.cell? ⟨A0, 2, none⟩ = some v := ⟨_, KR.out.cell 2⟩
              obtain ⟨v3, d3⟩ : ∃ v, wr.cell? ⟨A0, 3, none⟩ = some v := ⟨_, KR.out.cell 3⟩
              have f0 : wr.frozen? ⟨A0, 0, none⟩ = false := KR.out.free 0
              have f1 : wr.frozen? ⟨A0, 1, none⟩ = false := KR.out.free 1
              have f2 : wr.frozen? ⟨A0, 2, none⟩ = false := KR.out.free 2
              have f3 : wr.frozen? ⟨A0, 3, none⟩ = false := KR.out.free 3
              go_wp2_with fail
              have KF := Bk.four KR.out ⟨_, _, _, _, rfl⟩ (.string ⟨#[]⟩) (.string ⟨#[]⟩) (.slice none 0 0) (.string ⟨#[]⟩)
              have q0 : World.cell? (four A0 wr (.string ⟨#[]⟩) (.string ⟨#[]⟩) (.slice none 0 0) (.string ⟨#[]⟩)) ⟨A0, 0, none⟩ = some (.string ⟨#[]⟩) := KF.cell 0
              have q1 : World.cell? (four A0 wr (.string ⟨#[]⟩) (.string ⟨#[]⟩) (.slice none 0 0) (.string ⟨#[]⟩)) ⟨A0, 1, none⟩ = some (.string ⟨#[]⟩) := KF.cell 1
              have q2 : World.cell? (four A0 wr (.string ⟨#[]⟩) (.string ⟨#[]⟩) (.slice none 0 0) (.string ⟨#[]⟩)) ⟨A0, 2, none⟩ = some (.slice none 0 0) := KF.cell 2
              have q3 : World.cell? (four A0 wr (.string ⟨#[]⟩) (.string ⟨#[]⟩) (.slice none 0 0) (.string ⟨#[]⟩)) ⟨A0, 3, none⟩ = some (.string ⟨#[]⟩) := KF.cell 3
              refine bodyPost_ret (v := .tuple #[.agg #[.string ⟨#[]⟩, .string ⟨#[]⟩, .slice none 0 0, .string ⟨#[]⟩], .bool false]) (by simp [results, Tryz.results20, go_sem, q0, q1, q2, q3]) rfl ⟨.inr ⟨HP.out, rfl⟩, below_four BR.out HA0.out _ _ _ _⟩
end Go.Proofs.YtphopnfnjnieaaaGreatDoor
/-
  The document's side of package vcard: cardexref08.ReadCards.
-/
namespace Go.Proofs.YtphopnfnjnieaaaGreatDoor
open Go.RowKit Vc

/-- An append of one row to rows. -/
theorem push_rw {ops : Array Oper} {rest : List Oper} {o : Oper} {a : Act} {Q : Exit → Act → World → Prop} (hgd : o.guard = none) (s x : Operand) (ho : o.op = .call { callee := .builtin .append, args := #[s, x], argTypes := #[22, 22] })
    (B : Nat) (v : Value) (us : List Value) (u : Value) (w0 : World) (hs : a.eval s = v) (hown : OwnG B w0 v us) (hu : u.oneCell' = true) (hx : a.eval x = .slice (some ⟨w0.heap.size, 0, none⟩) 1 1) (hn : us.length ≤ 1000000000) (hB : B ≤ w0.heap.size)
    (h : ∀ v' w', OwnG B w' v' (us ++ [u]) → Below B w0 w' → (∀ k cs t, Bk w0 k t cs → t ≠ 25 → Bk w' k t cs) → wpList Tryz.prog ops Q rest (a.put o.dst v') w') : wpList Tryz.prog ops Q (o :: rest) a (w0.alloc (.cells #[u] 25)) := by
  obtain ⟨i0, hi, hz0, hz1, hz2⟩ := info_parts infoPs
  have hown' : w0.ownsRow B 25 1 v us.length us := hown
  refine wpList_append_own _ hgd s x 22 ho B 25 i0 _ 1 24 Tryz.underlying22 hi hz0 hz1 hz2 rfl (by decide) v us.length us hs (hown'.alloc _) ⟨w0.heap.size, 0, none⟩ 1 1 [u] hx rfl ?_ ?_ ?_ (by omega) (by simp; omega) ?_
  · intro j y hj
    rw [add_at, cell_of_row _ _ _ #[_] _ (0, 0) (heap_alloc_new w0 _), Nat.zero_add]
    simpa using hj
  · intro y hy
    simp at hy
    subst hy
    exact hu
  · unfold maxLen; omega
  · intro v' w' hown2 hg _
    have hK : ∀ k cs t, Bk w0 k t cs → t ≠ 25 → Bk w' k t cs := fun k cs t hk ht => by
      refine (hg.block k (by simp; have := hk.lt; omega) (fun e => ?_)).trans (hk.alloc _)
      rcases hown'.2 with ⟨rfl, _⟩ | ⟨g', cap, cur, rfl, _, hh, _⟩
      · cases e
      · injection e with e
        subst e
        exact Bk.type_ne hk (show Bk w0 _ 25 cur from hh) ht rfl
    refine h v' w' ?_ (((Below.refl B w0).alloc hB _).grown hg (by simp; omega) (fun j hj => (World.ownsRow.lt hown' j hj).1)) hK
    unfold OwnG
    rw [List.length_append, List.length_singleton]
    exact hown2
/-- How the document's reader stands: cards cv, the card kv, is one open, is its first line still to come. -/
def RdS (B : Nat) (w : World) (st : RSt) (cv kv : Value) (ob fb : Bool) : Prop :=
  ∃ (us : List Value) (C : Nat), B ≤ C ∧ C ≤ w.heap.size ∧ OwnG B w cv us ∧ RowsP C w us st.1 ∧ match st.2 with
    | none => ob = false ∧ st.1.length ≤ 60 ∧ (∃ A n c, kv = .slice A n c)
    | some (f, c) => ob = true ∧ fb = f ∧ st.1.length < 60 ∧ OwnP C w kv c ∧ c.length ≤ 40
theorem read_end {st : RSt} {n : Nat} : runV n st [] = match st.2 with
    | none => (st.1, 0, 0)
    | some _ => ([], n, 20) := by
  obtain ⟨a, o⟩ := st
  cases o <;> rfl
theorem toL (l : List UInt8) : (bts l).toList = l := by rw [ByteArray.toList_mk]
set_option maxHeartbeats 8000000 in
set_option maxRecDepth 100000 in
theorem rread_any (s : ByteArray) (w : World) (hs : s.size ≤ 1000000) :
    Calls Tryz.prog 9 #[.string s] w (ReadsV w.heap.size w s.data.toList) := by
  obtain ⟨l, hl⟩ : ∃ l, s.data.toList = l := ⟨_, rfl⟩
  have hsz := Lib.size_eq s
  have HU := runfold_any s w (by omega)
  rw [hl] at HU hsz ⊢
  have HUH := Lib.hid HU
  obtain ⟨hz0, hz1, hz2⟩ := unfA_z l
  obtain ⟨hle1, hle2⟩ := unfA_le l
  have HRV := Lib.hid (readV_unf l)
  obtain ⟨z, hz⟩ : ∃ z, (unfA l).2 = z := ⟨_, rfl⟩
  obtain ⟨m, hm⟩ : ∃ m, (unfA l).1 = m := ⟨_, rfl⟩
  have HUD : Hid (∀ e w', Unfolded w.heap.size w l e w' → ∃ v, e = .returned (.tuple #[v, .int .i64 z]) ∧ ReadT w'.heap.size w' v (sts m) ∧ Below w.heap.size w w') := fun e w' h => by
    unfold Unfolded at h
    rwa [hz, hm] at h
  rw [hz, hm] at HRV
  rw [hz] at hz0 hz1 hz2
  rw [hm] at hz1 hle1 hle2
  have HLE2 := Lib.hid hle2
  have hml : m.length ≤ 1000000 := by omega
  have hll : l.length ≤ 1000000 := by omega
  have HUPP := Lib.hid (fun (b : ByteArray) (W : World) (h : b.size ≤ 1000000000000) => rupper_any b W h)
  have HPRO := Lib.hid (fun (b : ByteArray) (W : World) (h : b.size ≤ 1000000000) => parseProp_any b W h)
  clear HU hsz hl hz hm hle2
  go_enter Tryz.func9, Tryz.ntmps9
  go_wp2_with fail
  refine HUH.out.mono ?_
  intro e w1 hx
  obtain ⟨v, rfl, hv, b1⟩ := HUD.out e w1 hx
  have B1 := Lib.hid b1
  have HV := Lib.hid hv
  clear hx b1 hv
  by_cases h0 : z = 0
  case' neg =>
    have hr : Hid (readV l = ([], 0, z.toNat)) := by unfold Hid; rw [HRV.out, if_neg h0]
    have gz : (z != 0) = true := bne_iff_ne.2 h0
    have htz : Hid (((z.toNat : Nat) : Int) = z) := Int.toNat_of_nonneg hz0
    obtain ⟨A, cap, rfl, -⟩ := HV.out
    clear h0 hz1 hz2 hle1
    go_wp2_with fail
    go_ret3
    exact ReadsV.of hr.out (ReadV.nil _) rfl htz.out B1.out
  have HRV0 : Hid (readV l = runV 0 ([], none) m) := by unfold Hid; rw [HRV.out, if_pos h0]
  subst h0
  obtain ⟨A, cap, rfl, hcell⟩ := HV.out
  have hsl : (sts m).length = m.length := sts_len m
  rw [hsl] at hcell ⊢
  obtain ⟨n, hn⟩ : ∃ n, m.length = n := ⟨_, rfl⟩
  rw [hn] at hcell hml ⊢
  have HN := Lib.hid hn
  obtain ⟨B, hB⟩ : ∃ B, w1.heap.size = B := ⟨_, rfl⟩
  have HBE := Lib.hid hB
  rw [hB] at hcell
  have HC := Lib.hid hcell
  have HR0 : Hid (runV 0 ([], none) (m.drop 0) = runV 0 ([], none) m) := by unfold Hid; rw [List.drop_zero]
  have HUP : Hid (∀ W, Below B w1 W → Below w.heap.size w W) := fun W hW => B1.out.trans (hW.mono (by rw [← HBE.out]; exact B1.out.size))
  have HS0 : Hid (RdS B w1 ([], none) (.slice none 0 0) (.slice none 0 0) false false) := ⟨[], B, Nat.le_refl _, Nat.le_of_eq hB.symm, OwnG.nil _ _, RowsP.nil _ _, rfl, Nat.zero_le _, _, _, _, rfl⟩
  have HB0 : Hid (Below B w1 w1) := Below.refl _ _
  clear hsl hn hcell hz0 hz1 hz2 hle1 hB
  go_wp2_with fail
  go_loopw [7, 8, 9, 10, 11] (fun cv kv ov fv iv wr => ∃ (k : Nat) (st : RSt) (ob fb : Bool) (cx kx : Value), cv = cx ∧ kv = kx ∧ ov = .bool ob ∧ fv = .bool fb ∧ iv = .int .i64 k ∧ k ≤ n ∧ Hid (RdS B wr st cx kx ob fb) ∧ Hid (Below B w1 wr) ∧ Hid (runV k st (m.drop k) = runV 0 ([], none) m)) (fun _ _ _ _ iv _ => n - (intOf iv).toNat)
  case atStart => exact ⟨0, ([], none), false, false, _, _, rfl, rfl, rfl, rfl, rfl, Nat.zero_le _, HS0, HB0, HR0⟩
  case round =>
    obtain ⟨k, st, ob, fb, cx, kx, hcx, hkx, rfl, rfl, rfl, hk, HRD, HBW, HRU⟩ := hrel
    have hcx2 := hcx.symm
    subst hcx2
    have hkx2 := hkx.symm
    subst hkx2
    clear hcx hkx
    obtain ⟨a, op⟩ := st
    by_cases hlt : k < n
    · obtain ⟨ad, rfl, hlb, hc⟩ := HC.out (by omega)
      obtain ⟨x, hx⟩ : ∃ x, m[k]? = some x := ⟨_, List.getElem?_eq_getElem (by rw [HN.out]; exact hlt)⟩
      have c1 := hc k (bts x) (by unfold sts; rw [List.getElem?_map, hx]; rfl)
      have hxl : x.length ≤ l.length := HLE2.out x (List.mem_of_getElem? hx)
      have hdr : m.drop k = x :: m.drop (k + 1) := by
        obtain ⟨h1, h2⟩ := List.getElem?_eq_some_iff.1 hx
        rw [List.drop_eq_getElem_cons h1, h2]
      have HDR := Lib.hid hdr
      have HNO : Hid (∀ e st', stepV (a, op) x = (e, st') → e ≠ 0 → readV l = ([], k + 1, e)) := fun e st' h he => by
        rw [HRV0.out, ← HRU.out, HDR.out]
        exact run_no h he _
      have HOK : Hid (∀ st', stepV (a, op) x = (0, st') → runV (k + 1) st' (m.drop (k + 1)) = runV 0 ([], none) m) := fun st' h => by
        rw [← HRU.out, HDR.out]
        exact (run_ok h _).symm
      obtain ⟨xb, hxb⟩ : ∃ xb, bts x = xb := ⟨_, rfl⟩
      have HXB : Hid (xb.data.toList = x) := by rw [← hxb]; rfl
      have hxs : xb.size ≤ 1000000 := by rw [Lib.size_eq, HXB.out]; omega
      have HXS := Lib.hid hxs
      rw [hxb] at c1
      have HCL : Hid (∀ W, Below B w1 W → W.cell? (ad.add k) = some (.string xb)) := fun W h => by
        rw [h.cell (p := ad.add k) (by rw [addBlock]; exact hlb)]
        exact c1
      have c0 := HCL.out wr HBW.out
      have HZ : Hid (B ≤ wr.heap.size) := by rw [← HBE.out]; have := HBW.out; rw [← HBE.out] at this; exact this.size
      obtain ⟨ub, hub⟩ : ∃ ub, bts (up x) = ub := ⟨_, rfl⟩
      have HUL : Hid (ub.toList = up x) := by rw [← hub]; exact toL _
      have HU1 : Hid (∀ W, Calls Tryz.prog 19 #[.string xb] W fun e w' => e = .returned (.string ub) ∧ Below W.heap.size W w') := fun W => by
        have := HUPP.out xb W (by have := HXS.out; omega)
        rw [HXB.out, hub] at this
        exact this
      have HP1 : Hid (∀ W, Calls Tryz.prog 20 #[.string xb] W fun e w' => PropD W.heap.size x e w' ∧ Below W.heap.size W w') := fun W => by
        have := HPRO.out xb W (by have := HXS.out; omega)
        rw [HXB.out] at this
        exact this
      have hprl : ∀ p, propL x = some p → (lineT p).length ≤ 2000000 := fun p hp => by have := prop_len hp; omega
      have HPRL := Lib.hid hprl
      clear hx hdr hc c1 hxl hxb hub hxs hprl hlb
      go_wp2_with fail
      refine (HU1.out _).mono ?_
      rintro e w2 ⟨rfl, b2⟩
      have B2 : Hid (Below wr.heap.size wr w2) := b2
      clear b2 c0
      have c0 := HCL.out w2 (HBW.out.trans (B2.out.mono HZ.out))
      go_wp2_with fail
      refine (HP1.out _).mono ?_
      rintro e w3 ⟨hv, b3⟩
      have B3 : Hid (Below wr.heap.size wr w3) := B2.out.trans (b3.mono B2.out.size)
      have HV3 := Lib.hid hv
      have HZ2 : Hid (wr.heap.size ≤ w2.heap.size) := B2.out.size
      clear b3 hv c0
      obtain ⟨ok, pb0, pb1, pb3, pv, hok, rfl⟩ : ∃ (ok : Bool) (b0 b1 b3 : ByteArray) (pv : Value), ((∃ p, propL x = some p ∧ bts p.1 = b0 ∧ bts p.2.1 = b1 ∧ bts p.2.2.2 = b3 ∧ OwnA w2.heap.size w3 pv p.2.2.1 ∧ ok = true) ∨ (propL x = none ∧ ok = false ∧ pv = .slice none 0 0)) ∧ e = .returned (.tuple #[.agg #[.string b0, .string b1, pv, .string b3], .bool ok]) := by
        rcases HV3.out with ⟨p, u, rfl, hp, ho⟩ | ⟨hp, rfl⟩
        · exact ⟨true, _, _, _, u, .inl ⟨p, hp, rfl, rfl, rfl, ho, rfl⟩, rfl⟩
        · exact ⟨false, _, _, _, _, .inr ⟨hp, rfl, rfl⟩, rfl⟩
      have HOKP := Lib.hid hok
      obtain ⟨PA, pn, pcap, rfl⟩ : ∃ A n c, pv = .slice A n c := by
        rcases hok with ⟨p, _, _, _, _, ho, _⟩ | ⟨_, _, rfl⟩
        · obtain ⟨A, c, e⟩ := ho.slice
          exact ⟨A, _, c, e⟩
        · exact ⟨_, _, _, rfl⟩
      clear HV3 hok
      go_upto_region 15 with fail
      obtain ⟨W4, hW4⟩ : ∃ W4, w3.alloc (.cells #[.string pb0, .string pb1, .slice PA pn pcap, .string pb3] 41) = W4 := ⟨_, rfl⟩
      obtain ⟨Q, hQ⟩ : ∃ Q, w3.heap.size = Q := ⟨_, rfl⟩
      have b4 : Below w3.heap.size w3 W4 := by rw [← hW4]; exact (Below.refl _ _).alloc (Nat.le_refl _) _
      have k4 : Bk W4 Q 41 #[.string pb0, .string pb1, .slice PA pn pcap, .string pb3] := by rw [← hW4, ← hQ]; exact Bk.new _ _ _
      have B4 : Hid (Below wr.heap.size wr W4) := B3.out.trans (b4.mono B3.out.size)
      have HB4 := Lib.hid b4
      have BW4 : Hid (Below B w1 W4) := HBW.out.trans (B4.out.mono HZ.out)
      have Z4 : Hid (B ≤ W4.heap.size) := Nat.le_trans HZ.out B4.out.size
      have t0 : W4.cell? ⟨Q, 0, none⟩ = some (.string pb0) := k4.cell 0
      have t1 : W4.cell? ⟨Q, 1, none⟩ = some (.string pb1) := k4.cell 1
      have t2 : W4.cell? ⟨Q, 2, none⟩ = some (.slice PA pn pcap) := k4.cell 2
      have t3 : W4.cell? ⟨Q, 3, none⟩ = some (.string pb3) := k4.cell 3
      rw [hW4, hQ]
      obtain ⟨us, C, hBC, hCw, hG, hRW, hop⟩ := HRD.out
      have HG : Hid (OwnG B W4 cx us) := hG.below B4.out
      have HRW : Hid (RowsP C W4 us a) := RowsP.below hRW B4.out
      have HOP := Lib.hid hop
      have hC4 : C ≤ W4.heap.size := Nat.le_trans hCw B4.out.size
      have hus : us.length = a.length := hRW.1
      clear hW4 hQ b4 k4 hG hRW hop hCw
      rcases op with _ | ⟨f, c⟩
      · obtain ⟨rfl, ha60, KA, kn, kc, rfl⟩ := HOP.out
        clear t0 t1 t2 t3
        have hst : stepV (a, none) x = if up x ≠ beginT then (20, (a, none)) else if 60 ≤ a.length then (4, (a, none)) else (0, (a, some (true, []))) := rfl
        obtain ⟨CA, ccap, rfl⟩ := HG.out.slice
        by_cases hbe : up x = beginT
        · have g1 : ub.toList = [66, 69, 71, 73, 78, 58, 86, 67, 65, 82, 68] := by rw [HUL.out, hbe]; rfl
          have g1b : (ub.toList == [66, 69, 71, 73, 78, 58, 86, 67, 65, 82, 68]) = true := beq_iff_eq.2 g1
          rw [if_neg (fun h => h hbe)] at hst
          by_cases h6 : 60 ≤ a.length
          · rw [if_pos h6] at hst
            have h6' : (60 : Int) ≤ (us.length : Int) := by omega
            clear hus h6
            have HE := Lib.hid (HNO.out _ _ hst (by decide))
            clear hst hbe
            go_wp2_with fail
            go_ret3
            exact ReadsV.of HE.out (ReadV.nil _) (by simp) rfl (HUP.out _ BW4.out)
          · rw [if_neg h6] at hst
            have h6' : ¬ (60 : Int) ≤ (us.length : Int) := by omega
            have ha61 : a.length < 60 := by omega
            clear hus h6
            have HE := Lib.hid (HOK.out _ hst)
            have HS2 : Hid (RdS B W4 (a, some (true, [])) (.slice CA us.length ccap) (.slice none 0 0) true true) := ⟨us, C, hBC, hC4, HG.out, HRW.out, rfl, rfl, ha61, OwnP.nil _ _, Nat.zero_le _⟩
            clear hst hbe
            go_wp2_with fail
            go_roundw
            case rel => exact ⟨k + 1, _, _, _, _, _, rfl, rfl, rfl, rfl, by go_num, by omega, HS2, BW4, HE⟩
            case measure => simp [intOf]; omega
        · have g1 : ¬ ub.toList = [66, 69, 71, 73, 78, 58, 86, 67, 65, 82, 68] := by rw [HUL.out]; exact hbe
          have g1b : (ub.toList == [66, 69, 71, 73, 78, 58, 86, 67, 65, 82, 68]) = false := beq_false_of_ne g1
          rw [if_pos hbe] at hst
          have HE := Lib.hid (HNO.out _ _ hst (by decide))
          clear hst hbe
          go_wp2_with fail
          go_ret3
          exact ReadsV.of HE.out (ReadV.nil _) (by simp) rfl (HUP.out _ BW4.out)
      · obtain ⟨rfl, rfl, ha60', hOP, hc40'⟩ := HOP.out
        have ha60 : a.length < 60 := ha60'
        have hc40 : c.length ≤ 40 := hc40'
        have hul : us.length ≤ 1000000000 := by omega
        clear hus ha60' hc40'
        have hOP : OwnP C wr kx c := hOP
        have HO4 : Hid (OwnP C W4 kx c) := hOP.below B4.out
        obtain ⟨KA, kcap, rfl⟩ := hOP.slice
        clear hOP
        obtain ⟨kl, hkl⟩ : ∃ kl, c.length = kl := ⟨_, rfl⟩
        have HKL := Lib.hid hkl
        rw [hkl] at HO4 ⊢
        cases fb
        · have hst : stepV (a, some (false, c)) x = if up x = endT then (0, (a ++ [c], none)) else match propL x with
            | none => (17, (a, some (false, c)))
            | some p => if p.2.1 = beginN ∨ p.2.1 = versN then (20, (a, some (false, c))) else if 40 ≤ c.length then (4, (a, some (false, c))) else (0, (a, some (false, c ++ [p]))) := rfl
          by_cases hbe : up x = endT
          · have g1 : ub.toList = [69, 78, 68, 58, 86, 67, 65, 82, 68] := by rw [HUL.out, hbe]; rfl
            have g1b : (ub.toList == [69, 78, 68, 58, 86, 67, 65, 82, 68]) = true := beq_iff_eq.2 g1
            rw [if_pos hbe] at hst
            have HE := Lib.hid (HOK.out _ hst)
            obtain ⟨CA, ccap, rfl⟩ := HG.out.slice
            clear hst hbe t0 t1 t2 t3
            go_wp2_with (at_builtin; refine push_rw rfl _ _ rfl B (.slice CA us.length ccap) us (.slice KA kl kcap) W4 rfl HG.out rfl rfl hul Z4.out ?_)
            intro v5 w5 o5 b5 k5
            have HKP : Hid (KeepP W4 w5 ∧ KeepA W4 w5) := ⟨fun g cs h => k5 g cs _ h (by decide), fun g cs h => k5 g cs _ h (by decide)⟩
            have HRX : Hid (RowP W4.heap.size w5 (.slice KA kl kcap) c) := HO4.out.row.keep (fun g cs _ h => HKP.out.1 g cs h) HKP.out.2
            have HRY : Hid (RowsP W4.heap.size w5 us a) := HRW.out.keep hC4 (fun g cs _ h => HKP.out.1 g cs h) HKP.out.2
            have B5 : Hid (Below B w1 w5) := BW4.out.trans b5
            have HS5 : Hid (∃ v, v = v5 ∧ OwnG B w5 v (us ++ [.slice KA kl kcap])) := ⟨_, rfl, o5⟩
            have Z5 : Hid (W4.heap.size ≤ w5.heap.size) := b5.size
            have HS2 : Hid (RdS B w5 (a ++ [c], none) v5 (.slice KA kl kcap) false false) := ⟨us ++ [.slice KA kl kcap], W4.heap.size, Nat.le_trans hBC hC4, Z5.out, o5, HRY.out.snoc HRX.out, rfl, by show (a ++ [c]).length ≤ 60; rw [List.length_append, List.length_singleton]; omega, _, _, _, rfl⟩
            clear o5 b5 k5
            go_wp2_with fail
            go_roundw
            case rel => exact ⟨k + 1, _, _, _, _, _, rfl, rfl, rfl, rfl, by go_num, by omega, HS2, B5, HE⟩
            case measure => simp [intOf]; omega
          · have g1 : ¬ ub.toList = [69, 78, 68, 58, 86, 67, 65, 82, 68] := by rw [HUL.out]; exact hbe
            have g1b : (ub.toList == [69, 78, 68, 58, 86, 67, 65, 82, 68]) = false := beq_false_of_ne g1
            rw [if_neg hbe] at hst
            rcases HOKP.out with ⟨p, hp, e0, e1, e3, hoa, rfl⟩ | ⟨hp, rfl, -⟩
            · rw [hp] at hst
              have hst2 : stepV (a, some (false, c)) x = if p.2.1 = beginN ∨ p.2.1 = versN then (20, (a, some (false, c))) else if 40 ≤ c.length then (4, (a, some (false, c))) else (0, (a, some (false, c ++ [p]))) := hst
              have hl1 : pb1.toList = p.2.1 := by rw [← e1]; exact toL _
              by_cases h1 : p.2.1 = beginN
              · have g2 : pb1.toList = [66, 69, 71, 73, 78] := by rw [hl1, h1]; rfl
                have g2b : (pb1.toList == [66, 69, 71, 73, 78]) = true := beq_iff_eq.2 g2
                rw [if_pos (.inl h1)] at hst2
                have HE := Lib.hid (HNO.out _ _ hst2 (by decide))
                clear hst hst2 hbe h1 hl1 hoa e0 e1 e3 hp
                go_wp2_with fail
                go_ret3
                exact ReadsV.of HE.out (ReadV.nil _) (by simp) rfl (HUP.out _ BW4.out)
              · have g2 : ¬ pb1.toList = [66, 69, 71, 73, 78] := by rw [hl1]; exact h1
                have g2b : (pb1.toList == [66, 69, 71, 73, 78]) = false := beq_false_of_ne g2
                by_cases h2 : p.2.1 = versN
                · have g3 : pb1.toList = [86, 69, 82, 83, 73, 79, 78] := by rw [hl1, h2]; rfl
                  have g3b : (pb1.toList == [86, 69, 82, 83, 73, 79, 78]) = true := beq_iff_eq.2 g3
                  rw [if_pos (.inr h2)] at hst2
                  have HE := Lib.hid (HNO.out _ _ hst2 (by decide))
                  clear hst hst2 hbe h1 h2 hl1 hoa e0 e1 e3 hp
                  go_wp2_with fail
                  go_ret3
                  exact ReadsV.of HE.out (ReadV.nil _) (by simp) rfl (HUP.out _ BW4.out)
                · have g3 : ¬ pb1.toList = [86, 69, 82, 83, 73, 79, 78] := by rw [hl1]; exact h2
                  have g3b : (pb1.toList == [86, 69, 82, 83, 73, 79, 78]) = false := beq_false_of_ne g3
                  rw [if_neg (fun h => h.elim h1 h2)] at hst2
                  by_cases h4 : 40 ≤ c.length
                  · have h4' : (40 : Int) ≤ (kl : Int) := by omega
                    rw [if_pos h4] at hst2
                    have HE := Lib.hid (HNO.out _ _ hst2 (by decide))
                    clear hst hst2 hbe h1 h2 hl1 hoa e0 e1 e3 hp
                    go_wp2_with fail
                    go_ret3
                    exact ReadsV.of HE.out (ReadV.nil _) (by simp) rfl (HUP.out _ BW4.out)
                  · have h4' : ¬ (40 : Int) ≤ (kl : Int) := by omega
                    rw [if_neg h4] at hst2
                    have HE := Lib.hid (HOK.out _ hst2)
                    have HRA : Hid (RowA W4 (.slice PA pn pcap) p.2.2.1) := hoa.row.keep (KeepA.below HB4.out)
                    have E0 := Lib.hid e0
                    have E1 := Lib.hid e1
                    have E3 := Lib.hid e3
                    have hcl : c.length ≤ 1000000000 := by omega
                    clear hst hst2 hbe h1 h2 hl1 hoa e0 e1 e3 hp
                    go_wp2_with (at_builtin; refine push_prp rfl _ _ rfl C (.slice KA kl kcap) c p (.slice PA pn pcap) pb0 pb1 pb3 E0.out E1.out E3.out W4 rfl HO4.out HRA.out rfl hcl hC4 ?_)
                    intro v5 w5 o5 g5
                    have HKA : Hid (KeepA W4 w5) := fun g cs h => g5.2 g cs _ h (by decide)
                    have HRY : Hid (RowsP C w5 us a) := HRW.out.keep (Nat.le_refl _) (fun g cs hg h => h.below g5.1 hg) HKA.out
                    have HG5 : Hid (OwnG B w5 cx us) := HG.out.keep (fun g cs h => g5.2 g cs _ h (by decide))
                    have B5 : Hid (Below B w1 w5) := BW4.out.trans (g5.1.mono hBC)
                    have Z5 : Hid (C ≤ w5.heap.size) := Nat.le_trans hC4 g5.1.size
                    have HS2 : Hid (RdS B w5 (a, some (false, c ++ [p])) cx v5 true false) := ⟨us, C, hBC, Z5.out, HG5.out, HRY.out, rfl, rfl, ha60, o5, by show (c ++ [p]).length ≤ 40; rw [List.length_append, List.length_singleton]; omega⟩
                    clear o5 g5
                    go_wp2_with fail
                    go_roundw
                    case rel => exact ⟨k + 1, _, _, _, _, _, rfl, rfl, rfl, rfl, by go_num, by omega, HS2, B5, HE⟩
                    case measure => simp [intOf]; omega
            · rw [hp] at hst
              have HE := Lib.hid (HNO.out _ _ hst (by decide))
              clear hst hbe hp t0 t1 t2 t3
              go_wp2_with fail
              go_ret3
              exact ReadsV.of HE.out (ReadV.nil _) (by simp) rfl (HUP.out _ BW4.out)
        · have hst : stepV (a, some (true, c)) x = match propL x with
            | some p => if p.2.1 = versN ∧ p.2.2.2 = fourT then (0, (a, some (false, c))) else (20, (a, some (true, c)))
            | none => (20, (a, some (true, c))) := rfl
          rcases HOKP.out with ⟨p, hp, e0, e1, e3, -, rfl⟩ | ⟨hp, rfl, -⟩
          · rw [hp] at hst
            have hst2 : stepV (a, some (true, c)) x = if p.2.1 = versN ∧ p.2.2.2 = fourT then (0, (a, some (false, c))) else (20, (a, some (true, c))) := hst
            have hl1 : pb1.toList = p.2.1 := by rw [← e1]; exact toL _
            have hl3 : pb3.toList = p.2.2.2 := by rw [← e3]; exact toL _
            by_cases h1 : p.2.1 = versN
            · have g1 : pb1.toList = [86, 69, 82, 83, 73, 79, 78] := by rw [hl1, h1]; rfl
              have g1b : (pb1.toList == [86, 69, 82, 83, 73, 79, 78]) = true := beq_iff_eq.2 g1
              by_cases h2 : p.2.2.2 = fourT
              · have g2 : pb3.toList = [52, 46, 48] := by rw [hl3, h2]; rfl
                have g2b : (pb3.toList == [52, 46, 48]) = true := beq_iff_eq.2 g2
                rw [if_pos ⟨h1, h2⟩] at hst2
                have HE := Lib.hid (HOK.out _ hst2)
                have HS2 : Hid (RdS B W4 (a, some (false, c)) cx (.slice KA kl kcap) true false) := ⟨us, C, hBC, hC4, HG.out, HRW.out, rfl, rfl, ha60, HO4.out, hc40⟩
                clear hst hst2 h1 h2 hl1 hl3 e0 e1 e3 hp
                go_wp2_with fail
                go_roundw
                case rel => exact ⟨k + 1, _, _, _, _, _, rfl, rfl, rfl, rfl, by go_num, by omega, HS2, BW4, HE⟩
                case measure => simp [intOf]; omega
              · have g2 : ¬ pb3.toList = [52, 46, 48] := by rw [hl3]; exact h2
                have g2b : (pb3.toList == [52, 46, 48]) = false := beq_false_of_ne g2
                rw [if_neg (fun h => h2 h.2)] at hst2
                have HE := Lib.hid (HNO.out _ _ hst2 (by decide))
                clear hst hst2 h1 h2 hl1 hl3 e0 e1 e3 hp
                go_wp2_with fail
                go_ret3
                exact ReadsV.of HE.out (ReadV.nil _) (by simp) rfl (HUP.out _ BW4.out)
            · have g1 : ¬ pb1.toList = [86, 69, 82, 83, 73, 79, 78] := by rw [hl1]; exact h1
              have g1b : (pb1.toList == [86, 69, 82, 83, 73, 79, 78]) = false := beq_false_of_ne g1
              rw [if_neg (fun h => h1 h.1)] at hst2
              have HE := Lib.hid (HNO.out _ _ hst2 (by decide))
              clear hst hst2 h1 hl1 hl3 e0 e1 e3 hp
              go_wp2_with fail
              go_ret3
              exact ReadsV.of HE.out (ReadV.nil _) (by simp) rfl (HUP.out _ BW4.out)
          · rw [hp] at hst
            have HE := Lib.hid (HNO.out _ _ hst (by decide))
            clear hst hp t0 t1 t2 t3
            go_wp2_with fail
            go_ret3
            exact ReadsV.of HE.out (ReadV.nil _) (by simp) rfl (HUP.out _ BW4.out)
    · have hke : k = n := by omega
      have hre : runV n (a, op) [] = readV l := by
        rw [HRV0.out, ← HRU.out, List.drop_eq_nil_of_le (by rw [HN.out]; omega), hke]
      rw [read_end] at hre
      subst hke
      obtain ⟨us, C, hBC, hCw, hG, hRW, hop⟩ := HRD.out
      rcases op with _ | ⟨f, c⟩
      · obtain ⟨rfl, -, KA, kn, kc, rfl⟩ := hop
        have hres : Hid (readV l = (a, 0, 0)) := hre.symm
        have HRR : Hid (ReadV wr cx a) := hG.reads hRW.1 (fun i u c h1 h2 => (hRW.2 i u c h1 h2).reads)
        obtain ⟨CA, ccap, rfl⟩ := hG.slice
        clear hre hG hRW
        go_wp2_with fail
        go_ret3
        exact ReadsV.of hres.out HRR.out rfl rfl (HUP.out _ HBW.out)
      · obtain ⟨rfl, -⟩ := hop
        have hres : Hid (readV l = ([], k, 20)) := hre.symm
        clear hre hG hRW
        go_wp2_with fail
        go_ret3
        exact ReadsV.of hres.out (ReadV.nil _) rfl rfl (HUP.out _ HBW.out)
end Go.Proofs.YtphopnfnjnieaaaGreatDoor
