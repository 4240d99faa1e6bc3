/-
  package tree: Build.
-/
import Derived.Test.YtbkfmbkamocllaaGreatDoorTrO
namespace Go.Proofs.YtbkfmbkamocllaaGreatDoor
open Go.RowKit Tk Tr

/-- what Build answers -/
def BuiltOut (B : Nat) (o : List Nd × Int × Nat) (e : Ending) (w' : World) : Prop := ∃ v, e = .returned (.tuple #[v, .int .i64 o.2.1, .int .i64 (o.2.2 : Nat)]) ∧ OwnN B w' v o.1
theorem BuiltOut.err {B q : Nat} {p : Int} {o : List Nd × Int × Nat} {e : Ending} {w' : World} (h : o = ([], p, q)) (he : e = .returned (.tuple #[.slice none 0 0, .int .i64 p, .int .i64 q])) : BuiltOut B o e w' := by
  subst h
  exact ⟨_, he, OwnN.nil _ _⟩
theorem whole_end {st : St} : (wholeL st = false → endL st = ([], 0, 6)) ∧ (wholeL st = true → endL st = finL st.1) := by
  have e : wholeL st = true ↔ (st.1 ≠ [] ∧ st.2 = []) := by
    unfold wholeL
    rw [Bool.and_eq_true, decide_eq_true_eq, decide_eq_true_eq, List.length_pos_iff, List.length_eq_zero_iff]
  constructor
  · intro h
    unfold endL
    rw [if_pos]
    by_cases h1 : st.1 = []
    · exact .inl h1
    · refine .inr (fun h2 => ?_)
      rw [e.2 ⟨h1, h2⟩] at h
      cases h
  · intro h
    obtain ⟨h1, h2⟩ := e.1 h
    unfold endL
    rw [if_neg]
    rintro (h3 | h3)
    · exact h1 h3
    · exact h3 h2
theorem drewN_low {B : Nat} {w w' : World} (h : Below B w w') (n : Nat) : Below B w (w'.drewN n) := ⟨h.os, h.tape, h.output, h.size, h.block⟩
set_option maxHeartbeats 8000000 in
set_option maxRecDepth 100000 in
theorem build_any (v : Value) (ts : List TokI) (w : World) (hv : ReadI w v ts) (hl : ts.length ≤ 100000) (hb : bulk ts ≤ 1000000000) (hat : ∀ t ∈ ts, t.2.2.2.2.1.length ≤ 1000000000) :
    Calls Tryz.prog 13 #[v] w fun e w' => BuiltOut w.heap.size (buildL ts) e w' ∧ Below w.heap.size w w' := by
  obtain ⟨A, cap, rfl, hx⟩ := hv
  obtain ⟨G, hG⟩ : ∃ G, w.heap.size = G := ⟨_, rfl⟩
  obtain ⟨W1, hW1⟩ : ∃ W1, w.alloc (.cells #[.slice none 0 0, .slice none 0 0] 71) = W1 := ⟨_, rfl⟩
  have hw1 : Hid (Below G w W1) := by rw [← hW1, ← hG]; exact (Below.refl _ _).alloc (Nat.le_refl _) _
  have gs1 : Hid (GS 0 (G + 1) G W1 ([], [])) := by
    rw [← hW1, ← hG]
    exact ⟨_, _, Bk.new _ _ _, OwnE.nil _ _ _ _, Owned.nil _ _⟩
  have z1 : Hid (G + 1 ≤ W1.heap.size) := by unfold Hid; rw [← hW1, World.size_alloc, hG]; exact Nat.le_refl _
  rw [hG] at hx ⊢
  have HX := Lib.hid hx
  have HAT := Lib.hid hat
  have HBK := Lib.hid hb
  have HW1 := Lib.hid hW1
  have HGE := Lib.hid hG
  obtain ⟨n, hn⟩ : ∃ n, ts.length = n := ⟨_, rfl⟩
  have HN := Lib.hid hn
  rw [hn] at hl HX ⊢
  clear hx hat hb hW1 hG hn
  go_enter Tryz.func13, Tryz.ntmps13
  go_upto_region 2 with fail
  rw [HW1.out, HGE.out]
  go_wp2_with fail
  go_loopw [14] (fun i wr => ∃ (k : Nat) (st : St), k ≤ n ∧ i = .int .i64 k ∧ Hid (runL ([], []) ts = runL st (ts.drop k)) ∧ Hid (OkS st) ∧ Hid (Short (bulk (ts.take k)) st) ∧ Hid (GS k (G + 1) G wr st) ∧ Hid (Below G w wr) ∧ Hid (G + 1 ≤ wr.heap.size)) (fun i _ => n - (intOf i).toNat)
  case atStart => exact ⟨0, ([], []), Nat.zero_le _, rfl, Lib.hid rfl, Lib.hid OkS.nil, Lib.hid (Short.nil _), gs1, hw1, z1⟩
  case round =>
    obtain ⟨k, st, hk, rfl, hrun, hok, hsh, hgs, hbl, hz⟩ := hrel
    clear gs1 hw1 z1
    by_cases hlt : k < n
    · obtain ⟨ad, rfl, hlb, hc⟩ := HX.out (by omega)
      obtain ⟨t, ht⟩ : ∃ t, ts[k]? = some t := ⟨_, List.getElem?_eq_getElem (by have := HN.out; omega)⟩
      obtain ⟨u, hat0, hua⟩ := hc k t ht
      have hat1 := hat0.of (w' := wr) (hbl.out.block _ (by rw [addBlock]; exact hlb))
      have hub := hua.below (w' := wr) (by rw [HGE.out]; exact hbl.out)
      obtain ⟨k0, k1, k2, k3, k4, k5⟩ := hat1
      have HT := Lib.hid ht
      have hmt := List.mem_of_getElem? ht
      have hal := Lib.hid (HAT.out t hmt)
      have hrr := Lib.hid (run_at hrun.out ht)
      have hbt : t.2.2.2.1.length ≤ 1000000000 := by
        have h1 := bulk_take_succ ht
        have h2 := bulk_take_le ts (k + 1)
        have h3 := HBK.out
        omega
      have hbs := Lib.hid (bulk_take_succ ht)
      obtain ⟨UA, ucap, rfl, -⟩ := id hub
      obtain ⟨un, hun⟩ : ∃ un, t.2.2.2.2.1.length = un := ⟨_, rfl⟩
      have HUN := Lib.hid hun
      obtain ⟨Y, hY⟩ : ∃ Y, wr.heap.size = Y := ⟨_, rfl⟩
      obtain ⟨W7, hW7⟩ : ∃ W7, wr.alloc (.cells #[.int .i64 t.1, .int .i64 t.2.1, .string (bts t.2.2.1), .string (bts t.2.2.2.1), .slice UA un ucap, .bool t.2.2.2.2.2] 63) = W7 := ⟨_, rfl⟩
      have hw7 : Below wr.heap.size wr W7 := by rw [← hW7]; exact (Below.refl _ _).alloc (Nat.le_refl _) _
      have KY : Bk W7 Y 63 #[.int .i64 t.1, .int .i64 t.2.1, .string (bts t.2.2.1), .string (bts t.2.2.2.1), .slice UA un ucap, .bool t.2.2.2.2.2] := by rw [← hW7, ← hY]; exact Bk.new _ _ _
      have HGR := grow_any k (G + 1) G W7 st t _ (hgs.out.below hw7) hok.out (hub.below hw7) hal.out (by omega) (Nat.lt_succ_self _) (Nat.le_trans hz.out hw7.size) (by omega)
      have B7 : Hid (Below G w W7) := hbl.out.trans (hw7.mono (by have := hz.out; omega))
      have Z7 : Hid (G + 1 ≤ W7.heap.size) := Nat.le_trans hz.out hw7.size
      unfold agT at HGR
      rw [hun] at HGR k4
      have y0 : W7.cell? ⟨Y, 0, none⟩ = some (.int .i64 t.1) := KY.cell 0
      have y1 : W7.cell? ⟨Y, 1, none⟩ = some (.int .i64 t.2.1) := KY.cell 1
      have y2 : W7.cell? ⟨Y, 2, none⟩ = some (.string (bts t.2.2.1)) := KY.cell 2
      have y3 : W7.cell? ⟨Y, 3, none⟩ = some (.string (bts t.2.2.2.1)) := KY.cell 3
      have y4 : W7.cell? ⟨Y, 4, none⟩ = some (.slice UA un ucap) := KY.cell 4
      have y5 : W7.cell? ⟨Y, 5, none⟩ = some (.bool t.2.2.2.2.2) := KY.cell 5
      obtain ⟨a0, h0⟩ : ∃ a : Int, t.1 = a := ⟨_, rfl⟩
      obtain ⟨a1, h1⟩ : ∃ a : Int, t.2.1 = a := ⟨_, rfl⟩
      obtain ⟨a2, h2⟩ : ∃ a, bts t.2.2.1 = a := ⟨_, rfl⟩
      obtain ⟨a3, h3⟩ : ∃ a, bts t.2.2.2.1 = a := ⟨_, rfl⟩
      obtain ⟨a5, h5⟩ : ∃ a, t.2.2.2.2.2 = a := ⟨_, rfl⟩
      have HA1 := Lib.hid h1
      rw [h0, h1, h2, h3, h5] at HGR KY
      rw [h0, h1, h2, h3, h5] at hW7
      rw [h0] at k0 y0
      rw [h1] at k1 y1
      rw [h2] at k2 y2
      rw [h3] at k3 y3
      rw [h5] at k5 y5
      obtain ⟨bd, hbd⟩ : ∃ bd, badL st t = bd := ⟨_, rfl⟩
      rw [hbd] at HGR
      have HBD := Lib.hid hbd
      have HG2 := Lib.hid HGR
      have HKY := Lib.hid KY
      have HW7 := Lib.hid hW7
      have HYE := Lib.hid hY
      clear hc hat0 hua ht hmt hun hw7 KY HGR h0 h1 h2 h3 h5 hbd hW7 hY hgs hbl hz hrun hub hlb
      go_upto_region 5 with fail
      rw [HW7.out, HYE.out]
      clear k0 k1 k2 k3 k4 k5
      go_wp2_with fail
      refine HG2.out.mono ?_
      rintro e w8 ⟨rfl, g8, n8, q8⟩
      have G8 := Lib.hid g8
      have B8 : Hid (Below G w w8) := B7.out.trans ((n8.mono (Nat.le_succ G)).below (Nat.le_refl G))
      have Z8 : Hid (G + 1 ≤ w8.heap.size) := Nat.le_trans Z7.out n8.size
      have KY8 := Lib.hid (q8 _ _ HKY.out)
      clear g8 n8 q8 y0 y1 y2 y3 y4 y5 B7 Z7 HG2 HW7
      by_cases hb0 : bd = 0
      · have hbad : badL st t = 0 := HBD.out.trans hb0
        have R9 := Lib.hid (hrr.out.2 hbad)
        have O9 := Lib.hid (hok.out.next hbad)
        have S9 : Hid (Short (bulk (ts.take (k + 1))) (nextL st t)) := hsh.out.next (by rw [hbs.out]; exact Nat.le_refl _)
        have G9 : Hid (GS (k + 1) (G + 1) G w8 (nextL st t)) := by have := G8.out; rwa [if_pos hb0] at this
        subst hb0
        clear hbad hrr hok hsh G8
        go_wp2_with fail
        go_roundw
        case rel => exact ⟨k + 1, nextL st t, by omega, by go_num, R9, O9, S9, G9, B8, Z8⟩
        case measure => simp [intOf]; omega
      · have hbad : badL st t ≠ 0 := fun e => hb0 (HBD.out.symm.trans e)
        have HR : Hid (buildL ts = ([], a1, bd)) := by
          obtain ⟨s9, hs9⟩ := hrr.out.1 hbad
          unfold Hid
          rw [build_bad hs9, HA1.out, HBD.out]
        have gb : ((bd : Int) != 0) = true := by simp; omega
        have y1 : w8.cell? ⟨Y, 1, none⟩ = some (.int .i64 a1) := KY8.out.cell 1
        clear hb0 hbad hrr
        go_wp2_with fail
        go_quiet (fail)
        go_wp2_with fail
        refine bodyPost_ret (v := .tuple #[.slice none 0 0, .int .i64 a1, .int .i64 bd]) (by simp [results, Tryz.results13, go_sem]) rfl ⟨BuiltOut.err HR.out rfl, drewN_low B8.out _⟩
    · have hkn : k = n := by omega
      have HE : Hid (buildL ts = endL st) := by
        have h1 := hrun.out
        rw [List.drop_eq_nil_of_le (by have := HN.out; omega)] at h1
        exact build_end h1
      have HSH : Hid (∀ x ∈ st.1, x.2.2.2.2.2.length ≤ 1000000000) := fun x hx => by
        have h1 := hsh.out x hx
        have h2 := bulk_take_le ts k
        have h3 := HBK.out
        omega
      have HKN : Hid (k ≤ 100000) := by unfold Hid; omega
      have HWH := Lib.hid (whole_any k (G + 1) G wr st hgs.out hok.out)
      have HWE := Lib.hid (whole_end (st := st))
      clear hrun hsh hkn
      cases hw : wholeL st with
      | false =>
        have HR : Hid (buildL ts = ([], 0, 6)) := HE.out.trans (HWE.out.1 hw)
        rw [hw] at HWH
        clear hw
        go_wp2_with (go_at_call 31; refine HWH.out.mono ?_; rintro e w1 ⟨rfl, rfl⟩)
        refine bodyPost_ret (v := .tuple #[.slice none 0 0, .int .i64 0, .int .i64 6]) (by simp [results, Tryz.results13, go_sem]) rfl ⟨BuiltOut.err HR.out rfl, hbl.out⟩
      | true =>
        have HR : Hid (buildL ts = finL st.1) := HE.out.trans (HWE.out.2 hw)
        rw [hw] at HWH
        obtain ⟨EA, ecap, OA, ocap, gb, ge, -⟩ := hgs.out.cells
        obtain ⟨els, hels⟩ : ∃ els, st.1 = els := ⟨_, rfl⟩
        have hm := hok.out.many
        rw [hels] at HR HSH gb ge hm
        obtain ⟨m, hm2⟩ : ∃ m, els.length = m := ⟨_, rfl⟩
        have HM := Lib.hid hm2
        rw [hm2] at gb hm ge
        have c0 : wr.cell? ⟨G, 0, none⟩ = some (.slice EA m ecap) := gb.cell 0
        have GE := Lib.hid ge
        clear hw hgs hok gb ge hels hm2 HE HWE
        go_wp2_with (go_at_call 31; refine HWH.out.mono ?_; rintro e w1 ⟨rfl, rfl⟩)
        go_loopw [9, 31] (fun nv i wr => ∃ (q : Nat) (nw : Value), q ≤ m ∧ i = .int .i64 q ∧ nv = nw ∧ Hid (OwnN (G + 1) wr nw (doneF els 0 (els.take q))) ∧ Hid (∀ j, j < q → wrongAt els j = false) ∧ Hid (OwnE k (G + 1) wr (.slice EA m ecap) els (kidOf els)) ∧ Hid (Below G w wr) ∧ Hid (G + 1 ≤ wr.heap.size)) (fun _ i _ => m - (intOf i).toNat)
        case atStart => exact ⟨0, _, Nat.zero_le _, rfl, rfl, OwnN.nil _ _, Lib.hid (fun j h => absurd h (Nat.not_lt_zero _)), GE, hbl, hz⟩
        case round =>
          obtain ⟨q, nw, hq, rfl, hnv, hon, hno, hoe, hbl2, hz2⟩ := hrel
          have hnv2 := hnv.symm
          clear hnv GE hbl hz c0
          subst hnv2
          obtain ⟨NA, ncap, hnf⟩ := hon.out.slice
          subst hnf
          obtain ⟨nn, hnn⟩ : ∃ nn, (doneF els 0 (els.take q)).length = nn := ⟨_, rfl⟩
          have HNN := Lib.hid hnn
          rw [hnn] at hon ⊢
          by_cases hlt : q < m
          · have hnq : nn ≤ 1000 := by rw [← hnn, doneF_len, List.length_take]; have := HM.out; omega
            clear hnn
            have hoe2 := hoe.out
            rw [← HM.out] at hoe2
            obtain ⟨g, gcap, e1, hBg, hgl, -, hat⟩ := hoe2.at (by have := HM.out; omega)
            injection e1 with e1 _ e2
            subst e1 e2
            obtain ⟨x, hx⟩ : ∃ x, els[q]? = some x := ⟨_, List.getElem?_eq_getElem (by have := HM.out; omega)⟩
            obtain ⟨av, tv, ⟨k0, k1, k2, k3, k4, k5, k6, k7⟩, hra, l, hl1, hl2, hl3⟩ := hat q x hx
            have hsx := HSH.out x (List.mem_of_getElem? hx)
            have HDT := Lib.hid (done_take hx)
            have HWR := Lib.hid (wrong_eq hx)
            have HX1 := Lib.hid hx
            obtain ⟨VA, vcap, rfl, -⟩ := id hra
            obtain ⟨TA, tcap, rfl⟩ := hl1.slice
            obtain ⟨vn, hvn⟩ : ∃ vn, x.2.2.2.2.1.length = vn := ⟨_, rfl⟩
            obtain ⟨ln, hln⟩ : ∃ ln, l.length = ln := ⟨_, rfl⟩
            obtain ⟨f, hf⟩ : ∃ f, kidOf els q = f := ⟨_, rfl⟩
            rw [hvn] at hra k4
            rw [hln] at hl1 k6
            rw [hf] at k7 HWR
            have HF := Lib.hid hf
            obtain ⟨Y, hY⟩ : ∃ Y, wr.heap.size = Y := ⟨_, rfl⟩
            obtain ⟨W7, hW7⟩ : ∃ W7, wr.alloc (.cells #[.int .i64 x.1, .int .i64 x.2.1, .string (bts x.2.2.1), .string (bts x.2.2.2.1), .slice VA vn vcap, .string ⟨#[]⟩, .slice TA ln tcap, .bool f] 75) = W7 := ⟨_, rfl⟩
            have hw7 : Below wr.heap.size wr W7 := by rw [← hW7]; exact (Below.refl _ _).alloc (Nat.le_refl _) _
            have KY : BkE W7 Y x (.slice VA vn vcap) (.slice TA ln tcap) f := by unfold BkE; rw [← hW7, ← hY]; exact Bk.new _ _ _
            have ht7 : OwnT (G + 1) W7 (.slice TA ln tcap) l := hl1.keep (.below hw7)
            have hlf : l.flatten.length ≤ 1000000000 := by rw [hl2]; exact hsx
            have hln9 : l.length ≤ 1000000000 := by have := HKN.out; omega
            have HMX := Lib.hid (mixed_any (G + 1) Y x _ _ f l W7 KY ht7 hlf hln9)
            have HDN := Lib.hid (fun W (hb : Below W7.heap.size W7 W) => done_any (G + 1) Y x _ _ f l W (Bk.below KY hb (Bk.lt KY)) (ht7.keep (.below hb)) ((hra.keep (KeepA.below hw7)).keep (KeepA.below hb)) hlf hln9)
            have HKY := Lib.hid KY
            have HRA := Lib.hid (hra.keep (KeepA.below hw7))
            have ON7 := Lib.hid (hon.out.below hw7)
            have OE7 := Lib.hid (hoe.out.below hw7)
            have B7 : Hid (Below G w W7) := hbl2.out.trans (hw7.mono (by have := hz2.out; omega))
            have Z7 : Hid (G + 1 ≤ W7.heap.size) := Nat.le_trans hz2.out hw7.size
            rw [hl2] at HMX HDN
            rw [← HWR.out] at HMX
            have HDA : Hid (doneAt els q x = (x.1, x.2.1, x.2.2.1, x.2.2.2.1, x.2.2.2.2.1, leftT f x.2.2.2.2.2)) := by unfold Hid doneAt leftT; rw [HF.out]
            obtain ⟨a0, h0⟩ : ∃ a : Int, x.1 = a := ⟨_, rfl⟩
            obtain ⟨a1, h1⟩ : ∃ a : Int, x.2.1 = a := ⟨_, rfl⟩
            obtain ⟨a2, h2⟩ : ∃ a, bts x.2.2.1 = a := ⟨_, rfl⟩
            obtain ⟨a3, h3⟩ : ∃ a, bts x.2.2.2.1 = a := ⟨_, rfl⟩
            obtain ⟨a5, h5⟩ : ∃ a, bts (leftT f x.2.2.2.2.2) = a := ⟨_, rfl⟩
            rw [h0, h1, h2, h3] at hW7
            rw [h0] at k0
            rw [h1] at k1
            rw [h2] at k2
            rw [h3] at k3
            rw [h0, h1, h2, h3, h5] at HDN
            have HH := Lib.hid (And.intro h0 (And.intro h1 (And.intro h2 (And.intro h3 h5))))
            have HW7 := Lib.hid hW7
            have HYE := Lib.hid hY
            have hqi : (q : Int) < (m : Int) := by omega
            clear hW7 hY hw7 KY ht7 hlf hln9 hra hl1 hl2 hl3 hsx hat hoe2 hx hon hoe hbl2 hz2 h0 h1 h2 h3 h5 hvn hln hf hBg hgl
            go_upto_region 15 with fail
            rw [HW7.out, HYE.out]
            clear k0 k1 k2 k3 k4 k5 k6 k7 HW7 HYE
            go_wp2_with fail
            refine HMX.out.mono ?_
            rintro e w8 ⟨rfl, b8⟩
            have HKY8 := Lib.hid (Bk.below HKY.out b8 (Bk.lt HKY.out))
            have ON8 := Lib.hid (ON7.out.below b8)
            have OE8 := Lib.hid (OE7.out.below b8)
            have RA8 := Lib.hid (HRA.out.keep (KeepA.below b8))
            have B8 : Hid (Below G w w8) := B7.out.trans (b8.mono (by have := Z7.out; omega))
            have Z8 : Hid (G + 1 ≤ w8.heap.size) := Nat.le_trans Z7.out b8.size
            have HDN8 := Lib.hid (HDN.out w8 b8)
            clear b8 HDN ON7 OE7 HRA B7 Z7 HKY HMX
            cases hwr : wrongAt els q with
            | true =>
              have HR2 : Hid (buildL ts = ([], a1, 10)) := by
                unfold Hid
                rw [HR.out, fin_wrong hno.out HX1.out hwr, HH.out.2.1]
              have y1 : w8.cell? ⟨Y, 1, none⟩ = some (.int .i64 a1) := by rw [← HH.out.2.1]; exact Bk.cell HKY8.out 1
              clear hwr
              go_wp2_with fail
              go_quiet (fail)
              go_wp2_with fail
              refine bodyPost_ret (v := .tuple #[.slice none 0 0, .int .i64 a1, .int .i64 10]) (by simp [results, Tryz.results13, go_sem]) rfl ⟨BuiltOut.err HR2.out rfl, drewN_low B8.out _⟩
            | false =>
              have hno2 : Hid (∀ j, j < q + 1 → wrongAt els j = false) := fun j hj => by
                rcases Nat.lt_or_ge j q with h | h
                · exact hno.out j h
                · obtain rfl : j = q := by omega
                  exact hwr
              clear hwr
              go_wp2_with fail
              refine HDN8.out.mono ?_
              rintro e w9 ⟨rfl, b9⟩
              have ON9 := Lib.hid (ON8.out.below b9)
              have OE9 := Lib.hid (OE8.out.below b9)
              have RA9 := Lib.hid (RA8.out.keep (KeepA.below b9))
              have B9 : Hid (Below G w w9) := B8.out.trans (b9.mono (by have := Z8.out; omega))
              have Z9 := Nat.le_trans Z8.out b9.size
              have hnl : (doneF els 0 (els.take q)).length ≤ 1000000000 := by rw [HNN.out]; omega
              clear b9 HDN8 ON8 OE8 RA8 B8 Z8 HKY8
              go_wp2_with (at_builtin; refine push_node rfl _ _ rfl (G + 1) (.slice NA nn ncap) (doneF els 0 (els.take q)) (x.1, x.2.1, x.2.2.1, x.2.2.2.1, x.2.2.2.2.1, leftT f x.2.2.2.2.2) (.slice VA vn vcap) a0 a1 a2 a3 a5 HH.out.1 HH.out.2.1 HH.out.2.2.1 HH.out.2.2.2.1 HH.out.2.2.2.2 w9 rfl ON9.out RA9.out rfl hnl Z9 ?_)
              intro v10 w10 o10 b10 k10
              have O10 : Hid (OwnN (G + 1) w10 v10 (doneF els 0 (els.take (q + 1)))) := by unfold Hid; rw [HDT.out, HDA.out]; exact o10
              have OE10 : Hid (OwnE k (G + 1) w10 (.slice (some ⟨g, 0, none⟩) m ecap) els (kidOf els)) := OE9.out.keep (fun k cs hk => k10 k cs _ hk (by decide)) (fun k cs hk => k10 k cs _ hk (by decide)) (fun k cs hk => k10 k cs _ hk (by decide))
              have B10 : Hid (Below G w w10) := B9.out.trans (b10.mono (Nat.le_succ G))
              have Z10 : Hid (G + 1 ≤ w10.heap.size) := Nat.le_trans Z9 b10.size
              clear o10 b10 k10 Z9 hnl ON9 OE9 RA9 B9
              go_wp2_with fail
              go_roundw
              case rel => exact ⟨q + 1, v10, by omega, by go_num, rfl, O10, hno2, OE10, B10, Z10⟩
              case measure => simp [intOf]; omega
          · have hqm : q = m := by omega
            have HR2 : Hid (buildL ts = (doneF els 0 els, 0, 0)) := by
              unfold Hid
              rw [HR.out, fin_right (fun i hi => hno.out i (by have := HM.out; omega))]
            have O9 : Hid (OwnN (G + 1) wr (.slice NA nn ncap) (doneF els 0 els)) := by
              have h1 := hon.out
              rw [List.take_of_length_le (by have := HM.out; omega)] at h1
              exact h1
            clear hnn hqm
            go_wp2_with fail
            refine bodyPost_ret (v := .tuple #[.slice NA nn ncap, .int .i64 0, .int .i64 0]) (by simp [results, Tryz.results13, go_sem]) rfl ⟨⟨_, by rw [HR2.out]; rfl, ?_⟩, hbl2.out⟩
            rw [HR2.out]
            exact O9.out.weak (Nat.le_succ G)
end Go.Proofs.YtbkfmbkamocllaaGreatDoor
