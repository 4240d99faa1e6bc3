/-
  package tree: begin.
-/
import Derived.Test.YtbkfmbkamocllaaGreatDoorTrN
import Derived.Deep.RegionLaw
namespace Go.Proofs.YtbkfmbkamocllaaGreatDoor
open Go.RowKit Tk Tr

theorem whole_bad (st : St) : badOpen st = if wholeL st = true then 6 else if st.2.length = 12 then 7 else if st.1.length = 1000 then 4 else 0 := by
  have e : wholeL st = true ↔ (st.1 ≠ [] ∧ st.2 = []) := by
    unfold wholeL
    rw [Bool.and_eq_true, decide_eq_true_eq, decide_eq_true_eq, List.length_pos_iff, List.length_eq_zero_iff]
  unfold badOpen
  by_cases h : st.1 ≠ [] ∧ st.2 = []
  · rw [if_pos h, if_pos (e.2 h)]
  · rw [if_neg h, if_neg (fun h2 => h (e.1 h2))]
theorem kid_far {st : St} (hok : OkS st) : kidOf st.1 st.1.length = false := by
  unfold kidOf
  rw [List.any_eq_false]
  intro x hx
  have := hok.par x hx
  simp
  omega
theorem flag_any {st : St} (hok : OkS st) (t : TokI) (i : Nat) (hi : i < st.1.length + 1) : ((if i < st.1.length then kidOf st.1 i else false) || decide (topI st.2 = (i : Int))) = kidOf (st.1 ++ [nodeOf st t]) i := by
  rw [kid_new]
  show _ = (kidOf st.1 i || decide (topI st.2 = (i : Int)))
  by_cases h : i < st.1.length
  · rw [if_pos h]
  · obtain rfl : i = st.1.length := by omega
    rw [if_neg h, kid_far hok]
theorem flag_none {st : St} (hok : OkS st) (ho : st.2.getLast? = none) (t : TokI) (i : Nat) (hi : i < st.1.length + 1) : (if i < st.1.length then kidOf st.1 i else false) = kidOf (st.1 ++ [nodeOf st t]) i := by
  rw [← flag_any hok t i hi]
  have : topI st.2 = -1 := by unfold topI; rw [ho]
  rw [this, decide_eq_false (by omega), Bool.or_false]
theorem flag_some {st : St} (hok : OkS st) {p : Nat} (ho : st.2.getLast? = some p) (t : TokI) (i : Nat) (hi : i < st.1.length + 1) : ((if i < st.1.length then kidOf st.1 i else false) || decide (i = p)) = kidOf (st.1 ++ [nodeOf st t]) i := by
  rw [← flag_any hok t i hi]
  have : topI st.2 = (p : Int) := by unfold topI; rw [ho]
  rw [this]
  congr 1
  by_cases h : i = p
  · subst h; simp
  · rw [decide_eq_false h, decide_eq_false (by omega)]
/-- how a step of what grows ends -/
def Stepped (N B G : Nat) (w : World) (bad : Nat) (st st' : St) (e : Ending) (w' : World) : Prop := e = .returned (.int .i64 (bad : Nat)) ∧ GS N B G w' (if bad = 0 then st' else st) ∧ Tn G B w w' ∧ KeepT 63 w w'
set_option maxHeartbeats 4000000 in
set_option maxRecDepth 100000 in
theorem begin_any (N B G : Nat) (w : World) (st : St) (t : TokI) (u : Value) (h : GS N B G w st) (hok : OkS st) (hu : ReadA w u t.2.2.2.2.1) (hl : t.2.2.2.2.1.length ≤ 1000000000) (hG : G < B) (hB : B ≤ w.heap.size) :
    Calls Tryz.prog 52 #[.pointer (some ⟨G, 0, none⟩), agT t u] w fun e w' => Stepped N B G w (badOpen st) st (beginL st t) e w' := by
  have HBD := Lib.hid (whole_bad st)
  have HOK := Lib.hid hok
  unfold agT
  obtain ⟨UA, ucap, rfl, -⟩ := id hu
  obtain ⟨T, hT⟩ : ∃ T, w.heap.size = T := ⟨_, rfl⟩
  obtain ⟨a0, h0⟩ : ∃ a : Int, t.1 = a := ⟨_, rfl⟩
  obtain ⟨a1, h1⟩ : ∃ a : Int, t.2.1 = a := ⟨_, rfl⟩
  obtain ⟨a2, h2⟩ : ∃ a, bts t.2.2.1 = a := ⟨_, rfl⟩
  obtain ⟨a3, h3⟩ : ∃ a, bts t.2.2.2.1 = a := ⟨_, rfl⟩
  obtain ⟨a5, h5⟩ : ∃ a, t.2.2.2.2.2 = a := ⟨_, rfl⟩
  obtain ⟨un, hun⟩ : ∃ n, t.2.2.2.2.1.length = n := ⟨_, rfl⟩
  obtain ⟨W1, hW1⟩ : ∃ W1, w.alloc (.cells #[.int .i64 a0, .int .i64 a1, .string a2, .string a3, .slice UA un ucap, .bool a5] 63) = W1 := ⟨_, rfl⟩
  have hw1 : Below w.heap.size w W1 := by rw [← hW1]; exact (Below.refl _ _).alloc (Nat.le_refl _) _
  have G1 := h.below hw1
  have HNODE := node_any N B G W1.drew st t (.slice UA t.2.2.2.2.1.length ucap) G1.drew hok (hu.below hw1.drew) hl
  unfold agT at HNODE
  rw [h0, h1, h2, h3, h5, hun] at HNODE ⊢
  have HND := Lib.hid HNODE
  have HE5 := Lib.hid h5
  have HWHL := Lib.hid (whole_any N B G W1 st G1 hok)
  obtain ⟨A, cap, OA, ocap, gb, ge, go⟩ := G1.cells
  have KT : Hid (Bk W1 T 63 #[.int .i64 a0, .int .i64 a1, .string a2, .string a3, .slice UA un ucap, .bool a5]) := by rw [← hW1, ← hT]; exact Bk.new _ _ _
  have N1 : Hid (Tn G B w W1) := Tn.of (hw1.mono hB)
  have KK1 : Hid (KeepT 63 w W1) := KeepT.below hw1
  have c1 : W1.cell? ⟨G, 1, none⟩ = some (.slice OA st.2.length ocap) := gb.cell 1
  have c0 : W1.cell? ⟨G, 0, none⟩ = some (.slice A st.1.length cap) := gb.cell 0
  have HHT := Lib.hid (height_any G OA st.2.length ocap W1 c1)
  have GB := Lib.hid gb
  have GE := Lib.hid ge
  have GO := Lib.hid go
  have Z1 : Hid (B ≤ W1.heap.size) := Nat.le_trans hB hw1.size
  have HG := Lib.hid hG
  have HGS := Lib.hid G1
  have HW1 := Lib.hid hW1
  have HTT := Lib.hid hT
  have hm := hok.many
  have hd := hok.deep
  obtain ⟨n, hn⟩ : ∃ n, st.1.length = n := ⟨_, rfl⟩
  obtain ⟨m, hm2⟩ : ∃ m, st.2.length = m := ⟨_, rfl⟩
  have HN := Lib.hid hn
  have HM := Lib.hid hm2
  rw [hn] at c0 hm GE GB HBD
  rw [hm2] at c1 hd HHT GB GO HBD
  clear h hok hu hl hG hB hT h0 h1 h2 h3 h5 hun hW1 hw1 G1 HNODE gb ge go hn hm2
  go_enter Tryz.func52, Tryz.ntmps52
  go_upto_region 1 with fail
  rw [HW1.out, HTT.out]
  go_wp2_with fail
  refine HWHL.out.mono ?_
  rintro e w1 ⟨rfl, rfl⟩
  cases hw : wholeL st with
  | true =>
    have hb : Hid (badOpen st = 6) := by unfold Hid; rw [HBD.out, hw]; rfl
    clear hw
    go_wp2_with fail
    go_ret
    rw [hb.out]
    exact ⟨rfl, HGS.out, N1.out, KK1.out⟩
  | false =>
    have HBD2 : Hid (badOpen st = if m = 12 then 7 else if n = 1000 then 4 else 0) := by unfold Hid; rw [HBD.out, hw]; rfl
    clear hw HBD
    by_cases h12 : m = 12
    · have hb : Hid (badOpen st = 7) := by unfold Hid; rw [HBD2.out, if_pos h12]
      have g12 : ((m : Int) == 12) = true := by simp; omega
      clear h12
      go_wp2_with (go_at_call 55; refine HHT.out.mono ?_; rintro e w1 ⟨rfl, rfl⟩)
      go_ret
      rw [hb.out]
      exact ⟨rfl, HGS.out, N1.out, KK1.out⟩
    have HBD3 : Hid (badOpen st = if n = 1000 then 4 else 0) := by unfold Hid; rw [HBD2.out, if_neg h12]
    have g12 : ((m : Int) == 12) = false := by simp; omega
    clear h12 HBD2
    by_cases h1000 : n = 1000
    · have hb : Hid (badOpen st = 4) := by unfold Hid; rw [HBD3.out, if_pos h1000]
      have g1000 : ((n : Int) == 1000) = true := by simp; omega
      clear h1000
      go_wp2_with (go_at_call 55; refine HHT.out.mono ?_; rintro e w1 ⟨rfl, rfl⟩)
      go_ret
      rw [hb.out]
      exact ⟨rfl, HGS.out, N1.out, KK1.out⟩
    have HBD4 : Hid (badOpen st = 0) := by unfold Hid; rw [HBD3.out, if_neg h1000]
    have g1000 : ((n : Int) == 1000) = false := by simp; omega
    clear h1000 HBD3
    have t0 : w1.cell? ⟨T, 0, none⟩ = some (.int .i64 a0) := KT.out.cell 0
    have t1 : w1.cell? ⟨T, 1, none⟩ = some (.int .i64 a1) := KT.out.cell 1
    have t2 : w1.cell? ⟨T, 2, none⟩ = some (.string a2) := KT.out.cell 2
    have t3 : w1.cell? ⟨T, 3, none⟩ = some (.string a3) := KT.out.cell 3
    have t4 : w1.cell? ⟨T, 4, none⟩ = some (.slice UA un ucap) := KT.out.cell 4
    have t5 : w1.cell? ⟨T, 5, none⟩ = some (.bool a5) := KT.out.cell 5
    go_upto_region 8 with (go_at_call 55; refine HHT.out.mono ?_; rintro e w1 ⟨rfl, rfl⟩)
    have hTG : Hid (T ≠ G) := Bk.type_ne KT.out GB.out (by decide)
    have HNL : Hid (st.1.length ≤ 1000000000) := by unfold Hid; rw [HN.out]; omega
    have HZ3 := Lib.hid (fun (x : Nat) (h : w1.heap.size ≤ x) => Nat.le_trans Z1.out h)
    have HNP : Hid (∃ p0 p1 : Int, ∃ s2 s3 : ByteArray, (nodeOf st t).1 = p0 ∧ (nodeOf st t).2.1 = p1 ∧ bts (nodeOf st t).2.2.1 = s2 ∧ bts (nodeOf st t).2.2.2.1 = s3) := ⟨_, _, _, _, rfl, rfl, rfl, rfl⟩
    obtain ⟨p0, p1, s2, s3, hp0, hp1, hs2, hs3⟩ := HNP.out
    have HP := Lib.hid (And.intro hp0 (And.intro hp1 (And.intro hs2 hs3)))
    unfold agN at HND
    rw [hp0, hp1, hs2, hs3] at HND
    rw [show (bts (nodeOf st t).2.2.2.2.2 : ByteArray) = ⟨#[]⟩ from rfl] at HND
    clear hp0 hp1 hs2 hs3
    go_region_law (first
      | (go_simp; go_at_call 73; refine HND.out.mono ?_; rintro e w3 ⟨v, rfl, rv, b3⟩; have b3' : Below w1.heap.size w1 w3 := (Below.refl w1.heap.size w1).drew.trans b3; have kg3 := GB.out.below b3' GB.out.lt; have kt3 := KT.out.below b3' KT.out.lt; have g03 : w3.cell? ⟨G, 0, none⟩ = some (.slice A n cap) := kg3.cell 0; have g03a : ∀ o, (w3.alloc o).cell? ⟨G, 0, none⟩ = some (.slice A n cap) := fun o => (kg3.alloc o).cell 0; obtain ⟨VA, vcap, hv, -⟩ := id rv; subst hv; have KG3 := Lib.hid kg3; have KT3 := Lib.hid kt3; have B3 := Lib.hid b3'; have RV := Lib.hid rv; clear b3 b3' kg3 kt3 rv)
      | (refine step_elm rfl _ _ rfl N B (.slice A n cap) st.1 (kidOf st.1) (nodeOf st t) (.slice VA (others t.2.2.2.2.1).length vcap) w3 _ _ rfl ?_ ?_ rfl ?_ ?_ rfl rfl ?_ ?_ ?_; exact (Below.refl _ _).alloc (Nat.le_refl _) _; rw [HP.out.1, HP.out.2.1, HP.out.2.2.1, HP.out.2.2.2]; exact Bk.new _ _ _; exact GE.out.below B3.out; exact RV.out; exact HNL.out; exact HZ3.out _ B3.out.size; intro v9 w9 o9 b9 k9; have kg9 := k9 _ _ _ KG3.out (by decide); have g09 : w9.cell? ⟨G, 0, none⟩ = some (.slice A n cap) := kg9.cell 0; have f9 := kg9.free 0; obtain ⟨A9, cap9, hv9⟩ := o9.slice; subst hv9; have O9 := Lib.hid o9; have B9 := Lib.hid b9; have KG9 := Lib.hid kg9; have KT9 := Lib.hid (k9 _ _ _ KT3.out (by decide)); have KK9 : Hid (KeepT 63 w1 w9) := (KeepT.below B3.out).trans (fun k cs hk => k9 k cs _ hk (by decide)); have OI9 := Lib.hid (row_keep (w' := w9) (GO.out.below B3.out) (fun k cs hk => k9 k cs _ hk (by decide))); clear o9 b9 kg9 k9))
    all_goals
      have O9L := O9.out
      rw [List.length_append, List.length_singleton] at O9L
      obtain ⟨kg10, ke10, ko10⟩ := GS.store0 KG9.out O9L OI9.out
      have kt10 := KT9.out.far (p := ⟨G, 0, none⟩) hTG.out (.slice A9 (st.1.length + 1) cap9)
      have n10 : Tn G B w (w9.setCell ⟨G, 0, none⟩ (.slice A9 (st.1.length + 1) cap9)) := (N1.out.trans ((Tn.of B3.out).mono Z1.out |>.trans (Tn.of B9.out))).set 0 _
      have z10 : B ≤ (w9.setCell ⟨G, 0, none⟩ (.slice A9 (st.1.length + 1) cap9)).heap.size := by rw [World.size_setCell]; have := B9.out.size; have := B3.out.size; have := Z1.out; omega
      have kk10 : KeepT 63 w (w9.setCell ⟨G, 0, none⟩ (.slice A9 (st.1.length + 1) cap9)) := (KK1.out.trans KK9.out).trans (KeepT.set KG9.out (by decide) _ _)
      obtain ⟨W10, hW10⟩ : ∃ W10, w9.setCell ⟨G, 0, none⟩ (.slice A9 (st.1.length + 1) cap9) = W10 := ⟨_, rfl⟩
      rw [hW10] at kg10 ke10 ko10 kt10 n10 z10 kk10 ⊢
      obtain ⟨x, hx⟩ : ∃ x, nodeOf st t = x := ⟨_, rfl⟩
      have HXN := Lib.hid hx
      rw [hx] at ke10
      have d1 : W10.cell? ⟨G, 1, none⟩ = some (.slice OA m ocap) := kg10.cell 1
      have HTOP := Lib.hid (top_any B G W10 _ st.2 d1 ko10 (by have := HM.out; omega) (fun p hp => by have := HOK.out.open_ p hp; have := HOK.out.many; omega))
      have KG10 := Lib.hid kg10
      have KE10 := Lib.hid ke10
      have KO10 := Lib.hid ko10
      have KT10 := Lib.hid kt10
      have N10 := Lib.hid n10
      have Z10 := Lib.hid z10
      have KK10 := Lib.hid kk10
      clear kg10 ke10 ko10 kt10 n10 z10 kk10 KK9 hW10 hx O9L O9 KG9 OI9 KT9 B9 B3 KG3 KT3 RV g09 g03 g03a f9 d1 t0 t1 t2 t3 t4 t5 c0 c1 HHT HND
      go_upto_region 9 with fail
      go_wp2_with fail
      refine HTOP.out.mono ?_
      rintro e w11 ⟨rfl, b11⟩
      have KG11 := Lib.hid (KG10.out.below b11 KG10.out.lt)
      have KE11 := Lib.hid (KE10.out.below b11)
      have KO11 := Lib.hid (KO10.out.below b11)
      have KT11 := Lib.hid (KT10.out.below b11 KT10.out.lt)
      have N11 : Hid (Tn G B w w11) := N10.out.trans ((Tn.of b11).mono Z10.out)
      have KK11 : Hid (KeepT 63 w w11) := KK10.out.trans (KeepT.below b11)
      have Z11 : Hid (B ≤ w11.heap.size) := Nat.le_trans Z10.out b11.size
      clear b11 KG10 KE10 KO10 KT10 N10 Z10 KK10 HTOP
      cases ho : st.2.getLast? with
      | none =>
        have hd : decide (st.2 ≠ []) = false := decide_eq_false (fun h => h (List.getLast?_eq_none_iff.1 ho))
        have hfl := Lib.hid (fun i hi => flag_none HOK.out ho t i hi)
        rw [hd]
        clear hd ho
        obtain ⟨w12, hw12⟩ : ∃ w12, w11 = w12 := ⟨_, rfl⟩
        rw [hw12] at KG11 KE11 KO11 KT11 N11 Z11 KK11 ⊢
        have KK12 := KK11
        have KE12 : Hid (OwnE N B w12 (.slice A9 (st.1.length + 1) cap9) (st.1 ++ [x]) (kidOf (st.1 ++ [x]))) := KE11.out.flag (fun i hi => by rw [hfl.out i (by rw [List.length_append, List.length_singleton] at hi; exact hi), HXN.out])
        have KG12 := KG11
        have KO12 := KO11
        have N12 := N11
        have Z12 := Z11
        have u5 : w12.cell? ⟨T, 5, none⟩ = some (.bool a5) := KT11.out.cell 5
        clear hw12 KE11 KG11 KO11 N11 Z11 KK11 hfl
        cases a5 with
        | true =>
          go_wp2_with fail
          go_ret
          rw [HBD4.out]
          refine ⟨rfl, ?_, N12.out, KK12.out⟩
          rw [if_pos rfl]
          unfold beginL
          rw [HE5.out, HXN.out]
          exact ⟨_, _, KG12.out, KE12.out, KO12.out⟩
        | false =>
          have HPUT := Lib.hid (put_any N B G w12 (st.1 ++ [x]) st.2 n ⟨_, _, KG12.out, KE12.out, KO12.out⟩ (by have := HM.out; omega) Z12.out)
          go_wp2_with fail
          refine HPUT.out.mono ?_
          rintro e w13 ⟨rfl, g13, n13, k13⟩
          have G13 := Lib.hid g13
          have N13 : Hid (Tn G B w w13) := N12.out.trans n13
          have K13 : Hid (KeepT 63 w w13) := KK12.out.trans k13
          clear g13 n13 k13
          go_wp2_with fail
          go_ret
          rw [HBD4.out]
          refine ⟨rfl, ?_, N13.out, K13.out⟩
          rw [if_pos rfl]
          unfold beginL
          rw [HE5.out, HXN.out, HN.out]
          exact G13.out
      | some p =>
        have hd : decide (st.2 ≠ []) = true := decide_eq_true (fun e => by rw [e] at ho; cases ho)
        have hfl := Lib.hid (fun i hi => flag_some HOK.out ho t i hi)
        have hpl := HOK.out.open_ p (List.mem_of_getLast? ho)
        have KE11' : OwnE N B w11 (.slice A9 (st.1 ++ [x]).length cap9) (st.1 ++ [x]) (fun i => if i < st.1.length then kidOf st.1 i else false) := by rw [List.length_append, List.length_singleton]; exact KE11.out
        obtain ⟨gE, cE, e1, hBg, hgl, ⟨cs, hcs⟩, hat⟩ := KE11'.at (by simp)
        injection e1 with e1 _ e2
        subst e1 e2
        obtain ⟨y, hy⟩ : ∃ y, (st.1 ++ [x])[p]? = some y := ⟨_, List.getElem?_eq_getElem (by rw [List.length_append]; omega)⟩
        obtain ⟨av, tv, ⟨_, _, _, _, _, _, _, k7⟩, _⟩ := hat p y hy
        obtain ⟨vf, k7⟩ : ∃ v, w11.cell? ⟨gE, p * 8 + 7, none⟩ = some v := ⟨_, k7⟩
        have f7 : w11.frozen? ⟨gE, p * 8 + 7, none⟩ = false := hcs.free _
        have gc : w11.cell? ⟨G, 0, none⟩ = some (.slice (some ⟨gE, 0, none⟩) (st.1.length + 1) cap9) := KG11.out.cell 0
        have KM := KE11'.mark (p := p) (by rw [List.length_append]; omega)
        rw [List.length_append, List.length_singleton] at KM
        have hEG : gE ≠ G := Bk.type_ne hcs KG11.out (by decide)
        have hET : gE ≠ T := Bk.type_ne hcs KT11.out (by decide)
        have hpi : (p : Int) < (st.1.length : Int) + 1 := by omega
        have hpn : p < st.1.length + 1 := by omega
        have hpb : p < 1000 := by have := HN.out; omega
        have kg12 := KG11.out.far (p := ⟨gE, p * 8 + 7, none⟩) (show G ≠ gE from fun e => hEG e.symm) (.bool true)
        have kt12 := KT11.out.far (p := ⟨gE, p * 8 + 7, none⟩) (show T ≠ gE from fun e => hET e.symm) (.bool true)
        have ko12 := row_keep KO11.out (KeepT.set hcs (by decide) (p * 8 + 7) (.bool true))
        have n12 := N11.out.setHigh (p := ⟨gE, p * 8 + 7, none⟩) hBg (.bool true)
        have z12 : B ≤ (w11.setCell ⟨gE, p * 8 + 7, none⟩ (.bool true)).heap.size := by rw [World.size_setCell]; exact Z11.out
        have kk12 := KK11.out.trans (KeepT.set (u := 63) hcs (by decide) (p * 8 + 7) (.bool true))
        obtain ⟨w12, hw12⟩ : ∃ w12, w11.setCell ⟨gE, p * 8 + 7, none⟩ (.bool true) = w12 := ⟨_, rfl⟩
        rw [hw12] at kg12 kt12 ko12 n12 z12 kk12 KM
        have KE12 : Hid (OwnE N B w12 (.slice (some ⟨gE, 0, none⟩) (st.1.length + 1) cap9) (st.1 ++ [x]) (kidOf (st.1 ++ [x]))) := KM.flag (fun i hi => by rw [hfl.out i (by rw [List.length_append, List.length_singleton] at hi; exact hi), HXN.out])
        have KG12 := Lib.hid kg12
        have KO12 := Lib.hid ko12
        have KT12 := Lib.hid kt12
        have N12 := Lib.hid n12
        have Z12 := Lib.hid z12
        have KK12 := Lib.hid kk12
        have HW12 := Lib.hid hw12
        rw [hd]
        clear ho hd hfl KE11 KE11' KM hcs hat hy hBg hgl kg12 kt12 ko12 n12 z12 kk12 hw12 hEG hET hpl
        go_upto_region 12 with fail
        rw [HW12.out]
        have u5 : w12.cell? ⟨T, 5, none⟩ = some (.bool a5) := KT12.out.cell 5
        clear KG11 KO11 KT11 N11 Z11 KK11 k7 f7 gc HW12
        cases a5 with
        | true =>
          go_wp2_with fail
          go_ret
          rw [HBD4.out]
          refine ⟨rfl, ?_, N12.out, KK12.out⟩
          rw [if_pos rfl]
          unfold beginL
          rw [HE5.out, HXN.out]
          exact ⟨_, _, KG12.out, KE12.out, KO12.out⟩
        | false =>
          have HPUT := Lib.hid (put_any N B G w12 (st.1 ++ [x]) st.2 n ⟨_, _, KG12.out, KE12.out, KO12.out⟩ (by have := HM.out; omega) Z12.out)
          go_wp2_with fail
          refine HPUT.out.mono ?_
          rintro e w13 ⟨rfl, g13, n13, k13⟩
          have G13 := Lib.hid g13
          have N13 : Hid (Tn G B w w13) := N12.out.trans n13
          have K13 : Hid (KeepT 63 w w13) := KK12.out.trans k13
          clear g13 n13 k13
          go_wp2_with fail
          go_ret
          rw [HBD4.out]
          refine ⟨rfl, ?_, N13.out, K13.out⟩
          rw [if_pos rfl]
          unfold beginL
          rw [HE5.out, HXN.out, HN.out]
          exact G13.out
end Go.Proofs.YtbkfmbkamocllaaGreatDoor
