/-
  cardexref08: take.
-/
import Derived.Test.YtpomcamkkcggmaaGreatDoorRtC
import Derived.Deep.Cut
import Derived.Deep.DeepCutAuto
import Derived.Test.YtpomcamkkcggmaaGreatDoorTrK
namespace Go.Proofs.YtpomcamkkcggmaaGreatDoor
open Go.RowKit Tk Tr

theorem Owned.cells {B : Nat} {w : World} {v : Value} {x : List Nat} (h : Owned B w v x) (hx : x ≠ []) : ∃ g cap, v = .slice (some ⟨g, 0, none⟩) x.length cap ∧ x.length ≤ cap ∧ (∃ cs, Bk w g 3 cs) ∧ ∀ i p, x[i]? = some p → w.cell? ⟨g, i, none⟩ = some (.int .i64 (p : Nat)) := by
  have h' : w.ownsRow B 3 1 v x.length (ints x) := h
  rcases h'.2 with ⟨rfl, h0⟩ | ⟨g, cap, cur, rfl, hb, hh, h1, _, _, h4⟩
  · exact absurd (List.eq_nil_of_length_eq_zero h0) hx
  · refine ⟨g, cap, rfl, h1, ⟨cur, hh⟩, fun i p hi => ?_⟩
    have hi2 := (List.getElem?_eq_some_iff.1 hi).1
    have h5 := ints_get x i hi2
    rw [List.getD_eq_getElem?_getD, hi, Option.getD_some] at h5
    rw [show w.cell? ⟨g, i, none⟩ = cur[i]? from Bk.cell (show Bk w g 3 cur from hh) i, ← Array.getElem?_toList]
    rwa [← h4, List.getElem?_take_of_lt (by omega)] at h5
/-- The document's way to close one: what is open, without the last. -/
theorem step_drop {ops : Array Oper} {o : Oper} {a : Act} {K : Act → World → Prop} {Q : Exit → Act → World → Prop} {E : Prop} (hgd : o.guard = none) (y : Operand) (ho : o.op = .call { callee := .builtin .append, args := #[.const (.slice none 0 0), y], argTypes := #[38, 38] })
    (B : Nat) (l : List Nat) (W : World) (g k c : Nat) (hy : a.eval y = .slice (some ⟨g, 0, none⟩) k c) (hk : k ≤ l.length) (hc : ∀ i p, l[i]? = some p → W.cell? ⟨g, i, none⟩ = some (.int .i64 (p : Nat))) (hl : l.length ≤ 1000000) (hB : B ≤ W.heap.size)
    (h : ∀ v' w', Owned B w' v' (l.take k) → Below W.heap.size W w' → K (a.put o.dst v') w') : if Region.wanted o (yielded ops a.tmps) = true then Oper.wp Tryz.prog o a W K Q else E := by
  have hw : Region.wanted o (yielded ops a.tmps) = true := by simp [Region.wanted, hgd]
  rw [if_pos hw]
  obtain ⟨i0, hi, hz0, hz1, hz2⟩ := info_parts infoInt
  refine wp_append_own _ (.const (.slice none 0 0)) y 38 ho B 3 i0 _ 1 8 Tryz.underlying38 hi hz0 hz1 hz2 rfl (by decide) (.slice none 0 0) 0 [] rfl (World.ownsRow_nil _ _ _ _) ⟨g, 0, none⟩ k c (ints (l.take k)) hy (by rw [ints_length, List.length_take, Nat.mul_one]; omega) ?_ (ints_cells _) ?_ ?_ hB ?_
  · intro j u hj
    have hj2 := (List.getElem?_eq_some_iff.1 hj).1
    rw [ints_length, List.length_take] at hj2
    rw [ints_get _ j (by rw [List.length_take]; omega), List.getD_eq_getElem?_getD, List.getElem?_take_of_lt (by omega), List.getElem?_eq_getElem (by omega : j < l.length), Option.getD_some] at hj
    rw [add_at, Nat.zero_add, hc j _ (List.getElem?_eq_getElem (by omega : j < l.length))]
    exact hj
  · unfold maxLen; omega
  · omega
  · intro v' w' hown2 hg _
    refine h v' w' ?_ ?_
    · unfold Owned
      rw [List.length_take, Nat.min_eq_left hk]
      rw [Nat.zero_add, List.nil_append] at hown2
      exact hown2
    · exact (Below.refl _ _).grown hg (Nat.le_refl _) (fun j hj => by cases hj)
theorem OwnT.put {B : Nat} {w : World} {g cap n : Nat} {l : List (List UInt8)} (h : OwnT B w (.slice (some ⟨g, 0, none⟩) n cap) l) (j : Nat) (c : List UInt8) : OwnT B (w.setCell ⟨g, j, none⟩ (.string (bts c))) (.slice (some ⟨g, 0, none⟩) n cap) (l.set j c) := by
  have h' : w.ownsRow B 9 1 (.slice (some ⟨g, 0, none⟩) n cap) l.length (sts l) := h
  have hn : n = l.length := by
    rcases h'.2 with ⟨e, _⟩ | ⟨_, _, _, e, _⟩
    · simp at e
    · simp at e; exact e.2.1
  subst hn
  have := (h'.stored j (.string (bts c))).1
  rw [show (sts l).set j (.string (bts c)) = sts (l.set j c) by unfold sts; rw [List.map_set]] at this
  unfold OwnT
  rw [List.length_set]
  exact this
theorem bts_app (a b : List UInt8) : bts (a ++ b) = bts a ++ bts b := by
  apply ByteArray.ext
  rw [ByteArray.data_append]
  simp
theorem say_bare (l : List Nd) (p : Nat) (s : List UInt8) : (l.modify p (addText s)).map bare = l.map bare := by
  apply List.ext_getElem?
  intro i
  rw [List.getElem?_map, List.getElem?_map, List.getElem?_modify]
  cases l[i]? with
  | none => rfl
  | some x => by_cases h : p = i <;> simp [h, bare, addText]
theorem say_txt {l : List Nd} {p : Nat} {x : Nd} (hx : l[p]? = some x) (s : List UInt8) : (l.modify p (addText s)).map txt = (l.map txt).set p (txt x ++ s) := by
  apply List.ext_getElem?
  intro i
  rw [List.getElem?_map, List.getElem?_set, List.getElem?_map, List.getElem?_modify, List.length_map]
  have hp := (List.getElem?_eq_some_iff.1 hx).1
  by_cases h : p = i
  · subst h
    rw [hx, if_pos rfl, if_pos hp]
    simp [txt, addText]
  · rw [if_neg h]
    cases l[i]? <;> simp [h]
theorem RS.say {B G g n cap : Nat} {w : World} {lv ov : Value} {st : St} (gb : Bk w G 57 #[lv, ov, .slice (some ⟨g, 0, none⟩) n cap]) (hn : OwnN B w lv (st.1.map bare)) (ho : Owned B w ov st.2) (ht : OwnT B w (.slice (some ⟨g, 0, none⟩) n cap) (st.1.map txt))
    {p : Nat} {x : Nd} (hx : st.1[p]? = some x) (hp : st.2.getLast? = some p) (s : List UInt8) : RS B G (w.setCell ⟨g, p, none⟩ (.string (bts (txt x ++ s)))) (sayL st s) := by
  obtain ⟨_, _, cs, hcs⟩ := ht.at (g := g) rfl
  have e : sayL st s = (st.1.modify p (addText s), st.2) := by unfold sayL; rw [hp]
  rw [e]
  have hne : G ≠ g := Bk.type_ne gb hcs (by decide)
  refine ⟨lv, ov, _, gb.far (p := ⟨g, p, none⟩) hne _, ?_, ?_, ?_⟩
  · rw [say_bare]
    exact hn.keep (KeepT.set hcs (by decide) _ _) (KeepT.set hcs (by decide) _ _)
  · exact row_keep ho (KeepT.set hcs (by decide) _ _)
  · rw [say_txt hx]
    exact ht.put p (txt x ++ s)
set_option maxHeartbeats 8000000 in
set_option maxRecDepth 100000 in
theorem rtake_any (B G : Nat) (w : World) (st : St) (t : TokI) (u : Value) (h : RS B G w st) (hok : OkS st) (hu : ReadA w u t.2.2.2.2.1) (hl : t.2.2.2.2.1.length ≤ 1000000000) (hs : t.2.2.2.1.length ≤ 1000000000) (hsh : ∀ x ∈ st.1, x.2.2.2.2.2.length ≤ 1000000000) (hG : G < B) (hB : B ≤ w.heap.size) :
    Calls Tryz.prog 23 #[.pointer (some ⟨G, 0, none⟩), agT t u] w fun e w' => RStep B G w (badL st t) st (nextL st t) e w' := by
  obtain ⟨UA, ucap, rfl, -⟩ := id hu
  obtain ⟨un, hun⟩ : ∃ n, t.2.2.2.2.1.length = n := ⟨_, rfl⟩
  obtain ⟨T, hT⟩ : ∃ T, w.heap.size = T := ⟨_, rfl⟩
  obtain ⟨W1, hW1⟩ : ∃ W1, w.alloc (.cells #[.int .i64 t.1, .int .i64 t.2.1, .string (bts t.2.2.1), .string (bts t.2.2.2.1), .slice UA un ucap, .bool t.2.2.2.2.2] 45) = W1 := ⟨_, rfl⟩
  have hw1 : Below w.heap.size w W1 := by rw [← hW1]; exact (Below.refl _ _).alloc (Nat.le_refl _) _
  have G1 := h.below hw1
  have Z1 : B ≤ W1.heap.size := Nat.le_trans hB hw1.size
  have N1 := Lib.hid (Tn.of (T := G) (hw1.mono hB))
  have KT : Bk W1 T 45 #[.int .i64 t.1, .int .i64 t.2.1, .string (bts t.2.2.1), .string (bts t.2.2.2.1), .slice UA un ucap, .bool t.2.2.2.2.2] := by rw [← hW1, ← hT]; exact Bk.new _ _ _
  have HBE := Lib.hid (fun W (hb : Below W1.heap.size W1 W) => rbegin_any B G W st t (.slice UA t.2.2.2.2.1.length ucap) (G1.below hb) hok ((hu.below hw1).below hb) hl hG (Nat.le_trans Z1 hb.size))
  have HZ1 := Lib.hid Z1
  unfold agT at HBE ⊢
  rw [hun] at HBE ⊢
  have HW1 := Lib.hid hW1
  have HTT := Lib.hid hT
  have HC : Hid ((t.1 = 1 → badL st t = badOpen st ∧ nextL st t = beginL st t) ∧ (t.1 = 2 → badL st t = (if sameName st t.2.2.1 = true then 0 else 6) ∧ nextL st t = (st.1, st.2.dropLast)) ∧ (t.1 = 3 → badL st t = badSay st t.2.2.2.1 ∧ nextL st t = sayL st t.2.2.2.1) ∧ (t.1 ≠ 1 → t.1 ≠ 2 → t.1 ≠ 3 → badL st t = 5)) := ⟨bad_one, bad_two, bad_three, bad_other⟩
  obtain ⟨a0, h0⟩ : ∃ a : Int, t.1 = a := ⟨_, rfl⟩
  obtain ⟨a1, h1⟩ : ∃ a : Int, t.2.1 = a := ⟨_, rfl⟩
  obtain ⟨a2, h2⟩ : ∃ a, bts t.2.2.1 = a := ⟨_, rfl⟩
  obtain ⟨a3, h3⟩ : ∃ a, bts t.2.2.2.1 = a := ⟨_, rfl⟩
  obtain ⟨a5, h5⟩ : ∃ a, t.2.2.2.2.2 = a := ⟨_, rfl⟩
  have H2 := Lib.hid h2
  have H3 := Lib.hid h3
  have hz3 : a3.size ≤ 1000000000 := by rw [← h3]; show (⟨t.2.2.2.1.toArray⟩ : ByteArray).size ≤ _; exact hs
  rw [h0, h1, h2, h3, h5] at HBE HW1 KT
  rw [h0] at HC
  rw [h0, h1, h2, h3, h5]
  obtain ⟨tp, htp⟩ : ∃ tp, topI st.2 = tp := ⟨_, rfl⟩
  have HTP := Lib.hid htp
  rw [htp] at HBE
  have HBD : Hid (∃ bd nx, badL st t = bd ∧ nextL st t = nx) := ⟨_, _, rfl, rfl⟩
  obtain ⟨bd, nx, hbd, hnx⟩ := HBD.out
  rw [hbd, hnx] at HC
  rw [hbd, hnx]
  have HOK := Lib.hid hok
  have HSH := Lib.hid hsh
  have hm := hok.many
  have hd := hok.deep
  obtain ⟨A, cap, OA, ocap, XA, xcap, gb, gn, go, gt⟩ := G1.cells
  obtain ⟨n, hn⟩ : ∃ n, st.1.length = n := ⟨_, rfl⟩
  obtain ⟨m, hm2⟩ : ∃ m, st.2.length = m := ⟨_, rfl⟩
  have HN := Lib.hid hn
  have HM := Lib.hid hm2
  have HKT := Lib.hid KT
  have HG1 := Lib.hid G1
  have hopl : Hid (∀ p, st.2.getLast? = some p → p < n) := fun p hp => by rw [← hn]; exact hok.open_ p (List.mem_of_getLast? hp)
  rw [hn] at gb gn gt hm
  rw [hm2] at gb go hd
  have c1 : W1.cell? ⟨G, 1, none⟩ = some (.slice OA m ocap) := gb.cell 1
  have GO := Lib.hid go
  clear h hok hu hl hs hsh hG hB hun hT hW1 hw1 G1 KT h0 h1 h2 h3 h5 hbd hnx HBD Z1 htp gb gn go gt hn hm2
  go_enter Tryz.func23, Tryz.ntmps23
  go_upto_region 1 with fail
  rw [HW1.out, HTT.out]
  go_upto_if 11 with fail
  go_cut [5] from 5 to 23 (fun s wx => s = .int .i64 tp ∧ Hid (Below W1.heap.size W1 wx))
  case first =>
    by_cases hm0 : m = 0
    · have htp1 : tp = -1 := by
        rw [← HTP.out]
        have : st.2 = [] := List.eq_nil_of_length_eq_zero (by rw [HM.out]; exact hm0)
        rw [this]
        rfl
      have g1 : decide (0 < m) = false := decide_eq_false (by omega)
      have g1p : ¬ 0 < m := by omega
      have HTP1 := Lib.hid htp1
      clear hm0 htp1
      go_wp2_with fail
      go_meet
      exact ⟨by rw [HTP1.out], Below.refl _ _⟩
    · have g1 : decide (0 < m) = true := decide_eq_true (by omega)
      have g1p : 0 < m := by omega
      have hne : st.2 ≠ [] := fun e => hm0 (by rw [← HM.out, e]; rfl)
      have go2 := GO.out
      obtain ⟨g, cap', e1, hle, -, hat⟩ := go2.cells hne
      injection e1 with e1 e3 e2
      rw [HM.out] at hle
      clear e3
      subst e1 e2
      obtain ⟨k, hk⟩ : ∃ k, m = k + 1 := ⟨m - 1, by omega⟩
      obtain ⟨p, hp⟩ : ∃ p, st.2[k]? = some p := ⟨_, List.getElem?_eq_getElem (by have := HM.out; omega)⟩
      have ck := hat k p hp
      have hlast : st.2.getLast? = some p := by rw [List.getLast?_eq_getElem?, HM.out, hk]; exact hp
      have HTP1 : Hid (tp = (p : Int)) := by unfold Hid; rw [← HTP.out]; unfold topI; rw [hlast]
      have hkn : ((m : Int) - 1) = (k : Int) := by omega
      have hlt2 : (k : Int) < (m : Int) := by omega
      have hkb : (k : Int) ≤ 1000 := by omega
      have hk0 : 0 ≤ (k : Int) := by omega
      clear hm0 hne go2 hat hp hlast hk hle
      go_wp2_with fail
      go_quiet (fail)
      go_wp2_with fail
      go_meet
      exact ⟨by rw [HTP1.out], drewN_low (Below.refl _ _) _⟩
  case rest =>
  rename World => w5
  obtain ⟨rfl, hwc⟩ := hcut
  have R2 := Lib.hid (HG1.out.below hwc.out)
  have K2 := Lib.hid (HKT.out.below hwc.out HKT.out.lt)
  have N2 : Hid (Tn G B w w5) := N1.out.trans (Tn.of (hwc.out.mono HZ1.out))
  have Z2 : Hid (B ≤ w5.heap.size) := Nat.le_trans HZ1.out hwc.out.size
  have HB2 := Lib.hid (HBE.out w5 hwc.out)
  have k0 : w5.cell? ⟨T, 0, none⟩ = some (.int .i64 a0) := K2.out.cell 0
  clear c1 GO HBE hwc HG1 HKT N1 HZ1
  by_cases e1 : a0 = 1
  · obtain ⟨q1, q2⟩ := HC.out.1 e1
    have Q1 := Lib.hid q1
    have Q2 := Lib.hid q2
    clear q1 q2
    subst e1
    have k1 : w5.cell? ⟨T, 1, none⟩ = some (.int .i64 a1) := K2.out.cell 1
    have k2 : w5.cell? ⟨T, 2, none⟩ = some (.string a2) := K2.out.cell 2
    have k3 : w5.cell? ⟨T, 3, none⟩ = some (.string a3) := K2.out.cell 3
    have k4 : w5.cell? ⟨T, 4, none⟩ = some (.slice UA un ucap) := K2.out.cell 4
    have k5 : w5.cell? ⟨T, 5, none⟩ = some (.bool a5) := K2.out.cell 5
    go_wp2_with (go_at_call 37; refine HB2.out.mono ?_; rintro e w2 ⟨rfl, s2, s3⟩)
    refine bodyPost_ret (v := .int .i64 (badOpen st : Nat)) (by simp [results, Tryz.results23, go_sem]) rfl ?_
    rw [Q1.out, Q2.out]
    exact ⟨rfl, s2, N2.out.trans s3⟩
  have g1 : (a0 == 1) = false := by simpa using e1
  by_cases e2 : a0 = 2
  · obtain ⟨q1, q2⟩ := HC.out.2.1 e2
    have Q1 := Lib.hid q1
    have Q2 := Lib.hid q2
    clear q1 q2 e1
    subst e2
    have HSN : Hid (∀ p x, st.2.getLast? = some p → st.1[p]? = some x → sameName st t.2.2.1 = decide (x.2.2.1 = t.2.2.1)) := fun p x h1 h2 => same_name h1 h2 _
    have HSO : Hid (st.2.getLast? = none → sameName st t.2.2.1 = false) := fun h => same_none h _
    have HQN : Hid (sameName st t.2.2.1 = true → st.2 ≠ []) := by
      intro h e
      have := same_none (st := st) (by rw [e]; rfl) t.2.2.1
      rw [this] at h
      cases h
    obtain ⟨q, hq⟩ : ∃ q, sameName st t.2.2.1 = q := ⟨_, rfl⟩
    rw [hq] at Q1 HSN HSO HQN
    clear hq
    go_upto_region 9 with fail
    go_cut [48] from 34 to 48 (fun s wx => s = .bool (!q) ∧ Hid (Below w5.heap.size w5 wx))
    case first =>
      obtain ⟨A2, cap2, OA2, ocap2, XA2, xcap2, gb, gn, go, gt⟩ := R2.out.cells
      rw [HN.out] at gb gn gt
      cases ho : st.2.getLast? with
      | none =>
        have hq0 := HSO.out ho
        have ht0 : tp = -1 := by rw [← HTP.out]; unfold topI; rw [ho]
        clear gb gn go gt ho HB2
        subst ht0 hq0
        go_wp2_with fail
        go_quiet (fail)
        go_wp2_with fail
        go_meet
        exact ⟨rfl, drewN_low (Below.refl _ _) _⟩
      | some p =>
        have hpl := hopl.out p ho
        obtain ⟨x, hx⟩ : ∃ x, st.1[p]? = some x := ⟨_, List.getElem?_eq_getElem (by rw [HN.out]; exact hpl)⟩
        have hsn := HSN.out p x ho hx
        have ht0 : tp = (p : Int) := by rw [← HTP.out]; unfold topI; rw [ho]
        obtain ⟨g, cap', e1, hgl, hat⟩ := gn.at (by rw [List.length_map, HN.out]; omega)
        injection e1 with e1 e3 e2
        clear e3
        subst e1 e2
        obtain ⟨u9, _, _, _, kx, _⟩ := hat p (bare x) (by rw [List.getElem?_map, hx]; rfl)
        have c0 : w5.cell? ⟨G, 0, none⟩ = some (.slice (some ⟨g, 0, none⟩) n cap2) := gb.cell 0
        have k2 : w5.cell? ⟨T, 2, none⟩ = some (.string a2) := K2.out.cell 2
        have hne := bts_eqb2 x.2.2.1 t.2.2.1
        rw [← hsn, H2.out] at hne
        obtain ⟨y, hy⟩ : ∃ y, bts x.2.2.1 = y := ⟨_, rfl⟩
        have kx' : w5.cell? ⟨g, p * 6 + 2, none⟩ = some (.string y) := by rw [← hy]; exact kx
        rw [hy] at hne
        have hpi : (p : Int) < (n : Int) := by omega
        have hpb : p < 1000 := by omega
        clear gb gn go gt ho hx hsn hat hgl kx hy HB2
        subst ht0
        cases q
        all_goals
          go_wp2_with fail
          go_quiet (fail)
          go_wp2_with fail
          go_meet
          exact ⟨rfl, drewN_low (Below.refl _ _) _⟩
    case rest =>
      obtain ⟨rfl, hw2⟩ := hcut
      have R3 := Lib.hid (R2.out.below hw2.out)
      have N3 : Hid (Tn G B w wc) := N2.out.trans (Tn.of (hw2.out.mono Z2.out))
      have Z3 : Hid (B ≤ wc.heap.size) := Nat.le_trans Z2.out hw2.out.size
      clear R2 N2 Z2 hw2 HB2 K2 k0 HSN HSO
      cases q with
      | false =>
        go_wp2_with fail
        refine bodyPost_ret (v := .int .i64 6) (by simp [results, Tryz.results23, go_sem]) rfl ?_
        rw [Q1.out, if_neg (by decide)]
        exact ⟨rfl, by rw [if_neg (by decide)]; exact R3.out, N3.out⟩
      | true =>
        have hne := HQN.out rfl
        obtain ⟨A2, cap2, OA2, ocap2, XA2, xcap2, gb, gn, go, gt⟩ := R3.out.cells
        obtain ⟨g, cap', e1, hle, -, hat⟩ := go.cells hne
        injection e1 with e1 e3 e2
        clear e3
        subst e1 e2
        rw [HM.out] at hle gb
        obtain ⟨k, hk⟩ : ∃ k, m = k + 1 := ⟨m - 1, by have := List.length_pos_iff.2 hne; have := HM.out; omega⟩
        have q1 : wc.cell? ⟨G, 1, none⟩ = some (.slice (some ⟨g, 0, none⟩) m ocap2) := gb.cell 1
        have HAT := Lib.hid hat
        have HGB := Lib.hid gb
        have HGN := Lib.hid gn
        have HGT := Lib.hid gt
        have hkn : ((m : Int) - 1) = (k : Int) := by omega
        have hlt : (k : Int) ≤ (ocap2 : Int) := by omega
        have hlt2 : k ≤ ocap2 := by omega
        have hk0 : 0 ≤ (k : Int) := by omega
        have hkw : IntKind.i64.wrap (k : Int) = (k : Int) := by rw [IntKind.wrap_i64]; omega
        have hdl : Hid (st.2.dropLast = st.2.take k) := by unfold Hid; rw [List.dropLast_eq_take, HM.out]; congr 1; omega
        have hkm : Hid (k ≤ st.2.length) := by unfold Hid; rw [HM.out]; omega
        have hll : Hid (st.2.length ≤ 1000000) := by unfold Hid; rw [HM.out]; omega
        clear gb gn go gt hat hne R3 hk hle HQN
        go_upto_region 11 with fail
        go_region_law (refine step_drop rfl _ rfl B st.2 _ g k _ rfl hkm.out ?_ hll.out Z3.out ?_; exact fun i p h => HAT.out i p h; intro v8 w8 o8 b8; have b9 : Below wc.heap.size wc w8 := (Below.refl wc.heap.size wc).drew.trans b8; have g8 := HGB.out.below b9 HGB.out.lt; obtain ⟨A8, cap8, hv8⟩ := o8.slice; obtain ⟨l8, hl8⟩ : ∃ l8, (st.2.take k).length = l8 := ⟨_, rfl⟩; rw [hl8] at hv8; subst hv8; have j1 : w8.cell? ⟨G, 1, none⟩ = some (.slice (some ⟨g, 0, none⟩) m ocap2) := g8.cell 1; have e1 : w8.frozen? ⟨G, 1, none⟩ = false := g8.free 1; have G8 := Lib.hid g8; have O8 := Lib.hid o8; have B8 := Lib.hid b9; clear o8 b8 b9 g8 hl8)
        all_goals
          clear q1 j1 e1
          go_wp2_with fail
          refine bodyPost_ret (v := .int .i64 0) (by simp [results, Tryz.results23, go_sem]) rfl ?_
          rw [Q1.out, if_pos trivial, Q2.out]
          refine ⟨rfl, ?_, (N3.out.trans (Tn.of (B8.out.mono Z3.out))).set 1 _⟩
          rw [if_pos rfl]
          exact RS.of_put1 (st := (st.1, st.2.dropLast)) G8.out (HGN.out.below B8.out) (by rw [hdl.out]; exact O8.out) (HGT.out.keep (.below B8.out))
  have g2 : (a0 == 2) = false := by simpa using e2
  by_cases e3 : a0 = 3
  · obtain ⟨q1, q2⟩ := HC.out.2.2.1 e3
    have Q1 := Lib.hid q1
    have Q2 := Lib.hid q2
    clear q1 q2 e1 e2
    subst e3
    clear HB2
    obtain ⟨A2, cap2, OA2, ocap2, XA2, xcap2, gb, gn, go, gt⟩ := R2.out.cells
    rw [HN.out] at gb gn gt
    have k3 : w5.cell? ⟨T, 3, none⟩ = some (.string a3) := K2.out.cell 3
    cases ho : st.2.getLast? with
    | none =>
      have ht0 : tp = -1 := by rw [← HTP.out]; unfold topI; rw [ho]
      have hse : st.2 = [] := List.getLast?_eq_none_iff.1 ho
      have HS0 := Lib.hid (say_none ho t.2.2.2.1)
      have HBK := rBlank_any a3 w5 (by omega)
      have ha3 : a3.data.toList = t.2.2.2.1 := by rw [← H3.out]
      rw [ha3] at HBK
      have HBS : Hid (badSay st t.2.2.2.1 = if blankL t.2.2.2.1 = false then 6 else 0) := by
        unfold Hid badSay
        by_cases hb : blankL t.2.2.2.1 = false
        · rw [if_pos ⟨hse, hb⟩, if_pos hb]
        · rw [if_neg (fun h => hb h.2), if_neg hb]
      obtain ⟨q, hq⟩ : ∃ q, blankL t.2.2.2.1 = q := ⟨_, rfl⟩
      rw [hq] at HBK HBS
      have HB := Lib.hid HBK
      clear gb gn go gt ho hse HBK ha3 hq
      subst ht0
      cases q with
      | true =>
        go_wp2_with (go_at_call 24; refine HB.out.mono ?_; rintro e w1 ⟨rfl, rfl⟩)
        refine bodyPost_ret (v := .int .i64 0) (by simp [results, Tryz.results23, go_sem]) rfl ?_
        rw [Q1.out, HBS.out, if_neg (by decide), Q2.out, HS0.out]
        exact ⟨rfl, by rw [if_pos rfl]; exact R2.out, N2.out⟩
      | false =>
        go_wp2_with (go_at_call 24; refine HB.out.mono ?_; rintro e w1 ⟨rfl, rfl⟩)
        refine bodyPost_ret (v := .int .i64 6) (by simp [results, Tryz.results23, go_sem]) rfl ?_
        rw [Q1.out, HBS.out, if_pos trivial]
        exact ⟨rfl, by rw [if_neg (by decide)]; exact R2.out, N2.out⟩
    | some p =>
      have hpl := hopl.out p ho
      obtain ⟨x, hx⟩ : ∃ x, st.1[p]? = some x := ⟨_, List.getElem?_eq_getElem (by rw [HN.out]; exact hpl)⟩
      have ht0 : tp = (p : Int) := by rw [← HTP.out]; unfold topI; rw [ho]
      have HB0 : Hid (badSay st t.2.2.2.1 = 0) := by
        unfold Hid badSay
        rw [if_neg (fun h => by rw [h.1] at ho; cases ho)]
      rcases gt.cells with ⟨-, hnil⟩ | ⟨g, cap', e1, -, -, hat⟩
      · exfalso
        have := congrArg List.length hnil
        rw [List.length_map, HN.out] at this
        simp at this
        omega
      rw [List.length_map, HN.out] at e1
      injection e1 with e1 e3 e2
      clear e3
      subst e1 e2
      obtain ⟨_, _, cs, hcs⟩ := gt.at (g := g) rfl
      have hxt := hat p (txt x) (by rw [List.getElem?_map, hx]; rfl)
      obtain ⟨tx, htx⟩ : ∃ tx, bts (txt x) = tx := ⟨_, rfl⟩
      have kx : w5.cell? ⟨g, p, none⟩ = some (.string tx) := by rw [← htx]; exact hxt
      have fx : w5.frozen? ⟨g, p, none⟩ = false := hcs.free p
      have c2 : w5.cell? ⟨G, 2, none⟩ = some (.slice (some ⟨g, 0, none⟩) n xcap2) := gb.cell 2
      have hzx : tx.size ≤ 1000000000 := by rw [← htx]; show (⟨(txt x).toArray⟩ : ByteArray).size ≤ _; exact HSH.out x (List.mem_of_getElem? hx)
      have HTX2 := Lib.hid htx
      have hpi : (p : Int) < (n : Int) := by omega
      have hpb : p < 1000 := by omega
      have hp0 : (0 : Int) ≤ (p : Int) := by omega
      have HSY := Lib.hid (RS.say gb gn go gt hx ho t.2.2.2.1)
      have HCS := Lib.hid hcs
      have HBG : Hid (B ≤ g) := (gt.at (g := g) rfl).1
      clear gb gn go gt ho hx hat hcs hxt htx
      subst ht0
      go_upto_region 14 with fail
      go_region
      all_goals
        go_wp2_with fail
        refine bodyPost_ret (v := .int .i64 0) (by simp [results, Tryz.results23, go_sem]) rfl ?_
        rw [Q1.out, HB0.out, Q2.out]
        have RS1 := HSY.out
        rw [show bts (txt x ++ t.2.2.2.1) = tx ++ a3 by rw [bts_app, HTX2.out, H3.out]] at RS1
        refine ⟨rfl, ?_, (N2.out.setHigh (p := ⟨g, p, none⟩) HBG.out _).drew⟩
        rw [if_pos rfl]
        exact RS1.below (Below.refl _ _).drew
  · have Q1 := Lib.hid (HC.out.2.2.2 e1 e2 e3)
    have g3 : (a0 == 3) = false := by simpa using e3
    clear e1 e2 e3
    go_wp2_with fail
    refine bodyPost_ret (v := .int .i64 5) (by simp [results, Tryz.results23, go_sem]) rfl ?_
    rw [Q1.out]
    exact ⟨rfl, by rw [if_neg (by decide)]; exact R2.out, N2.out⟩
end Go.Proofs.YtpomcamkkcggmaaGreatDoor
