import Derived.Test.YtbgaglcgennhiaaGreatDoorB13
import Derived.Test.YtbgaglcgennhiaaGreatDoorB15
/- what is reached of it -/
namespace Go.Proofs.YtbgaglcgennhiaaGreatDoor
open Go.RowKit Rg
set_option maxHeartbeats 1000000 in
theorem apart_any (h l : Int) (w : World) (hh : Fit h) (hl : Fit l) : Calls Tryz.prog 249 #[.int .i64 h, .int .i64 l] w fun e w' => e = .returned (.bool (decide (h + 1 < l))) ∧ w = w' := by
  unfold Fit at hh hl
  rcases Bool.eq_false_or_eq_true (decide (h < l)) with h1 | h1
  · have hw : wrap64 (l - 1) = l - 1 := by simp at h1; unfold wrap64; omega
    have h2 : decide (h < l - 1) = decide (h + 1 < l) := by
      rw [decide_eq_decide]
      omega
    clear hh hl
    generalize decide (h + 1 < l) = q at h2 ⊢
    go_enter Tryz.func249, Tryz.ntmps249
    go_wp2_with fail
    go_ret
    exact ⟨rfl, rfl⟩
  · have h2 : decide (h + 1 < l) = false := by simp at h1 ⊢; omega
    rw [h2]
    clear hh hl h2
    go_enter Tryz.func249, Tryz.ntmps249
    go_wp2_with fail
    go_ret
    exact ⟨rfl, rfl⟩

/-- the last range's end, moved -/
theorem OwnR.moved {B : Nat} {w : World} {g cap : Nat} {ys : List R} {p z : Int × Int} {n : Nat} (h : OwnR B w (.slice (Option.some ⟨g, 0, none⟩) n cap) (ys ++ [p])) (hz : z.1 = p.1) :
    OwnR B (w.setCell ⟨g, ys.length * 2 + 1, none⟩ (.int .i64 z.2)) (.slice (Option.some ⟨g, 0, none⟩) n cap) (ys ++ [z]) ∧ Below B w (w.setCell ⟨g, ys.length * 2 + 1, none⟩ (.int .i64 z.2)) := by
  obtain ⟨g', cap', cur, e, hB, hk, h1, h2, h3, h4⟩ := h.full (by simp)
  injection e with e1 e2 e3
  injection e1 with e1
  injection e1 with e1
  subst e1
  subst e2
  subst e3
  have hl : (ys ++ [p]).length = (ys ++ [z]).length := by simp
  have hl2 : (ys ++ [z]).length = ys.length + 1 := by simp
  refine ⟨⟨prs_length _, .inr ⟨g, cap, cur.setIfInBounds (ys.length * 2 + 1) (.int .i64 z.2), by rw [hl], hB, hk.put _ _, by omega, h2, by simpa using h3, ?_⟩⟩, ⟨rfl, rfl, rfl, by simp [World.setCell], fun k hkb => Below.heap_setCell _ _ _ _ (by simp; omega)⟩⟩
  rw [prs_append, prs_one] at h4 ⊢
  rw [hl] at h4
  rw [hl2] at h4 ⊢
  have hyl := prs_length ys
  refine List.ext_getElem? fun j => ?_
  by_cases hj : j < (ys.length + 1) * 2
  · have h5 := congrArg (·[j]?) h4
    simp only [List.getElem?_take_of_lt hj] at h5 ⊢
    rw [Array.toList_setIfInBounds, List.getElem?_set]
    by_cases hjj : ys.length * 2 + 1 = j
    · subst hjj
      rw [if_pos rfl, if_pos (by have := Array.length_toList (xs := cur); rw [hl, hl2] at h1; omega), List.getElem?_append_right (by omega)]
      rw [hyl, show ys.length * 2 + 1 - ys.length * 2 = 1 by omega]
      rfl
    · rw [if_neg hjj, h5]
      by_cases hj2 : j < ys.length * 2
      · rw [List.getElem?_append_left (by omega), List.getElem?_append_left (by omega)]
      · obtain rfl : j = ys.length * 2 := by omega
        rw [List.getElem?_append_right (by omega), List.getElem?_append_right (by omega), hyl, Nat.sub_self, hz]
        rfl
  · rw [List.getElem?_eq_none (by rw [List.length_take]; omega), List.getElem?_eq_none (by rw [List.length_append, hyl]; simp; omega)]

set_option maxHeartbeats 4000000 in
theorem rgjoined_any (B : Nat) (v : Value) (acc : List R) (a b : Int) (w : World) (hv : OwnR B w v acc) (hB : B ≤ w.heap.size) (hf : Fits acc) (hr : Fit a ∧ Fit b) (hl : acc.length ≤ 100000000000) :
    Calls Tryz.prog 221 #[v, .agg #[.int .i64 a, .int .i64 b]] w fun e w' => ∃ v', e = .returned v' ∧ OwnR B w' v' (Rg.step acc (a, b)) ∧ Below B w w' := by
  have hb1 : Below B w (w.alloc (.cells #[.int .i64 a, .int .i64 b] 185)) := (Below.refl B w).alloc hB _
  have hk := Bk.new w 185 #[.int .i64 a, .int .i64 b]
  have HV := Lib.hid (hv.below ((Below.refl w.heap.size w).alloc (Nat.le_refl _) (.cells #[.int .i64 a, .int .i64 b] 185)))
  have HS : Hid (w.heap.size < (w.alloc (.cells #[.int .i64 a, .int .i64 b] 185)).heap.size) := Lib.hid (by simp)
  rcases List.eq_nil_or_concat acc with rfl | ⟨ys, p, rfl⟩
  · rw [step_nil]
    obtain ⟨A, cap, rfl⟩ := hv.slice
    clear hf hr hl hv
    go_enter Tryz.func221, Tryz.ntmps221
    go_wp2_with fail
    go_big_quiet (fail)
    obtain ⟨w1, hw1⟩ : ∃ w1, (w.alloc (.cells #[.int .i64 a, .int .i64 b] 185)).drewN nq = w1 := ⟨_, rfl⟩
    have hv1 : Hid (OwnR B w1 (.slice A ([] : List R).length cap) []) := by rw [← hw1]; exact HV.out.below (drewN_below (Below.refl _ _) nq)
    have hk1 : Bk w1 w.heap.size 185 #[.int .i64 a, .int .i64 b] := by rw [← hw1]; exact hk
    have hb2 : Below B w w1 := by rw [← hw1]; exact drewN_below hb1 nq
    rw [hw1]
    have k0 := hk1.cell 0
    have k1 := hk1.cell 1
    have kf := hk1.free 0
    simp at k0 k1
    have hB1 : B ≤ w1.heap.size := Nat.le_trans hB hb2.size
    clear hk hk1 hb1 hw1 HV HS
    go_wp2_with (at_builtin; refine push_rng rfl _ _ rfl B (.slice A ([] : List R).length cap) [] a b w1 rfl hv1.out rfl (by simp) hB1 ?_)
    intro v2 w2 o2 b2
    have o2' := Lib.hid o2
    have b3 := hb2.trans b2
    clear o2 b2
    go_wp2_with fail
    go_ret
    exact ⟨_, rfl, o2'.out, b3⟩
  · rw [List.concat_eq_append] at *
    obtain ⟨x, y⟩ := p
    obtain ⟨g, cap, cur, rfl, hBg, hgk, hc1, hc2, hc3, hc4⟩ := hv.full (by simp)
    have hn : (ys ++ [(x, y)]).length = ys.length + 1 := by simp
    have hxy := hf (x, y) (by simp)
    have HA := Lib.hid (fun (W : World) => apart_any y a W hxy.2 hr.1)
    have hcell := hv.reads
    obtain ⟨A', cap', e', _, hx⟩ := hcell
    injection e' with e1 e2 e3
    subst e1
    subst e3
    obtain ⟨ad, e4, _, hc⟩ := hx (by rw [hn]; omega)
    injection e4 with e4
    subst e4
    have hcc := hc ys.length (x, y) (by simp)
    rw [add_at, Nat.zero_add] at hcc
    obtain ⟨c0, c1⟩ := hcc
    simp only at c0 c1
    have hgl := hgk.lt
    have HG := Lib.hid hgl
    have d1 : (w.alloc (.cells #[.int .i64 a, .int .i64 b] 185)).cell? ⟨g, ys.length * 2 + 1, none⟩ = some (.int .i64 y) := by rw [← c1]; exact World.cell?_of_block (Below.heap_alloc w _ g hgl)
    have HF : Hid (∀ W, Below w.heap.size w W → W.frozen? ⟨g, ys.length * 2 + 1, none⟩ = false) := Lib.hid (fun W h => by rw [h.frozen (p := ⟨g, _, none⟩) hgl]; exact hgk.free _)
    rw [hn] at hl HV ⊢
    obtain ⟨n, hn1, hn2⟩ : ∃ n : Nat, ys.length + 1 = n ∧ (n : Int) - 1 = (ys.length : Int) := ⟨_, rfl, by omega⟩
    have hlt : ys.length < n := by omega
    have hbig : n ≤ 100000000000 := by omega
    rw [hn1] at HV ⊢
    clear hc1 hc2 hc3 hc4 hc hx c0 c1 hf hr hl hgk hn hxy hn1 hv
    rcases Bool.eq_false_or_eq_true (decide (y + 1 < a)) with h | h
    · rw [step_apart ys (x, y) (a, b) (by simpa using h)]
      have hz : decide ((ys.length : Int) < 0) = false := by simp
      rw [h] at HA
      clear h
      go_enter Tryz.func221, Tryz.ntmps221
      go_wp2_with fail
      go_big_quiet ((go_at_call 249; exact (HA.out _).mono (fun _ _ h => ⟨h.1, _, h.2.symm⟩)))
      obtain ⟨w1, hw1⟩ : ∃ w1, (w.alloc (.cells #[.int .i64 a, .int .i64 b] 185)).drewN nq = w1 := ⟨_, rfl⟩
      have hv1 : Hid (OwnR B w1 (.slice (some ⟨g, 0, none⟩) n cap) (ys ++ [(x, y)])) := by rw [← hw1]; exact HV.out.below (drewN_below (Below.refl _ _) nq)
      have hk1 : Bk w1 w.heap.size 185 #[.int .i64 a, .int .i64 b] := by rw [← hw1]; exact hk
      have hb2 : Below B w w1 := by rw [← hw1]; exact drewN_below hb1 nq
      have hb3 : Below w.heap.size w w1 := by rw [← hw1]; exact drewN_below ((Below.refl w.heap.size w).alloc (Nat.le_refl _) _) nq
      rw [hw1]
      have k0 := hk1.cell 0
      have k1 := hk1.cell 1
      have kf := hk1.free 0
      simp at k0 k1
      have hB1 : B ≤ w1.heap.size := Nat.le_trans hB hb2.size
      have d2 : w1.cell? ⟨g, ys.length * 2 + 1, none⟩ = some (.int .i64 y) := by rw [← hw1]; exact d1
      have df := HF.out w1 hb3
      clear hk hk1 hb1 hb3 hw1 HV HS d1 HF
      go_wp2_with (at_builtin; refine push_rng rfl _ _ rfl B (.slice (some ⟨g, 0, none⟩) n cap) (ys ++ [(x, y)]) a b w1 rfl hv1.out rfl (by simp; omega) hB1 ?_)
      intro v2 w2 o2 b2
      have o2' := Lib.hid o2
      have b3 := hb2.trans b2
      clear o2 b2
      go_wp2_with fail
      go_ret
      exact ⟨_, rfl, by rw [List.append_assoc]; exact o2'.out, b3⟩
    · rw [step_joined ys (x, y) (a, b) (by simpa using h)]
      have hz : decide ((ys.length : Int) < 0) = false := by simp
      rw [h] at HA
      clear h
      go_enter Tryz.func221, Tryz.ntmps221
      go_wp2_with fail
      go_big_quiet ((go_at_call 249; exact (HA.out _).mono (fun _ _ h => ⟨h.1, _, h.2.symm⟩)))
      obtain ⟨w1, hw1⟩ : ∃ w1, (w.alloc (.cells #[.int .i64 a, .int .i64 b] 185)).drewN nq = w1 := ⟨_, rfl⟩
      have hv1 : Hid (OwnR B w1 (.slice (some ⟨g, 0, none⟩) n cap) (ys ++ [(x, y)])) := by rw [← hw1]; exact HV.out.below (drewN_below (Below.refl _ _) nq)
      have hk1 : Bk w1 w.heap.size 185 #[.int .i64 a, .int .i64 b] := by rw [← hw1]; exact hk
      have hb2 : Below B w w1 := by rw [← hw1]; exact drewN_below hb1 nq
      have hb3 : Below w.heap.size w w1 := by rw [← hw1]; exact drewN_below ((Below.refl w.heap.size w).alloc (Nat.le_refl _) _) nq
      rw [hw1]
      have k0 := hk1.cell 0
      have k1 := hk1.cell 1
      have kf := hk1.free 0
      simp at k0 k1
      have hB1 : B ≤ w1.heap.size := Nat.le_trans hB hb2.size
      have d2 : w1.cell? ⟨g, ys.length * 2 + 1, none⟩ = some (.int .i64 y) := by rw [← hw1]; exact d1
      have df := HF.out w1 hb3
      clear hk hk1 hb1 hb3 hw1 HV HS d1 HF
      go_wp2_with fail
      go_region
      obtain ⟨o2, b2⟩ := hv1.out.moved (z := (x, max y b)) rfl
      have o2' : Hid (OwnR B (w1.setCell ⟨g, ys.length * 2 + 1, none⟩ (.int .i64 (max y b))).drew (.slice (some ⟨g, 0, none⟩) n cap) (ys ++ [(x, max y b)])) := o2
      have b3 : Below B w (w1.setCell ⟨g, ys.length * 2 + 1, none⟩ (.int .i64 (max y b))).drew := (hb2.trans b2).drew
      clear o2 b2
      go_wp2_with fail
      go_ret
      exact ⟨_, rfl, o2'.out, b3⟩

set_option maxHeartbeats 4000000 in
theorem join_any (va vb : Value) (a b : List R) (w : World) (ha : ReadR w.heap.size w va a) (hb : ReadR w.heap.size w vb b) (fa : Fits a) (fb : Fits b) (hl : a.length ≤ 10000000000) (hm : b.length ≤ 10000000000) :
    Calls Tryz.prog 189 #[va, vb] w fun e w' => ∃ v, e = .returned v ∧ OwnR w.heap.size w' v (joinL a b) ∧ Below w.heap.size w w' := by
  have HRA := Lib.hid (right_any va a w ha (by omega))
  have HRB := Lib.hid (fun W (h : Below w.heap.size w W) => right_any vb b W ((hb.below h).more h.size) (by omega))
  obtain ⟨Aa, ca, rfl, ha1, ha2⟩ := ha
  obtain ⟨Ab, cb, rfl, hb1, hb2⟩ := hb
  have HA : Hid (ReadR w.heap.size w (.slice Aa a.length ca) a) := ⟨Aa, ca, rfl, ha1, ha2⟩
  have HB : Hid (ReadR w.heap.size w (.slice Ab b.length cb) b) := ⟨Ab, cb, rfl, hb1, hb2⟩
  clear ha1 ha2 hb1 hb2
  cases hra : rightB a with
  | false =>
    rw [hra] at HRA
    rw [joinL_wrong (by rw [hra]; simp)]
    go_enter Tryz.func189, Tryz.ntmps189
    go_wp2_with (go_at_call 216; refine HRA.out.mono ?_; rintro e w1 ⟨rfl, b1⟩)
    go_ret
    exact ⟨_, rfl, OwnR.nil _ _, b1⟩
  | true =>
    cases hrb : rightB b with
    | false =>
      rw [hra] at HRA
      rw [hrb] at HRB
      rw [joinL_wrong (by rw [hrb]; simp)]
      go_enter Tryz.func189, Tryz.ntmps189
      go_wp2_with fail
      refine HRA.out.mono ?_
      rintro e w1 ⟨rfl, b1⟩
      go_wp2_with fail
      refine (HRB.out w1 b1).mono ?_
      rintro e w2 ⟨rfl, b2⟩
      have b3 := b1.trans (b2.mono b1.size)
      clear b2
      go_wp2_with fail
      go_ret
      exact ⟨_, rfl, OwnR.nil _ _, b3⟩
    | true =>
      have HJ := Lib.hid (fun (d : List R) (hp : d.Perm (a ++ b)) (hs : d.Pairwise fun p q => p.1 ≤ q.1) => joinL_of (IsJoin.of_sorted hra hrb hp hs))
      rw [hra] at HRA
      rw [hrb] at HRB
      have HF := Lib.hid (fa.append fb)
      clear hra hrb fa fb
      go_enter Tryz.func189, Tryz.ntmps189
      go_wp2_with fail
      refine HRA.out.mono ?_
      rintro e w1 ⟨rfl, b1⟩
      go_wp2_with fail
      refine (HRB.out w1 b1).mono ?_
      rintro e w2 ⟨rfl, b2⟩
      have b3 := b1.trans (b2.mono b1.size)
      have hs3 := b3.size
      have b4 := b3.alloc hs3 (.cells #[.slice Aa a.length ca, .slice Ab b.length cb] 166)
      have hs4 := b4.size
      have HC := Lib.hid (concat_any w2.heap.size _ _ a b _ 166 (Bk.new w2 166 #[.slice Aa a.length ca, .slice Ab b.length cb]) ((HA.out.below b4).more hs4) ((HB.out.below b4).more hs4) (by omega) (by omega))
      clear b1 b2
      go_wp2_with fail
      refine HC.out.mono ?_
      rintro e w5 ⟨v5, rfl, o5, b5⟩
      have b6 := b4.trans (b5.mono hs4)
      have o6 := o5.weak hs4
      have HS := Lib.hid (sort_any w.heap.size v5 (a ++ b) w5 o6 (by simp; omega))
      clear b5 o5 b4 HC b3 o6
      go_wp2_with fail
      refine HS.out.mono ?_
      rintro e w7 ⟨rfl, d, hp, hs, o7, b7⟩
      have b8 := b6.trans b7
      have hdl : d.length = a.length + b.length := by rw [hp.length_eq, List.length_append]
      have HD := Lib.hid (HJ.out d hp hs)
      have HDF : Hid (Fits d) := Lib.hid (fun r hr => HF.out r (hp.mem_iff.1 hr))
      have O7 := Lib.hid o7
      obtain ⟨A7, c7, rfl⟩ := o7.slice
      have hdb : d.length ≤ 20000000000 := by omega
      clear b7 b6 HS HJ hp hs HF o7 hdl
      have HR7 := Lib.hid O7.out.reads
      go_wp2_with fail
      go_loopw [6, 25] (fun vv i wr => ∃ (k : Nat) (v : Value), vv = v ∧ k ≤ d.length ∧ i = .int .i64 k ∧ Below w.heap.size w wr ∧ Below w7.heap.size w7 wr ∧ Hid (OwnR w7.heap.size wr v ((d.take k).foldl Rg.step []))) (fun _ i _ => d.length - (intOf i).toNat)
      case atStart => exact ⟨0, _, rfl, Nat.zero_le _, rfl, b8, Below.refl _ _, OwnR.nil _ _⟩
      case round =>
        obtain ⟨k, v, hv, hk, rfl, bw, bw7, ho⟩ := hrel
        have hv2 := hv.symm
        clear hv
        subst hv2
        have hsw7 := bw7.size
        by_cases hlt : k < d.length
        · obtain ⟨A8, c8, e8, _, hx⟩ := HR7.out
          injection e8 with e1 e2 e3
          subst e1
          clear e2 e3
          obtain ⟨ad, rfl, hlb, hc⟩ := hx (by omega)
          obtain ⟨⟨p, q⟩, hr⟩ : ∃ r, d[k]? = some r := ⟨_, List.getElem?_eq_getElem hlt⟩
          have hcc := hc k _ hr
          have c0 := hcc.1
          have c1 := hcc.2
          rw [← bw7.cell (p := ad.add (k * 2)) (by rw [addBlock]; omega)] at c0
          rw [← bw7.cell (p := ⟨(ad.add (k * 2)).block, (ad.add (k * 2)).off + 1, none⟩) (by show (ad.add (k * 2)).block < _; rw [addBlock]; omega)] at c1
          have b9 := bw7.alloc hsw7 (.cells #[.int .i64 p, .int .i64 q] 185)
          have hacc := fold_length (d.take k) []
          have HN := Lib.hid (rgjoined_any w7.heap.size v ((d.take k).foldl Rg.step []) p q (wr.alloc (.cells #[.int .i64 p, .int .i64 q] 185)) (ho.out.below ((Below.refl _ _).alloc (Nat.le_refl _) _)) (by simp; omega) (fold_fits (fun r hr => by simp at hr) (fun r hr => HDF.out r (List.mem_of_mem_take hr))) (HDF.out (p, q) (List.mem_of_getElem? hr)) (by simp at hacc; omega))
          have htk : Hid ((d.take (k + 1)).foldl Rg.step [] = Rg.step ((d.take k).foldl Rg.step []) (p, q)) := Lib.hid (by rw [List.take_add_one, hr]; simp)
          have bw2 := bw.alloc bw.size (.cells #[.int .i64 p, .int .i64 q] 185)
          clear hcc hc hx hr hacc
          simp only at c0 c1
          go_wp2_with fail
          refine HN.out.mono ?_
          rintro e w10 ⟨v10, rfl, o10, b10⟩
          have b11 := b9.trans b10
          have o11 : Hid (OwnR w7.heap.size w10 v10 ((d.take (k + 1)).foldl Rg.step [])) := by unfold Hid; rw [htk.out]; exact o10
          have bw3 := bw2.trans (b10.mono b8.size)
          clear b9 b10 o10 bw2 HN htk
          go_wp2_with fail
          go_roundw
          case rel => exact ⟨k + 1, _, rfl, by omega, by go_num, bw3, b11, o11⟩
          case measure => simp [intOf]; omega
        · have hke : k = d.length := by omega
          have ho2 : Hid (OwnR w.heap.size wr v (joinL a b)) := by
            have := ho.out
            rw [hke, List.take_length, HD.out] at this
            exact this.weak b8.size
          clear hke
          go_wp2_with fail
          go_ret
          exact ⟨_, rfl, ho2.out, bw⟩
end Go.Proofs.YtbgaglcgennhiaaGreatDoor
