import Derived.Test.YtpaehhlhngilcaaM35
import Derived.Deep.RegionHeld3
import Derived.Test.YtpaehhlhngilcaaM21
import Derived.Test.YtpaehhlhngilcaaM06
import Derived.BigQuiet
/- what is reached of it -/
namespace Go.Proofs.Ytpaehhlhngilcaa
open Go.RowKit Tx Vc Ct
set_option maxHeartbeats 16000000 in
set_option maxRecDepth 100000 in
theorem machineStays_any (m : Mod) (v : Value) (n : Nat) (w : World) (hv : ReadsZ w v n) (hn : n ≤ 9223372036854775807) : Calls Try.prog 4 #[agM m, v] w fun e w' => e = .returned (.bool true) ∧ Below w.heap.size w w' := by
  obtain ⟨A, cap, rfl, hc⟩ := hv
  have HC := Lib.hid hc
  clear hc
  have HAW := Lib.hid (fun W => mawake_any W)
  obtain ⟨a, b, c, d, f⟩ := m
  rw [← agM_mk]
  obtain ⟨R, hR⟩ : ∃ R, rightM ⟨a, b, c, d, f⟩ = R := ⟨_, rfl⟩
  have HR := Lib.hid hR
  obtain ⟨W0, hW0⟩ : ∃ W, w.alloc (.cells #[.bool a, .bool b, .bool c, .bool d, .bool f] 23) = W := ⟨_, rfl⟩
  obtain ⟨p, hp⟩ : ∃ g, w.heap.size = g := ⟨_, rfl⟩
  have Kp_0 : Hid (Bk W0 p 23 #[.bool a, .bool b, .bool c, .bool d, .bool f]) := by rw [← hW0, ← hp]; exact Bk.new _ _ _
  have B_0 : Hid (Below w.heap.size w W0) := by rw [← hW0]; exact (Below.refl _ _).alloc (Nat.le_refl _) _
  have HLp : Hid (w.heap.size ≤ p) := by unfold Hid; omega
  have HW0 := Lib.hid hW0
  have HAp := Lib.hid hp
  clear hW0 hp
  have HRI := Lib.hid (rightM_any a b c d f W0)
  rw [hR] at HRI
  clear hR
  go_enter Try.func4, Try.ntmps4
  go_upto_region 1 with fail
  (try rw [HW0.out])
  (try rw [HAp.out])
  have cp0 : W0.cell? ⟨p, 0, none⟩ = some (.bool a) := Kp_0.out.cell 0
  have cp1 : W0.cell? ⟨p, 1, none⟩ = some (.bool b) := Kp_0.out.cell 1
  have cp2 : W0.cell? ⟨p, 2, none⟩ = some (.bool c) := Kp_0.out.cell 2
  have cp3 : W0.cell? ⟨p, 3, none⟩ = some (.bool d) := Kp_0.out.cell 3
  have cp4 : W0.cell? ⟨p, 4, none⟩ = some (.bool f) := Kp_0.out.cell 4
  go_wp2_with fail
  refine HRI.out.mono ?_
  rintro e v0 ⟨rfl, b0⟩
  clear cp0 cp1 cp2 cp3 cp4
  have Kp_1 : Hid (Bk v0 p 23 #[.bool a, .bool b, .bool c, .bool d, .bool f]) := Kp_0.out.below b0 Kp_0.out.lt
  have B_1 : Hid (Below w.heap.size w v0) := B_0.out.trans (b0.mono B_0.out.size)
  clear Kp_0 B_0
  clear b0 HRI
  cases R with
  | false =>
    go_wp2_with fail
    refine (HAW.out v0).mono ?_
    rintro e v1 ⟨rfl, b1⟩
    have B1 : Hid (Below w.heap.size w v1) := B_1.out.trans (b1.mono B_1.out.size)
    clear b1
    go_wp2_with fail
    go_ret
    exact ⟨rfl, B1.out⟩
  | true =>
    go_wp2_with fail
    go_loopw [5] (fun iv wr => ∃ (k : Nat) (a b c d f : Bool), iv = .int .i64 (k : Nat) ∧ k ≤ n ∧ Hid (rightM ⟨a, b, c, d, f⟩ = true) ∧ Hid (Bk wr p 23 #[.bool a, .bool b, .bool c, .bool d, .bool f]) ∧ Hid (Below w.heap.size w wr)) (fun iv _ => n - (intOf iv).toNat)
    case atStart => exact ⟨0, a, b, c, d, f, rfl, Nat.zero_le _, HR.out, Kp_1.out, B_1.out⟩
    case round =>
      clear HR Kp_1 B_1
      obtain ⟨k, a, b, c, d, f, rfl, hk, HR, KP, BW⟩ := hrel
      by_cases hlt : k < n ∧ k < 100
      · obtain ⟨h1, h2⟩ := hlt
        have h1z : (k : Int) < (n : Int) := by omega
        have h2z : (k : Int) < 100 := by omega
        obtain ⟨ad, rfl, hb, hcz⟩ := HC.out (by omega)
        obtain ⟨z, hz⟩ := hcz k h1
        rw [← BW.out.cell (p := ad.add k) (by rw [addr_block]; exact hb)] at hz
        clear hcz
        obtain ⟨ev, hev⟩ : ∃ ev, z.tmod 9 = ev := ⟨_, rfl⟩
        obtain ⟨⟨x0, x1, x2, x3, x4⟩, hA⟩ : ∃ A, stepM ⟨a, b, c, d, f⟩ ev = A := ⟨_, rfl⟩
        obtain ⟨nb, hnb⟩ : ∃ r, (!decide ((⟨x0, x1, x2, x3, x4⟩ : Mod) = ⟨a, b, c, d, f⟩)) = r := ⟨_, rfl⟩
        have HST := Lib.hid (fun W => step_at ⟨a, b, c, d, f⟩ ⟨x0, x1, x2, x3, x4⟩ ev nb hA hnb W)
        obtain ⟨g0, hg0⟩ : ∃ g, wr.heap.size = g := ⟨_, rfl⟩
        obtain ⟨w0, hw0⟩ : ∃ y, wr.alloc (.cells #[.bool false, .bool false, .bool false, .bool false, .bool false] 23) = y := ⟨_, rfl⟩
        have b00 : Below wr.heap.size wr w0 := by rw [← hw0]; exact (Below.refl _ _).alloc (Nat.le_refl _) _
        have kp0 := KP.out.below b00 KP.out.lt
        have hz0 : w0.cell? (ad.add k) = some (.int .i64 z) := by rw [b00.cell (p := ad.add k) (by rw [addr_block]; have := BW.out.size; omega)]; exact hz
        have d0 : w0.cell? ⟨p, 0, none⟩ = some (.bool a) := kp0.cell 0
        have d1 : w0.cell? ⟨p, 1, none⟩ = some (.bool b) := kp0.cell 1
        have d2 : w0.cell? ⟨p, 2, none⟩ = some (.bool c) := kp0.cell 2
        have d3 : w0.cell? ⟨p, 3, none⟩ = some (.bool d) := kp0.cell 3
        have d4 : w0.cell? ⟨p, 4, none⟩ = some (.bool f) := kp0.cell 4
        obtain ⟨wy, hwy⟩ : ∃ y, w0.drew = y := ⟨_, rfl⟩
        have KY : Hid (Bk wy g0 23 #[.bool false, .bool false, .bool false, .bool false, .bool false]) := by rw [← hwy, ← hw0, ← hg0]; exact (Bk.new wr _ _).drew
        have KPY : Hid (Bk wy p 23 #[.bool a, .bool b, .bool c, .bool d, .bool f]) := by rw [← hwy]; exact kp0.drew
        have HNG : Hid (p < g0 ∧ w.heap.size ≤ g0) := by have := KP.out.lt; have := BW.out.size; unfold Hid; omega
        have BY : Hid (Below wr.heap.size wr wy) := by rw [← hwy]; exact b00.drew
        have HST2 : Hid (Calls Try.prog 10 #[.agg #[.bool a, .bool b, .bool c, .bool d, .bool f], .int .i64 ev] wy fun e w' => e = .returned (.tuple #[.agg #[.bool x0, .bool x1, .bool x2, .bool x3, .bool x4], .bool nb]) ∧ Hid (Below wy.heap.size wy w') ∧ (w'.cell? ⟨g0, 0, none⟩ = some (.bool false) ∧ w'.cell? ⟨g0, 1, none⟩ = some (.bool false) ∧ w'.cell? ⟨g0, 2, none⟩ = some (.bool false) ∧ w'.cell? ⟨g0, 3, none⟩ = some (.bool false) ∧ w'.cell? ⟨g0, 4, none⟩ = some (.bool false)) ∧
            (w'.frozen? ⟨g0, 0, none⟩ = false ∧ w'.frozen? ⟨g0, 1, none⟩ = false ∧ w'.frozen? ⟨g0, 2, none⟩ = false ∧ w'.frozen? ⟨g0, 3, none⟩ = false ∧ w'.frozen? ⟨g0, 4, none⟩ = false)) := (HST.out wy).mono fun e w' ⟨he, hb⟩ => by
          have k := KY.out.below hb KY.out.lt
          exact ⟨he, hb, ⟨k.cell 0, k.cell 1, k.cell 2, k.cell 3, k.cell 4⟩, ⟨k.free 0, k.free 1, k.free 2, k.free 3, k.free 4⟩⟩
        have HA := Lib.hid hA
        have HNB := Lib.hid hnb
        have HG0 := Lib.hid hg0
        have HWY := Lib.hid hwy
        clear hA hnb hg0 hwy kp0 b00
        have c0 : wr.cell? ⟨p, 0, none⟩ = some (.bool a) := KP.out.cell 0
        have c1 : wr.cell? ⟨p, 1, none⟩ = some (.bool b) := KP.out.cell 1
        have c2 : wr.cell? ⟨p, 2, none⟩ = some (.bool c) := KP.out.cell 2
        have c3 : wr.cell? ⟨p, 3, none⟩ = some (.bool d) := KP.out.cell 3
        have c4 : wr.cell? ⟨p, 4, none⟩ = some (.bool f) := KP.out.cell 4
        go_upto_region 6 with fail
        go_cut [6, 7] from 22 to 32 (fun s6 s7 wx => ∃ g, s6 = .pointer (some ⟨g, 0, none⟩) ∧ s7 = .bool nb ∧ Hid (Bk wx g 23 #[.bool x0, .bool x1, .bool x2, .bool x3, .bool x4]) ∧ Hid (Bk wx p 23 #[.bool a, .bool b, .bool c, .bool d, .bool f]) ∧ Hid (Below w.heap.size w wx))
        case first J0 KK0 hJ hK =>
          go_region_with ((go_at_call 10; (try rw [hev]); (try rw [HG0.out]); (try rw [HWY.out]); first | (with_reducible refine Calls.mono HST2.out ?_; rintro e w4 ⟨rfl, b4, ⟨y0, y1, y2, y3, y4⟩, ⟨f0, f1, f2, f3, f4⟩⟩) | (with_reducible refine Calls.mono (HST.out _) ?_; rintro e w4 ⟨rfl, b4⟩)))
          all_goals go_simp
          all_goals
            first
              | (have kg := laid5_bk (KY.out.below b4.out KY.out.lt) (.bool x0) (.bool x1) (.bool x2) (.bool x3) (.bool x4)
                 have kp := laid5_far (KPY.out.below b4.out KPY.out.lt) (by have := HNG.out.1; omega : p ≠ g0) (.bool x0) (.bool x1) (.bool x2) (.bool x3) (.bool x4)
                 have bb := laid5_below ((BW.out.trans (BY.out.mono BW.out.size)).trans (b4.out.mono (by have := BW.out.size; have := BY.out.size; omega))) HNG.out.2 (.bool x0) (.bool x1) (.bool x2) (.bool x3) (.bool x4)
                 first | refine Met.intro (hK _ _ (Met.intro (hJ _ _ ?_))) | refine hK _ _ (Met.intro (hJ _ _ ?_))
                 (repeat apply Exists.intro)
                 refine ⟨?_, rfl⟩
                 exact ⟨g0, rfl, rfl, kg, kp, bb⟩)
              | (have kp := (KP.out.drew.below b4 KP.out.drew.lt).alloc (.cells #[.bool x0, .bool x1, .bool x2, .bool x3, .bool x4] 23)
                 have bb := (BW.out.drew.trans (b4.mono BW.out.drew.size)).alloc (Nat.le_trans BW.out.drew.size b4.size) (.cells #[.bool x0, .bool x1, .bool x2, .bool x3, .bool x4] 23)
                 first | refine Met.intro (hK _ _ (Met.intro (hJ _ _ ?_))) | refine hK _ _ (Met.intro (hJ _ _ ?_))
                 (repeat apply Exists.intro)
                 refine ⟨?_, rfl⟩
                 exact ⟨w4.heap.size, rfl, rfl, Bk.new _ _ _, kp, bb⟩)
        case rest =>
          obtain ⟨g, rfl, rfl, KG, KP2, BC⟩ := hcut
          clear HST HST2 KY KPY BY HNG HG0 HWY hz hz0 hw0 hev d0 d1 d2 d3 d4 c0 c1 c2 c3 c4 KP BW
          have HRX : Hid (Calls Try.prog 12 #[.agg #[.bool x0, .bool x1, .bool x2, .bool x3, .bool x4]] wc fun e w' => e = .returned (.bool true) ∧ Below wc.heap.size wc w') := by
            have h := rightM_any x0 x1 x2 x3 x4 wc
            have hr := right_step ⟨a, b, c, d, f⟩ ev HR.out
            rw [HA.out] at hr
            rw [hr] at h
            exact h
          have HRN : Hid (rightM ⟨x0, x1, x2, x3, x4⟩ = true) := by
            have hr := right_step ⟨a, b, c, d, f⟩ ev HR.out
            rw [HA.out] at hr
            exact hr
          have i0 : wc.cell? ⟨g, 0, none⟩ = some (.bool x0) := KG.out.cell 0
          have i1 : wc.cell? ⟨g, 1, none⟩ = some (.bool x1) := KG.out.cell 1
          have i2 : wc.cell? ⟨g, 2, none⟩ = some (.bool x2) := KG.out.cell 2
          have i3 : wc.cell? ⟨g, 3, none⟩ = some (.bool x3) := KG.out.cell 3
          have i4 : wc.cell? ⟨g, 4, none⟩ = some (.bool x4) := KG.out.cell 4
          go_wp2_with fail
          refine HRX.out.mono ?_
          rintro e w6 ⟨rfl, b6⟩
          have KG6 := Lib.hid (KG.out.below b6 KG.out.lt)
          have KP6 := Lib.hid (KP2.out.below b6 KP2.out.lt)
          have B6 : Hid (Below w.heap.size w w6) := BC.out.trans (b6.mono BC.out.size)
          clear b6 i0 i1 i2 i3 i4 HRX
          have q1 := neqM_at (m := ⟨x0, x1, x2, x3, x4⟩) (n := ⟨a, b, c, d, f⟩) HNB.out
          have q2 := eqgM_at .neq ⟨x0, x1, x2, x3, x4⟩ ⟨a, b, c, d, f⟩
          have q3 : (nb != nb) = false := by simp
          have i0 : w6.cell? ⟨g, 0, none⟩ = some (.bool x0) := KG6.out.cell 0
          have i1 : w6.cell? ⟨g, 1, none⟩ = some (.bool x1) := KG6.out.cell 1
          have i2 : w6.cell? ⟨g, 2, none⟩ = some (.bool x2) := KG6.out.cell 2
          have i3 : w6.cell? ⟨g, 3, none⟩ = some (.bool x3) := KG6.out.cell 3
          have i4 : w6.cell? ⟨g, 4, none⟩ = some (.bool x4) := KG6.out.cell 4
          have j0 : w6.cell? ⟨p, 0, none⟩ = some (.bool a) := KP6.out.cell 0
          have f0 : w6.frozen? ⟨p, 0, none⟩ = false := KP6.out.free 0
          have j1 : w6.cell? ⟨p, 1, none⟩ = some (.bool b) := KP6.out.cell 1
          have f1 : w6.frozen? ⟨p, 1, none⟩ = false := KP6.out.free 1
          have j2 : w6.cell? ⟨p, 2, none⟩ = some (.bool c) := KP6.out.cell 2
          have f2 : w6.frozen? ⟨p, 2, none⟩ = false := KP6.out.free 2
          have j3 : w6.cell? ⟨p, 3, none⟩ = some (.bool d) := KP6.out.cell 3
          have f3 : w6.frozen? ⟨p, 3, none⟩ = false := KP6.out.free 3
          have j4 : w6.cell? ⟨p, 4, none⟩ = some (.bool f) := KP6.out.cell 4
          have f4 : w6.frozen? ⟨p, 4, none⟩ = false := KP6.out.free 4
          have K7 := Lib.hid (laid5_bk KP6.out (.bool x0) (.bool x1) (.bool x2) (.bool x3) (.bool x4))
          have B7 := Lib.hid (laid5_below B6.out HLp.out (.bool x0) (.bool x1) (.bool x2) (.bool x3) (.bool x4))
          obtain ⟨w7, hw7⟩ : ∃ y, laid5 w6 p (.bool x0) (.bool x1) (.bool x2) (.bool x3) (.bool x4) = y := ⟨_, rfl⟩
          rw [hw7] at K7 B7
          go_wp2_with fail
          go_roundw
          case rel => exact ⟨k + 1, x0, x1, x2, x3, x4, by go_num, by omega, HRN, K7, B7⟩
          case measure => simp [intOf]; omega
      · by_cases h1 : k < n
        · have h1z : (k : Int) < (n : Int) := by omega
          have h2z : ¬ (k : Int) < 100 := by omega
          clear hlt h1
          go_wp2_with fail
          refine (HAW.out wr).mono ?_
          rintro e w6 ⟨rfl, b6⟩
          have B6 : Hid (Below w.heap.size w w6) := BW.out.trans (b6.mono BW.out.size)
          clear b6
          go_wp2_with fail
          go_ret
          exact ⟨rfl, B6.out⟩
        · have h1z : ¬ (k : Int) < (n : Int) := by omega
          clear hlt h1
          go_wp2_with fail
          refine (HAW.out wr).mono ?_
          rintro e w6 ⟨rfl, b6⟩
          have B6 : Hid (Below w.heap.size w w6) := BW.out.trans (b6.mono BW.out.size)
          clear b6
          go_wp2_with fail
          go_ret
          exact ⟨rfl, B6.out⟩
end Go.Proofs.Ytpaehhlhngilcaa
