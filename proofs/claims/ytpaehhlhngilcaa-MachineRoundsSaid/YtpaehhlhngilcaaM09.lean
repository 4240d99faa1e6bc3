import Derived.Test.YtpaehhlhngilcaaM08
import Derived.Laws.EntriesVeiled
/- what is reached of it -/
namespace Go.Proofs.Ytpaehhlhngilcaa
open Go.RowKit
theorem agM_mk (a b c d f : Bool) : Value.agg #[.bool a, .bool b, .bool c, .bool d, .bool f] = agM ⟨a, b, c, d, f⟩ := rfl
set_option maxHeartbeats 4000000 in
set_option maxRecDepth 100000 in
theorem tstep_any (b off : Nat) (m : Mod) (z : Int) (w : World) (hb : b < w.heap.size) (hT : ∀ i v, evs[i]? = some v → w.cell? ⟨b, off + i, none⟩ = some v) :
    Calls Try.prog 21 #[.slice (some ⟨b, off, none⟩) 8 8, agM m, .int .i64 z] w fun e w' => e = .returned (.tuple #[agM (stepM m z), .bool (!decide (stepM m z = m))]) ∧ Below w.heap.size w w' := by
  have HE := Lib.hid (fun k hk => evs_at m k hk)
  have HN := Lib.hid (step_none m z)
  have HNQ := Lib.hid (fun (n : Mod) W => neqM n m W)
  have HGQ := Lib.hid (fun (n : Mod) x y W => eqGuardM .neq x y n m W)
  obtain ⟨R, hR⟩ : ∃ R, stepM m z = R := ⟨_, rfl⟩
  rw [hR] at HN ⊢
  have HR := Lib.hid hR
  obtain ⟨a0, b0, c0', d0', f0⟩ := m
  obtain ⟨a1, b1, c1', d1', f1⟩ := R
  obtain ⟨W2, hW2, k1, k2, b2⟩ := box_two a0 b0 c0' d0' f0 w
  obtain ⟨p, hp⟩ : ∃ p, w.heap.size = p := ⟨_, rfl⟩
  obtain ⟨q, hq⟩ : ∃ q, p + 1 = q := ⟨_, rfl⟩
  have B2 : Hid (Below w.heap.size w W2) := b2
  rw [hp, hq] at k2
  rw [hp] at k1 hb
  have hne : ¬ q = p := by omega
  have hne2 : ¬ p = q := by omega
  have HW2 := Lib.hid hW2
  have K1 := Lib.hid k1
  have K2 := Lib.hid k2
  have HP := Lib.hid hp
  have HQ := Lib.hid hq
  have HT : Hid (∀ W, Below W2.heap.size W2 W → ∀ i v, evs[i]? = some v → W.cell? ⟨b, off + i, none⟩ = some v) := fun W hW i v h => by
    rw [hW.cell (p := ⟨b, off + i, none⟩) (by show b < _; have := B2.out.size; omega), B2.out.cell (p := ⟨b, off + i, none⟩) (by show b < _; omega)]
    exact hT i v h
  have HB := Lib.hid hb
  clear hW2 hp hq b2 k1 k2 hT hb hR
  rw [← agM_mk]
  go_enter Try.func21, Try.ntmps21
  go_upto_region 1 with fail
  (try rw [HW2.out])
  (try rw [HP.out])
  (try rw [HQ.out])
  go_wp2_with fail
  go_loopw [13] (fun iv wr => ∃ k : Nat, iv = .int .i64 (k : Nat) ∧ k ≤ 8 ∧ Hid (∀ j : Nat, j < k → z ≠ (j : Int) + 1) ∧ Hid (Below W2.heap.size W2 wr)) (fun iv _ => 8 - (intOf iv).toNat)
  case atStart => exact ⟨0, rfl, by decide, fun j hj => absurd hj (Nat.not_lt_zero _), Below.refl _ _⟩
  case round =>
    obtain ⟨k, rfl, hk, HNO, BW⟩ := hrel
    by_cases hlt : k < 8
    · obtain ⟨F, h0, h1, hcf, hF⟩ := HE.out k hlt
      have v0 := HT.out wr BW.out _ _ h0
      have v1 := HT.out wr BW.out _ _ h1
      obtain ⟨P, hPP⟩ : ∃ P, off + k * 2 = P := ⟨_, rfl⟩
      rw [hPP] at v0
      rw [← Nat.add_assoc, hPP] at v1
      obtain ⟨kz, hkz⟩ : ∃ kz : Int, (k : Int) + 1 = kz := ⟨_, rfl⟩
      rw [hkz] at v0 hF
      have HF : Hid (∀ W, Calls Try.prog F #[.agg #[.bool a0, .bool b0, .bool c0', .bool d0', .bool f0]] W fun e w' => e = .returned (agM (stepM ⟨a0, b0, c0', d0', f0⟩ kz)) ∧ Below W.heap.size W w') := hF
      have HKZ := Lib.hid hkz
      have hlz : (k : Int) < 8 := by omega
      obtain ⟨Wa, hWa⟩ : ∃ W5, wr.alloc (.cells #[.int .i64 0, .nilFunc] 60) = W5 := ⟨_, rfl⟩
      obtain ⟨g, hg⟩ : ∃ g, wr.heap.size = g := ⟨_, rfl⟩
      have ka : Bk Wa g 60 #[.int .i64 0, .nilFunc] := by rw [← hWa, ← hg]; exact Bk.new _ _ _
      have hgw : W2.heap.size ≤ g := by have := BW.out.size; omega
      have ba : Below W2.heap.size W2 Wa := by rw [← hWa]; exact BW.out.alloc BW.out.size _
      have va0 := HT.out Wa ba _ _ h0
      have va1 := HT.out Wa ba _ _ h1
      rw [hPP, hkz] at va0
      rw [← Nat.add_assoc, hPP] at va1
      have r0 : Wa.cell? ⟨g, 0, none⟩ = some (.int .i64 0) := ka.cell 0
      have g0 : Wa.frozen? ⟨g, 0, none⟩ = false := ka.free 0
      have r1 : Wa.cell? ⟨g, 1, none⟩ = some .nilFunc := ka.cell 1
      have g1 : Wa.frozen? ⟨g, 1, none⟩ = false := ka.free 1
      have K5 := Lib.hid (ka.two (.int .i64 kz) (.func (.func F) #[] #[]))
      have B5 := Lib.hid ((ba.setCell (p := ⟨g, 0, none⟩) hgw (.int .i64 kz)).setCell (p := ⟨g, 1, none⟩) hgw (.func (.func F) #[] #[]))
      obtain ⟨W5, hW5⟩ : ∃ z, (Wa.setCell ⟨g, 0, none⟩ (.int .i64 kz)).setCell ⟨g, 1, none⟩ (.func (.func F) #[] #[]) = z := ⟨_, rfl⟩
      rw [hW5] at K5 B5
      clear h0 h1 hF hkz ka ba
      go_upto_region 4 with fail
      clear va0 va1 r0 g0 r1 g1 hW5 hWa v0 v1
      have x0 : W5.cell? ⟨g, 0, none⟩ = some (.int .i64 kz) := K5.out.cell 0
      have x1 : W5.cell? ⟨g, 1, none⟩ = some (.func (.func F) #[] #[]) := K5.out.cell 1
      have K15 := Lib.hid (K1.out.below B5.out K1.out.lt)
      have K25 := Lib.hid (K2.out.below B5.out K2.out.lt)
      have c0 : W5.cell? ⟨p, 0, none⟩ = some (.bool a0) := K15.out.cell 0
      have c1 : W5.cell? ⟨p, 1, none⟩ = some (.bool b0) := K15.out.cell 1
      have c2 : W5.cell? ⟨p, 2, none⟩ = some (.bool c0') := K15.out.cell 2
      have c3 : W5.cell? ⟨p, 3, none⟩ = some (.bool d0') := K15.out.cell 3
      have c4 : W5.cell? ⟨p, 4, none⟩ = some (.bool f0) := K15.out.cell 4
      by_cases hz : kz = z
      · subst hz
        have hzz : (kz == kz) = true := by simp
        have hzd : decide (kz = kz) = true := by simp
        go_wp2_with fail
        refine (HF.out W5).mono ?_
        rintro e w6 ⟨rfl, b6⟩
        rw [HR.out, ← agM_mk]
        obtain ⟨W7, hW7⟩ : ∃ W, w6.alloc (.cells #[.bool a1, .bool b1, .bool c1', .bool d1', .bool f1] 23) = W := ⟨_, rfl⟩
        obtain ⟨h, hh⟩ : ∃ g, w6.heap.size = g := ⟨_, rfl⟩
        have k7 : Bk W7 h 23 #[.bool a1, .bool b1, .bool c1', .bool d1', .bool f1] := by rw [← hW7, ← hh]; exact Bk.new _ _ _
        have b7 : Below w6.heap.size w6 W7 := by rw [← hW7]; exact (Below.refl _ _).alloc (Nat.le_refl _) _
        have b57 : Below W5.heap.size W5 W7 := b6.trans (b7.mono b6.size)
        have B7 : Hid (Below W2.heap.size W2 W7) := B5.out.trans (b57.mono B5.out.size)
        have k17 := K15.out.below b57 K15.out.lt
        have k27 := K25.out.below b57 K25.out.lt
        clear c0 c1 c2 c3 c4 x0 x1
        have HHS : Hid (W5.heap.size ≤ h) := by have := b6.size; unfold Hid; omega
        have HW7 := Lib.hid hW7
        have HH := Lib.hid hh
        clear b6 b7 hW7 hh
        go_upto_region 6 with fail
        (try rw [HW7.out])
        (try rw [HH.out])
        have c0 : W7.cell? ⟨p, 0, none⟩ = some (.bool a0) := k17.cell 0
        have c1 : W7.cell? ⟨p, 1, none⟩ = some (.bool b0) := k17.cell 1
        have c2 : W7.cell? ⟨p, 2, none⟩ = some (.bool c0') := k17.cell 2
        have c3 : W7.cell? ⟨p, 3, none⟩ = some (.bool d0') := k17.cell 3
        have c4 : W7.cell? ⟨p, 4, none⟩ = some (.bool f0) := k17.cell 4
        have d0 : W7.cell? ⟨q, 0, none⟩ = some (.bool false) := k27.cell 0
        have e0 : W7.frozen? ⟨q, 0, none⟩ = false := k27.free 0
        have d1 : W7.cell? ⟨q, 1, none⟩ = some (.bool false) := k27.cell 1
        have e1 : W7.frozen? ⟨q, 1, none⟩ = false := k27.free 1
        have d2 : W7.cell? ⟨q, 2, none⟩ = some (.bool false) := k27.cell 2
        have e2 : W7.frozen? ⟨q, 2, none⟩ = false := k27.free 2
        have d3 : W7.cell? ⟨q, 3, none⟩ = some (.bool false) := k27.cell 3
        have e3 : W7.frozen? ⟨q, 3, none⟩ = false := k27.free 3
        have d4 : W7.cell? ⟨q, 4, none⟩ = some (.bool false) := k27.cell 4
        have e4 : W7.frozen? ⟨q, 4, none⟩ = false := k27.free 4
        have y0 : W7.cell? ⟨h, 0, none⟩ = some (.bool a1) := k7.cell 0
        have y1 : W7.cell? ⟨h, 1, none⟩ = some (.bool b1) := k7.cell 1
        have y2 : W7.cell? ⟨h, 2, none⟩ = some (.bool c1') := k7.cell 2
        have y3 : W7.cell? ⟨h, 3, none⟩ = some (.bool d1') := k7.cell 3
        have y4 : W7.cell? ⟨h, 4, none⟩ = some (.bool f1) := k7.cell 4
        have R8 := Lib.hid (laid5_bk k27 (.bool a1) (.bool b1) (.bool c1') (.bool d1') (.bool f1))
        have B8 := Lib.hid (laid5_below (B2.out.trans (B7.out.mono B2.out.size)) (by have := HP.out; have := HQ.out; omega : w.heap.size ≤ q) (.bool a1) (.bool b1) (.bool c1') (.bool d1') (.bool f1))
        obtain ⟨w8, hw8⟩ : ∃ z, laid5 W7 q (.bool a1) (.bool b1) (.bool c1') (.bool d1') (.bool f1) = z := ⟨_, rfl⟩
        have k18 := laid5_far k17 hne2 (.bool a1) (.bool b1) (.bool c1') (.bool d1') (.bool f1)
        have k78 := laid5_far k7 (by have h1 := K2.out.lt; have h2 := B5.out.size; have h3 := HHS.out; omega : h ≠ q) (.bool a1) (.bool b1) (.bool c1') (.bool d1') (.bool f1)
        rw [hw8] at R8 B8 k18 k78
        have s0 : w8.cell? ⟨p, 0, none⟩ = some (.bool a0) := k18.cell 0
        have t0 : w8.cell? ⟨h, 0, none⟩ = some (.bool a1) := k78.cell 0
        have s1 : w8.cell? ⟨p, 1, none⟩ = some (.bool b0) := k18.cell 1
        have t1 : w8.cell? ⟨h, 1, none⟩ = some (.bool b1) := k78.cell 1
        have s2 : w8.cell? ⟨p, 2, none⟩ = some (.bool c0') := k18.cell 2
        have t2 : w8.cell? ⟨h, 2, none⟩ = some (.bool c1') := k78.cell 2
        have s3 : w8.cell? ⟨p, 3, none⟩ = some (.bool d0') := k18.cell 3
        have t3 : w8.cell? ⟨h, 3, none⟩ = some (.bool d1') := k78.cell 3
        have s4 : w8.cell? ⟨p, 4, none⟩ = some (.bool f0) := k18.cell 4
        have t4 : w8.cell? ⟨h, 4, none⟩ = some (.bool f1) := k78.cell 4
        have q1 := fun W => neqM ⟨a1, b1, c1', d1', f1⟩ ⟨a0, b0, c0', d0', f0⟩ W
        have q2 := fun x y W => eqGuardM .neq x y ⟨a1, b1, c1', d1', f1⟩ ⟨a0, b0, c0', d0', f0⟩ W
        simp only [agM] at q1 q2
        obtain ⟨nb, hnb⟩ : ∃ nb, (!decide ((⟨a1, b1, c1', d1', f1⟩ : Mod) = ⟨a0, b0, c0', d0', f0⟩)) = nb := ⟨_, rfl⟩
        rw [hnb] at q1
        have HNB := Lib.hid hnb
        clear hnb k7 k17 k27 k18 k78
        go_wp2_with fail
        go_region
        clear q1 q2 c0 c1 c2 c3 c4 d0 d1 d2 d3 d4 e0 e1 e2 e3 e4 y0 y1 y2 y3 y4 s0 s1 s2 s3 s4 t0 t1 t2 t3 t4 hw8
        go_wp2_with fail
        have j0 : w8.drew.cell? ⟨q, 0, none⟩ = some (.bool a1) := R8.out.drew.cell 0
        have j1 : w8.drew.cell? ⟨q, 1, none⟩ = some (.bool b1) := R8.out.drew.cell 1
        have j2 : w8.drew.cell? ⟨q, 2, none⟩ = some (.bool c1') := R8.out.drew.cell 2
        have j3 : w8.drew.cell? ⟨q, 3, none⟩ = some (.bool d1') := R8.out.drew.cell 3
        have j4 : w8.drew.cell? ⟨q, 4, none⟩ = some (.bool f1) := R8.out.drew.cell 4
        refine bodyPost_ret (v := .tuple #[.agg #[.bool a1, .bool b1, .bool c1', .bool d1', .bool f1], .bool nb]) (by simp [results, Try.results21, go_sem, j0, j1, j2, j3, j4]) rfl ?_
        exact ⟨by rw [HNB.out]; rfl, B8.out.drew⟩
      · have hzz : (kz == z) = false := by simpa using hz
        have hzd : decide (kz = z) = false := by simpa using hz
        have HNO2 : Hid (∀ j : Nat, j < k + 1 → z ≠ (j : Int) + 1) := fun j hj e => by
          rcases Nat.lt_or_ge j k with h | h
          · exact HNO.out j h e
          · obtain rfl : j = k := by omega
            exact hz (HKZ.out.symm.trans e.symm)
        clear hz
        go_wp2_with fail
        go_roundw
        case rel => exact ⟨k + 1, by go_num, by omega, HNO2, B5⟩
        case measure => simp [intOf]; omega
    · have hk8 : ¬ (k : Int) < 8 := by omega
      have hR0 := HN.out (fun j hj => HNO.out j (by omega))
      injection hR0 with h1 h2 h3 h4 h5
      subst h1 h2 h3 h4 h5
      have k18 := K1.out.below BW.out K1.out.lt
      have k28 := K2.out.below BW.out K2.out.lt
      have c0 : wr.cell? ⟨p, 0, none⟩ = some (.bool a1) := k18.cell 0
      have d0 : wr.cell? ⟨q, 0, none⟩ = some (.bool false) := k28.cell 0
      have e0 : wr.frozen? ⟨q, 0, none⟩ = false := k28.free 0
      have c1 : wr.cell? ⟨p, 1, none⟩ = some (.bool b1) := k18.cell 1
      have d1 : wr.cell? ⟨q, 1, none⟩ = some (.bool false) := k28.cell 1
      have e1 : wr.frozen? ⟨q, 1, none⟩ = false := k28.free 1
      have c2 : wr.cell? ⟨p, 2, none⟩ = some (.bool c1') := k18.cell 2
      have d2 : wr.cell? ⟨q, 2, none⟩ = some (.bool false) := k28.cell 2
      have e2 : wr.frozen? ⟨q, 2, none⟩ = false := k28.free 2
      have c3 : wr.cell? ⟨p, 3, none⟩ = some (.bool d1') := k18.cell 3
      have d3 : wr.cell? ⟨q, 3, none⟩ = some (.bool false) := k28.cell 3
      have e3 : wr.frozen? ⟨q, 3, none⟩ = false := k28.free 3
      have c4 : wr.cell? ⟨p, 4, none⟩ = some (.bool f1) := k18.cell 4
      have d4 : wr.cell? ⟨q, 4, none⟩ = some (.bool false) := k28.cell 4
      have e4 : wr.frozen? ⟨q, 4, none⟩ = false := k28.free 4
      have R8 := Lib.hid (laid5_bk k28 (.bool a1) (.bool b1) (.bool c1') (.bool d1') (.bool f1))
      have B8 := Lib.hid (laid5_below (B2.out.trans (BW.out.mono B2.out.size)) (by have := HP.out; have := HQ.out; omega : w.heap.size ≤ q) (.bool a1) (.bool b1) (.bool c1') (.bool d1') (.bool f1))
      obtain ⟨w8, hw8⟩ : ∃ z, laid5 wr q (.bool a1) (.bool b1) (.bool c1') (.bool d1') (.bool f1) = z := ⟨_, rfl⟩
      rw [hw8] at R8 B8
      clear k18 k28
      go_wp2_with fail
      have j0 : w8.cell? ⟨q, 0, none⟩ = some (.bool a1) := R8.out.cell 0
      have j1 : w8.cell? ⟨q, 1, none⟩ = some (.bool b1) := R8.out.cell 1
      have j2 : w8.cell? ⟨q, 2, none⟩ = some (.bool c1') := R8.out.cell 2
      have j3 : w8.cell? ⟨q, 3, none⟩ = some (.bool d1') := R8.out.cell 3
      have j4 : w8.cell? ⟨q, 4, none⟩ = some (.bool f1) := R8.out.cell 4
      refine bodyPost_ret (v := .tuple #[.agg #[.bool a1, .bool b1, .bool c1', .bool d1', .bool f1], .bool false]) (by simp [results, Try.results21, go_sem, j0, j1, j2, j3, j4]) rfl ?_
      exact ⟨by simp [agM], B8.out⟩
end Go.Proofs.Ytpaehhlhngilcaa
