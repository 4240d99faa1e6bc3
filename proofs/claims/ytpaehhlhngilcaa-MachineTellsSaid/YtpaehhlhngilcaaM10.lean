import Derived.Test.YtpaehhlhngilcaaM09
import Derived.BigQuiet
import Derived.Deep.RegionWith
/- what is reached of it -/
namespace Go.Proofs.Ytpaehhlhngilcaa
open Go.RowKit
set_option maxHeartbeats 4000000 in
set_option maxRecDepth 100000 in
theorem step_any (m : Mod) (z : Int) (w : World) : Calls Try.prog 10 #[agM m, .int .i64 z] w fun e w' => e = .returned (.tuple #[agM (stepM m z), .bool (!decide (stepM m z = m))]) ∧ Below w.heap.size w w' := by
  obtain ⟨R, hR⟩ : ∃ R, stepM m z = R := ⟨_, rfl⟩
  obtain ⟨nb, hnb⟩ : ∃ nb, (!decide (stepM m z = m)) = nb := ⟨_, rfl⟩
  have HT := Lib.hid (fun b t W (hk : Bk W b t evs) => tstep_any b 0 m z W hk.lt (fun i v h => by rw [Nat.zero_add, hk.cell i]; exact h))
  rw [hnb, hR] at HT ⊢
  clear hnb hR
  obtain ⟨a, b, c, d, f⟩ := m
  obtain ⟨ra, rb, rc, rd, rf⟩ := R
  obtain ⟨W2, hW2, k1, k2, b2⟩ := box_two a b c d f w
  obtain ⟨p, hp⟩ : ∃ p, w.heap.size = p := ⟨_, rfl⟩
  obtain ⟨q, hq⟩ : ∃ q, p + 1 = q := ⟨_, rfl⟩
  have B2 : Hid (Below w.heap.size w W2) := b2
  rw [hp, hq] at k2
  rw [hp] at k1
  have HW2 := Lib.hid hW2
  have K1 := Lib.hid k1
  have K2 := Lib.hid k2
  have HP := Lib.hid hp
  have HQ := Lib.hid hq
  rw [← agM_mk, ← agM_mk] at HT
  rw [← agM_mk, ← agM_mk]
  have c0 : W2.cell? ⟨p, 0, none⟩ = some (.bool a) := k1.cell 0
  have c1 : W2.cell? ⟨p, 1, none⟩ = some (.bool b) := k1.cell 1
  have c2 : W2.cell? ⟨p, 2, none⟩ = some (.bool c) := k1.cell 2
  have c3 : W2.cell? ⟨p, 3, none⟩ = some (.bool d) := k1.cell 3
  have c4 : W2.cell? ⟨p, 4, none⟩ = some (.bool f) := k1.cell 4
  have HEV : Hid (∀ W, Below W2.heap.size W2 W → Calls Try.prog 20 #[] W fun e w' => ∃ g, e = .returned (.slice (some ⟨g, 0, none⟩) 8 8) ∧ Hid (∃ t, Bk w' g t evs) ∧ Hid (Below W2.heap.size W2 w') ∧ w'.cell? ⟨p, 0, none⟩ = some (.bool a) ∧ w'.cell? ⟨p, 1, none⟩ = some (.bool b) ∧ w'.cell? ⟨p, 2, none⟩ = some (.bool c) ∧ w'.cell? ⟨p, 3, none⟩ = some (.bool d) ∧ w'.cell? ⟨p, 4, none⟩ = some (.bool f)) := fun W hW => (events_any W).mono fun e w' ⟨g, he, hk, hb⟩ => by
    have hB := hW.trans (hb.mono hW.size)
    have kk := K1.out.below hB K1.out.lt
    exact ⟨g, he, hk, hB, kk.cell 0, kk.cell 1, kk.cell 2, kk.cell 3, kk.cell 4⟩
  have HST : Hid (∀ W g, Hid (∃ t, Bk W g t evs) → Hid (Below W2.heap.size W2 W) → Calls Try.prog 21 #[.slice (some ⟨g, 0, none⟩) 8 8, .agg #[.bool a, .bool b, .bool c, .bool d, .bool f], .int .i64 z] W fun e w' => e = .returned (.tuple #[.agg #[.bool ra, .bool rb, .bool rc, .bool rd, .bool rf], .bool nb]) ∧ Hid (Below W2.heap.size W2 w') ∧ w'.cell? ⟨q, 0, none⟩ = some (.bool false) ∧ w'.cell? ⟨q, 1, none⟩ = some (.bool false) ∧ w'.cell? ⟨q, 2, none⟩ = some (.bool false) ∧ w'.cell? ⟨q, 3, none⟩ = some (.bool false) ∧ w'.cell? ⟨q, 4, none⟩ = some (.bool false) ∧ w'.frozen? ⟨q, 0, none⟩ = false ∧ w'.frozen? ⟨q, 1, none⟩ = false ∧ w'.frozen? ⟨q, 2, none⟩ = false ∧ w'.frozen? ⟨q, 3, none⟩ = false ∧ w'.frozen? ⟨q, 4, none⟩ = false) := fun W g hk hW => by
    obtain ⟨t, hk2⟩ := hk.out
    refine (HT.out g t W hk2).mono ?_
    rintro e w' ⟨he, hb⟩
    have hB := hW.out.trans (hb.mono hW.out.size)
    have kk := K2.out.below hB K2.out.lt
    exact ⟨he, hB, kk.cell 0, kk.cell 1, kk.cell 2, kk.cell 3, kk.cell 4, kk.free 0, kk.free 1, kk.free 2, kk.free 3, kk.free 4⟩
  clear hW2 hp hq b2 k1 k2
  go_enter Try.func10, Try.ntmps10
  go_upto_region 1 with fail
  (try rw [HW2.out])
  (try rw [HP.out])
  (try rw [HQ.out])
  go_region_with (first
    | (go_at_call 20; refine (HEV.out _ (by first | exact Below.refl _ _ | exact (Below.refl _ _).drew)).mono ?_; rintro e w3 ⟨g, rfl, HG, B3, i0, i1, i2, i3, i4⟩)
    | (go_at_call 21; refine (HST.out w3 g HG B3).mono ?_; rintro e w4 ⟨rfl, B4, d0, d1, d2, d3, d4, e0, e1, e2, e3, e4⟩; have R5 := Lib.hid (laid5_bk (K2.out.below B4.out K2.out.lt) (.bool ra) (.bool rb) (.bool rc) (.bool rd) (.bool rf)); have B5 := Lib.hid (laid5_below (B2.out.trans (B4.out.mono B2.out.size)) (by have := HP.out; have := HQ.out; omega : w.heap.size ≤ q) (.bool ra) (.bool rb) (.bool rc) (.bool rd) (.bool rf)); obtain ⟨w5, hw5⟩ : ∃ z, laid5 w4 q (.bool ra) (.bool rb) (.bool rc) (.bool rd) (.bool rf) = z := ⟨_, rfl⟩; rw [hw5] at R5 B5))

  all_goals go_wp2_with fail
  all_goals have j0 : w5.cell? ⟨q, 0, none⟩ = some (.bool ra) := R5.out.cell 0
  all_goals have j1 : w5.cell? ⟨q, 1, none⟩ = some (.bool rb) := R5.out.cell 1
  all_goals have j2 : w5.cell? ⟨q, 2, none⟩ = some (.bool rc) := R5.out.cell 2
  all_goals have j3 : w5.cell? ⟨q, 3, none⟩ = some (.bool rd) := R5.out.cell 3
  all_goals have j4 : w5.cell? ⟨q, 4, none⟩ = some (.bool rf) := R5.out.cell 4
  all_goals refine bodyPost_ret (v := .tuple #[.agg #[.bool ra, .bool rb, .bool rc, .bool rd, .bool rf], .bool nb]) (by simp [results, Try.results10, go_sem, j0, j1, j2, j3, j4]) rfl ⟨rfl, B5.out⟩
set_option maxHeartbeats 2000000 in
theorem rightM_any (a b c d f : Bool) (w : World) : Calls Try.prog 12 #[.agg #[.bool a, .bool b, .bool c, .bool d, .bool f]] w fun e w' => e = .returned (.bool (rightM ⟨a, b, c, d, f⟩)) ∧ Below w.heap.size w w' := by
  obtain ⟨W2, hW2⟩ : ∃ W2, w.alloc (.cells #[.bool a, .bool b, .bool c, .bool d, .bool f] 23) = W2 := ⟨_, rfl⟩
  obtain ⟨p, hp⟩ : ∃ p, w.heap.size = p := ⟨_, rfl⟩
  have k1 : Bk W2 p 23 #[.bool a, .bool b, .bool c, .bool d, .bool f] := by rw [← hW2, ← hp]; exact Bk.new _ _ _
  have B2 : Hid (Below w.heap.size w W2) := by rw [← hW2]; exact (Below.refl _ _).alloc (Nat.le_refl _) _
  have c0 : W2.cell? ⟨p, 0, none⟩ = some (.bool a) := k1.cell 0
  have c1 : W2.cell? ⟨p, 1, none⟩ = some (.bool b) := k1.cell 1
  have c2 : W2.cell? ⟨p, 2, none⟩ = some (.bool c) := k1.cell 2
  have c3 : W2.cell? ⟨p, 3, none⟩ = some (.bool d) := k1.cell 3
  have c4 : W2.cell? ⟨p, 4, none⟩ = some (.bool f) := k1.cell 4
  have HW2 := Lib.hid hW2
  have HP := Lib.hid hp
  clear hW2 hp k1
  go_enter Try.func12, Try.ntmps12
  go_upto_region 1 with fail
  (try rw [HW2.out])
  (try rw [HP.out])
  cases a <;> cases b <;> cases c <;> cases d <;> cases f
  all_goals (go_wp2_with fail; go_ret; exact ⟨rfl, B2.out⟩)

set_option maxHeartbeats 2000000 in
theorem rrightM_any (a b c d f : Bool) (w : World) : Calls Try.prog 13 #[.agg #[.bool a, .bool b, .bool c, .bool d, .bool f]] w fun e w' => e = .returned (.bool (rightM ⟨a, b, c, d, f⟩)) ∧ Below w.heap.size w w' := by
  obtain ⟨W2, hW2⟩ : ∃ W2, w.alloc (.cells #[.bool a, .bool b, .bool c, .bool d, .bool f] 23) = W2 := ⟨_, rfl⟩
  obtain ⟨p, hp⟩ : ∃ p, w.heap.size = p := ⟨_, rfl⟩
  have k1 : Bk W2 p 23 #[.bool a, .bool b, .bool c, .bool d, .bool f] := by rw [← hW2, ← hp]; exact Bk.new _ _ _
  have B2 : Hid (Below w.heap.size w W2) := by rw [← hW2]; exact (Below.refl _ _).alloc (Nat.le_refl _) _
  have c0 : W2.cell? ⟨p, 0, none⟩ = some (.bool a) := k1.cell 0
  have c1 : W2.cell? ⟨p, 1, none⟩ = some (.bool b) := k1.cell 1
  have c2 : W2.cell? ⟨p, 2, none⟩ = some (.bool c) := k1.cell 2
  have c3 : W2.cell? ⟨p, 3, none⟩ = some (.bool d) := k1.cell 3
  have c4 : W2.cell? ⟨p, 4, none⟩ = some (.bool f) := k1.cell 4
  have HW2 := Lib.hid hW2
  have HP := Lib.hid hp
  clear hW2 hp k1
  go_enter Try.func13, Try.ntmps13
  go_upto_region 1 with fail
  (try rw [HW2.out])
  (try rw [HP.out])
  cases a <;> cases b <;> cases c <;> cases d <;> cases f
  all_goals (go_wp2_with fail; go_ret; exact ⟨rfl, B2.out⟩)

end Go.Proofs.Ytpaehhlhngilcaa
