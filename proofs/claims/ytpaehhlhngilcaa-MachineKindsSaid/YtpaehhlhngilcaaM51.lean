import Derived.Test.YtpaehhlhngilcaaM35
import Derived.Deep.RegionHeld3
import Derived.Test.YtpaehhlhngilcaaM21
import Derived.BigQuiet
/- what is reached of it -/
namespace Go.Proofs.Ytpaehhlhngilcaa
open Go.RowKit Tx Vc Ct
set_option maxHeartbeats 16000000 in
set_option maxRecDepth 100000 in
theorem machineKinds_any (m : Mod) (z : Int) (w : World) : Calls Try.prog 7 #[agM m, .int .i64 z] w fun e w' => e = .returned (.bool true) ∧ Below w.heap.size w w' := by
  have HAW := Lib.hid (fun W => mawake_any W)
  obtain ⟨a, b, c, d, f⟩ := m
  rw [← agM_mk]
  obtain ⟨R, hR⟩ : ∃ R, rightM ⟨a, b, c, d, f⟩ = R := ⟨_, rfl⟩
  have HR := Lib.hid hR
  obtain ⟨W0, hW0⟩ : ∃ W, w.alloc (.cells #[.bool a, .bool b, .bool c, .bool d, .bool f] 23) = W := ⟨_, rfl⟩
  obtain ⟨p, hp⟩ : ∃ g, w.heap.size = g := ⟨_, rfl⟩
  have Kp_0 : Hid (Bk W0 p 23 #[.bool a, .bool b, .bool c, .bool d, .bool f]) := by rw [← hW0, ← hp]; exact Bk.new _ _ _
  have B_0 : Hid (Below w.heap.size w W0) := by rw [← hW0]; exact (Below.refl _ _).alloc (Nat.le_refl _) _
  have HLp : Hid (w.heap.size ≤ p) := by unfold Hid; omega
  have HW0 := Lib.hid hW0
  have HAp := Lib.hid hp
  clear hW0 hp
  have HRI := Lib.hid (rightM_any a b c d f W0)
  rw [hR] at HRI
  clear hR
  go_enter Try.func7, Try.ntmps7
  go_upto_region 1 with fail
  (try rw [HW0.out])
  (try rw [HAp.out])
  have cp0 : W0.cell? ⟨p, 0, none⟩ = some (.bool a) := Kp_0.out.cell 0
  have cp1 : W0.cell? ⟨p, 1, none⟩ = some (.bool b) := Kp_0.out.cell 1
  have cp2 : W0.cell? ⟨p, 2, none⟩ = some (.bool c) := Kp_0.out.cell 2
  have cp3 : W0.cell? ⟨p, 3, none⟩ = some (.bool d) := Kp_0.out.cell 3
  have cp4 : W0.cell? ⟨p, 4, none⟩ = some (.bool f) := Kp_0.out.cell 4
  go_wp2_with fail
  refine HRI.out.mono ?_
  rintro e v0 ⟨rfl, b0⟩
  clear cp0 cp1 cp2 cp3 cp4
  have Kp_1 : Hid (Bk v0 p 23 #[.bool a, .bool b, .bool c, .bool d, .bool f]) := Kp_0.out.below b0 Kp_0.out.lt
  have B_1 : Hid (Below w.heap.size w v0) := B_0.out.trans (b0.mono B_0.out.size)
  clear Kp_0 B_0
  clear b0 HRI
  cases R with
  | false =>
    go_wp2_with fail
    refine (HAW.out v0).mono ?_
    rintro e v1 ⟨rfl, b1⟩
    have B1 : Hid (Below w.heap.size w v1) := B_1.out.trans (b1.mono B_1.out.size)
    clear b1
    go_wp2_with fail
    go_ret
    exact ⟨rfl, B1.out⟩
  | true =>
    obtain ⟨ev, hev, hE⟩ := mod8_any z
    have HE := Lib.hid hE
    clear hE
    go_upto_region 4 with fail
    (try rw [hev])
    have hE := HE.out
    clear hev HE
    rcases hE with rfl | rfl | rfl | rfl | rfl | rfl | rfl | rfl
    · skip
      cases a with
      | false =>
        cases b with
        | false =>
          have hp : ∀ c d f : Bool, rightM ⟨false, false, c, d, f⟩ = true → (stepM ⟨false, false, c, d, f⟩ 1).to = false ∧ (stepM ⟨false, false, c, d, f⟩ 1).fr = false := by decide
          obtain ⟨h0, h1⟩ := hp c d f HR.out
          clear hp
          obtain ⟨⟨x0, x1, x2, x3, x4⟩, hA⟩ : ∃ A, stepM ⟨false, false, c, d, f⟩ 1 = A := ⟨_, rfl⟩
          rw [hA] at h0 h1
          simp only at h0 h1
          obtain rfl := h0.symm
          obtain rfl := h1.symm
          have HA := Lib.hid hA
          clear hA
          have cp0 : v0.cell? ⟨p, 0, none⟩ = some (.bool false) := Kp_1.out.cell 0
          have cp1 : v0.cell? ⟨p, 1, none⟩ = some (.bool false) := Kp_1.out.cell 1
          have cp2 : v0.cell? ⟨p, 2, none⟩ = some (.bool c) := Kp_1.out.cell 2
          have cp3 : v0.cell? ⟨p, 3, none⟩ = some (.bool d) := Kp_1.out.cell 3
          have cp4 : v0.cell? ⟨p, 4, none⟩ = some (.bool f) := Kp_1.out.cell 4
          obtain ⟨r1, hr1⟩ : ∃ r, (!decide ((⟨false, false, x2, x3, x4⟩ : Mod) = ⟨false, false, c, d, f⟩)) = r := ⟨_, rfl⟩
          have HS1 := Lib.hid (step_at ⟨false, false, c, d, f⟩ ⟨false, false, x2, x3, x4⟩ (1) r1 (HA.out) hr1 v0)
          clear hr1
          go_wp2_with fail
          refine HS1.out.mono ?_
          rintro e v1 ⟨rfl, b1⟩
          clear cp0 cp1 cp2 cp3 cp4
          have Kp_2 : Hid (Bk v1 p 23 #[.bool false, .bool false, .bool c, .bool d, .bool f]) := Kp_1.out.below b1 Kp_1.out.lt
          have B_2 : Hid (Below w.heap.size w v1) := B_1.out.trans (b1.mono B_1.out.size)
          clear Kp_1 B_1
          clear b1
          obtain ⟨W3, hW3⟩ : ∃ W, v1.alloc (.cells #[.bool false, .bool false, .bool x2, .bool x3, .bool x4] 23) = W := ⟨_, rfl⟩
          obtain ⟨q, hq⟩ : ∃ g, v1.heap.size = g := ⟨_, rfl⟩
          have Kp_3 : Hid (Bk W3 p 23 #[.bool false, .bool false, .bool c, .bool d, .bool f]) := by rw [← hW3]; exact Kp_2.out.alloc _
          have HNpq : Hid (p < q) := by have := Kp_2.out.lt; unfold Hid; omega
          have Kq_3 : Hid (Bk W3 q 23 #[.bool false, .bool false, .bool x2, .bool x3, .bool x4]) := by rw [← hW3, ← hq]; exact Bk.new _ _ _
          have B_3 : Hid (Below w.heap.size w W3) := by rw [← hW3]; exact B_2.out.alloc B_2.out.size _
          have HLq : Hid (w.heap.size ≤ q) := by have := B_2.out.size; unfold Hid; omega
          have HW3 := Lib.hid hW3
          have HAq := Lib.hid hq
          clear hW3 hq
          clear Kp_2 B_2
          go_upto_region 5 with fail
          (try rw [HW3.out])
          (try rw [HAq.out])
          have cp0 : W3.cell? ⟨p, 0, none⟩ = some (.bool false) := Kp_3.out.cell 0
          have cp1 : W3.cell? ⟨p, 1, none⟩ = some (.bool false) := Kp_3.out.cell 1
          have cp2 : W3.cell? ⟨p, 2, none⟩ = some (.bool c) := Kp_3.out.cell 2
          have cp3 : W3.cell? ⟨p, 3, none⟩ = some (.bool d) := Kp_3.out.cell 3
          have cp4 : W3.cell? ⟨p, 4, none⟩ = some (.bool f) := Kp_3.out.cell 4
          go_region
          clear cp0 cp1 cp2 cp3 cp4
          obtain ⟨W4, hW4⟩ : ∃ z, W3.drew = z := ⟨_, rfl⟩
          have Kp_4 : Hid (Bk W4 p 23 #[.bool false, .bool false, .bool c, .bool d, .bool f]) := by rw [← hW4]; exact Kp_3.out.drew
          have Kq_4 : Hid (Bk W4 q 23 #[.bool false, .bool false, .bool x2, .bool x3, .bool x4]) := by rw [← hW4]; exact Kq_3.out.drew
          have B_4 : Hid (Below w.heap.size w W4) := by rw [← hW4]; exact B_3.out.drew
          rw [hW4]
          clear hW4
          clear Kp_3 Kq_3 B_3
          have HIN : Hid (∀ W, Calls Try.prog 17 #[.agg #[.string ⟨#[97, 64, 98]⟩, .string ⟨#[110]⟩, .slice none 0 0, .int .i64 0, .bool false, .bool false], .agg #[.bool false, .bool false, .bool x2, .bool x3, .bool x4]] W fun e w' => ∃ iA cap, e = .returned (.agg #[.string ⟨#[97, 64, 98]⟩, .string ⟨#[110]⟩, .slice iA 0 cap, .int .i64 0, .bool x2, .bool x4]) ∧ Below W.heap.size W w') := fun W => by
            refine (into_any ⟨[97, 64, 98], [110], [], 0, false, false⟩ (.slice none 0 0) ⟨false, false, x2, x3, x4⟩ W (ReadT.nil _ _ _) (by decide)).mono ?_
            rintro e w' ⟨gv', he, ho, hb⟩
            obtain ⟨A, cap, hv⟩ := ho.slice
            subst hv
            exact ⟨A, cap, by rw [he]; rfl, hb⟩
          have cp0 : W4.cell? ⟨p, 0, none⟩ = some (.bool false) := Kp_4.out.cell 0
          have cp1 : W4.cell? ⟨p, 1, none⟩ = some (.bool false) := Kp_4.out.cell 1
          have cp2 : W4.cell? ⟨p, 2, none⟩ = some (.bool c) := Kp_4.out.cell 2
          have cp3 : W4.cell? ⟨p, 3, none⟩ = some (.bool d) := Kp_4.out.cell 3
          have cp4 : W4.cell? ⟨p, 4, none⟩ = some (.bool f) := Kp_4.out.cell 4
          have cq0 : W4.cell? ⟨q, 0, none⟩ = some (.bool false) := Kq_4.out.cell 0
          have cq1 : W4.cell? ⟨q, 1, none⟩ = some (.bool false) := Kq_4.out.cell 1
          have cq2 : W4.cell? ⟨q, 2, none⟩ = some (.bool x2) := Kq_4.out.cell 2
          have cq3 : W4.cell? ⟨q, 3, none⟩ = some (.bool x3) := Kq_4.out.cell 3
          have cq4 : W4.cell? ⟨q, 4, none⟩ = some (.bool x4) := Kq_4.out.cell 4
          go_wp2_with fail
          refine (HIN.out _).mono ?_
          rintro e v4 ⟨iA, icap, rfl, b4⟩
          clear cp0 cp1 cp2 cp3 cp4 cq0 cq1 cq2 cq3 cq4
          have Kp_5 : Hid (Bk v4 p 23 #[.bool false, .bool false, .bool c, .bool d, .bool f]) := Kp_4.out.below b4 Kp_4.out.lt
          have Kq_5 : Hid (Bk v4 q 23 #[.bool false, .bool false, .bool x2, .bool x3, .bool x4]) := Kq_4.out.below b4 Kq_4.out.lt
          have B_5 : Hid (Below w.heap.size w v4) := B_4.out.trans (b4.mono B_4.out.size)
          clear Kp_4 Kq_4 B_4
          clear b4
          obtain ⟨W6, hW6⟩ : ∃ W, v4.alloc (.cells #[.string ⟨#[97, 64, 98]⟩, .string ⟨#[110]⟩, .slice iA 0 icap, .int .i64 0, .bool x2, .bool x4] 26) = W := ⟨_, rfl⟩
          obtain ⟨u, hu⟩ : ∃ g, v4.heap.size = g := ⟨_, rfl⟩
          have Kp_6 : Hid (Bk W6 p 23 #[.bool false, .bool false, .bool c, .bool d, .bool f]) := by rw [← hW6]; exact Kp_5.out.alloc _
          have HNpu : Hid (p < u) := by have := Kp_5.out.lt; unfold Hid; omega
          have Kq_6 : Hid (Bk W6 q 23 #[.bool false, .bool false, .bool x2, .bool x3, .bool x4]) := by rw [← hW6]; exact Kq_5.out.alloc _
          have HNqu : Hid (q < u) := by have := Kq_5.out.lt; unfold Hid; omega
          have Ku_6 : Hid (Bk W6 u 26 #[.string ⟨#[97, 64, 98]⟩, .string ⟨#[110]⟩, .slice iA 0 icap, .int .i64 0, .bool x2, .bool x4]) := by rw [← hW6, ← hu]; exact Bk.new _ _ _
          have B_6 : Hid (Below w.heap.size w W6) := by rw [← hW6]; exact B_5.out.alloc B_5.out.size _
          have HLu : Hid (w.heap.size ≤ u) := by have := B_5.out.size; unfold Hid; omega
          have HW6 := Lib.hid hW6
          have HAu := Lib.hid hu
          clear hW6 hu
          clear Kp_5 Kq_5 B_5
          go_upto_region 20 with fail
          (try rw [HW6.out])
          (try rw [HAu.out])
          go_wp2_with fail
          refine (HAW.out W6).mono ?_
          rintro e v6 ⟨rfl, b6⟩
          have KU := Ku_6.out.below b6 Ku_6.out.lt
          have Kp_7 : Hid (Bk v6 p 23 #[.bool false, .bool false, .bool c, .bool d, .bool f]) := Kp_6.out.below b6 Kp_6.out.lt
          have Kq_7 : Hid (Bk v6 q 23 #[.bool false, .bool false, .bool x2, .bool x3, .bool x4]) := Kq_6.out.below b6 Kq_6.out.lt
          have B_7 : Hid (Below w.heap.size w v6) := B_6.out.trans (b6.mono B_6.out.size)
          clear Kp_6 Kq_6 B_6
          clear b6
          have cq0 : v6.cell? ⟨q, 0, none⟩ = some (.bool false) := Kq_7.out.cell 0
          have cq1 : v6.cell? ⟨q, 1, none⟩ = some (.bool false) := Kq_7.out.cell 1
          have cq2 : v6.cell? ⟨q, 2, none⟩ = some (.bool x2) := Kq_7.out.cell 2
          have cq3 : v6.cell? ⟨q, 3, none⟩ = some (.bool x3) := Kq_7.out.cell 3
          have cq4 : v6.cell? ⟨q, 4, none⟩ = some (.bool x4) := Kq_7.out.cell 4
          have y0 : v6.cell? ⟨u, 0, none⟩ = some (.string ⟨#[97, 64, 98]⟩) := KU.cell 0
          have y1 : v6.cell? ⟨u, 1, none⟩ = some (.string ⟨#[110]⟩) := KU.cell 1
          have y2 : v6.cell? ⟨u, 2, none⟩ = some (.slice iA 0 icap) := KU.cell 2
          have y3 : v6.cell? ⟨u, 3, none⟩ = some (.int .i64 0) := KU.cell 3
          have y4 : v6.cell? ⟨u, 4, none⟩ = some (.bool x2) := KU.cell 4
          have y5 : v6.cell? ⟨u, 5, none⟩ = some (.bool x4) := KU.cell 5
          have ht : ((⟨#[110]⟩ : ByteArray).toList == (⟨#[110]⟩ : ByteArray).toList) = true := by simp
          clear KU
          go_wp2_with fail
          go_ret
          exact ⟨rfl, B_7.out⟩
        | true =>
          have hp : ∀ c d f : Bool, rightM ⟨false, true, c, d, f⟩ = true → (stepM ⟨false, true, c, d, f⟩ 1).to = false ∧ (stepM ⟨false, true, c, d, f⟩ 1).fr = true := by decide
          obtain ⟨h0, h1⟩ := hp c d f HR.out
          clear hp
          obtain ⟨⟨x0, x1, x2, x3, x4⟩, hA⟩ : ∃ A, stepM ⟨false, true, c, d, f⟩ 1 = A := ⟨_, rfl⟩
          rw [hA] at h0 h1
          simp only at h0 h1
          obtain rfl := h0.symm
          obtain rfl := h1.symm
          have HA := Lib.hid hA
          clear hA
          have cp0 : v0.cell? ⟨p, 0, none⟩ = some (.bool false) := Kp_1.out.cell 0
          have cp1 : v0.cell? ⟨p, 1, none⟩ = some (.bool true) := Kp_1.out.cell 1
          have cp2 : v0.cell? ⟨p, 2, none⟩ = some (.bool c) := Kp_1.out.cell 2
          have cp3 : v0.cell? ⟨p, 3, none⟩ = some (.bool d) := Kp_1.out.cell 3
          have cp4 : v0.cell? ⟨p, 4, none⟩ = some (.bool f) := Kp_1.out.cell 4
          obtain ⟨r1, hr1⟩ : ∃ r, (!decide ((⟨false, true, x2, x3, x4⟩ : Mod) = ⟨false, true, c, d, f⟩)) = r := ⟨_, rfl⟩
          have HS1 := Lib.hid (step_at ⟨false, true, c, d, f⟩ ⟨false, true, x2, x3, x4⟩ (1) r1 (HA.out) hr1 v0)
          clear hr1
          go_wp2_with fail
          refine HS1.out.mono ?_
          rintro e v1 ⟨rfl, b1⟩
          clear cp0 cp1 cp2 cp3 cp4
          have Kp_2 : Hid (Bk v1 p 23 #[.bool false, .bool true, .bool c, .bool d, .bool f]) := Kp_1.out.below b1 Kp_1.out.lt
          have B_2 : Hid (Below w.heap.size w v1) := B_1.out.trans (b1.mono B_1.out.size)
          clear Kp_1 B_1
          clear b1
          obtain ⟨W3, hW3⟩ : ∃ W, v1.alloc (.cells #[.bool false, .bool true, .bool x2, .bool x3, .bool x4] 23) = W := ⟨_, rfl⟩
          obtain ⟨q, hq⟩ : ∃ g, v1.heap.size = g := ⟨_, rfl⟩
          have Kp_3 : Hid (Bk W3 p 23 #[.bool false, .bool true, .bool c, .bool d, .bool f]) := by rw [← hW3]; exact Kp_2.out.alloc _
          have HNpq : Hid (p < q) := by have := Kp_2.out.lt; unfold Hid; omega
          have Kq_3 : Hid (Bk W3 q 23 #[.bool false, .bool true, .bool x2, .bool x3, .bool x4]) := by rw [← hW3, ← hq]; exact Bk.new _ _ _
          have B_3 : Hid (Below w.heap.size w W3) := by rw [← hW3]; exact B_2.out.alloc B_2.out.size _
          have HLq : Hid (w.heap.size ≤ q) := by have := B_2.out.size; unfold Hid; omega
          have HW3 := Lib.hid hW3
          have HAq := Lib.hid hq
          clear hW3 hq
          clear Kp_2 B_2
          go_upto_region 5 with fail
          (try rw [HW3.out])
          (try rw [HAq.out])
          have cp0 : W3.cell? ⟨p, 0, none⟩ = some (.bool false) := Kp_3.out.cell 0
          have cp1 : W3.cell? ⟨p, 1, none⟩ = some (.bool true) := Kp_3.out.cell 1
          have cp2 : W3.cell? ⟨p, 2, none⟩ = some (.bool c) := Kp_3.out.cell 2
          have cp3 : W3.cell? ⟨p, 3, none⟩ = some (.bool d) := Kp_3.out.cell 3
          have cp4 : W3.cell? ⟨p, 4, none⟩ = some (.bool f) := Kp_3.out.cell 4
          go_region
          clear cp0 cp1 cp2 cp3 cp4
          obtain ⟨W4, hW4⟩ : ∃ z, W3.drew = z := ⟨_, rfl⟩
          have Kp_4 : Hid (Bk W4 p 23 #[.bool false, .bool true, .bool c, .bool d, .bool f]) := by rw [← hW4]; exact Kp_3.out.drew
          have Kq_4 : Hid (Bk W4 q 23 #[.bool false, .bool true, .bool x2, .bool x3, .bool x4]) := by rw [← hW4]; exact Kq_3.out.drew
          have B_4 : Hid (Below w.heap.size w W4) := by rw [← hW4]; exact B_3.out.drew
          rw [hW4]
          clear hW4
          clear Kp_3 Kq_3 B_3
          have HIN : Hid (∀ W, Calls Try.prog 17 #[.agg #[.string ⟨#[97, 64, 98]⟩, .string ⟨#[110]⟩, .slice none 0 0, .int .i64 0, .bool false, .bool false], .agg #[.bool false, .bool true, .bool x2, .bool x3, .bool x4]] W fun e w' => ∃ iA cap, e = .returned (.agg #[.string ⟨#[97, 64, 98]⟩, .string ⟨#[110]⟩, .slice iA 0 cap, .int .i64 2, .bool x2, .bool x4]) ∧ Below W.heap.size W w') := fun W => by
            refine (into_any ⟨[97, 64, 98], [110], [], 0, false, false⟩ (.slice none 0 0) ⟨false, true, x2, x3, x4⟩ W (ReadT.nil _ _ _) (by decide)).mono ?_
            rintro e w' ⟨gv', he, ho, hb⟩
            obtain ⟨A, cap, hv⟩ := ho.slice
            subst hv
            exact ⟨A, cap, by rw [he]; rfl, hb⟩
          have cp0 : W4.cell? ⟨p, 0, none⟩ = some (.bool false) := Kp_4.out.cell 0
          have cp1 : W4.cell? ⟨p, 1, none⟩ = some (.bool true) := Kp_4.out.cell 1
          have cp2 : W4.cell? ⟨p, 2, none⟩ = some (.bool c) := Kp_4.out.cell 2
          have cp3 : W4.cell? ⟨p, 3, none⟩ = some (.bool d) := Kp_4.out.cell 3
          have cp4 : W4.cell? ⟨p, 4, none⟩ = some (.bool f) := Kp_4.out.cell 4
          have cq0 : W4.cell? ⟨q, 0, none⟩ = some (.bool false) := Kq_4.out.cell 0
          have cq1 : W4.cell? ⟨q, 1, none⟩ = some (.bool true) := Kq_4.out.cell 1
          have cq2 : W4.cell? ⟨q, 2, none⟩ = some (.bool x2) := Kq_4.out.cell 2
          have cq3 : W4.cell? ⟨q, 3, none⟩ = some (.bool x3) := Kq_4.out.cell 3
          have cq4 : W4.cell? ⟨q, 4, none⟩ = some (.bool x4) := Kq_4.out.cell 4
          go_wp2_with fail
          refine (HIN.out _).mono ?_
          rintro e v4 ⟨iA, icap, rfl, b4⟩
          clear cp0 cp1 cp2 cp3 cp4 cq0 cq1 cq2 cq3 cq4
          have Kp_5 : Hid (Bk v4 p 23 #[.bool false, .bool true, .bool c, .bool d, .bool f]) := Kp_4.out.below b4 Kp_4.out.lt
          have Kq_5 : Hid (Bk v4 q 23 #[.bool false, .bool true, .bool x2, .bool x3, .bool x4]) := Kq_4.out.below b4 Kq_4.out.lt
          have B_5 : Hid (Below w.heap.size w v4) := B_4.out.trans (b4.mono B_4.out.size)
          clear Kp_4 Kq_4 B_4
          clear b4
          obtain ⟨W6, hW6⟩ : ∃ W, v4.alloc (.cells #[.string ⟨#[97, 64, 98]⟩, .string ⟨#[110]⟩, .slice iA 0 icap, .int .i64 2, .bool x2, .bool x4] 26) = W := ⟨_, rfl⟩
          obtain ⟨u, hu⟩ : ∃ g, v4.heap.size = g := ⟨_, rfl⟩
          have Kp_6 : Hid (Bk W6 p 23 #[.bool false, .bool true, .bool c, .bool d, .bool f]) := by rw [← hW6]; exact Kp_5.out.alloc _
          have HNpu : Hid (p < u) := by have := Kp_5.out.lt; unfold Hid; omega
          have Kq_6 : Hid (Bk W6 q 23 #[.bool false, .bool true, .bool x2, .bool x3, .bool x4]) := by rw [← hW6]; exact Kq_5.out.alloc _
          have HNqu : Hid (q < u) := by have := Kq_5.out.lt; unfold Hid; omega
          have Ku_6 : Hid (Bk W6 u 26 #[.string ⟨#[97, 64, 98]⟩, .string ⟨#[110]⟩, .slice iA 0 icap, .int .i64 2, .bool x2, .bool x4]) := by rw [← hW6, ← hu]; exact Bk.new _ _ _
          have B_6 : Hid (Below w.heap.size w W6) := by rw [← hW6]; exact B_5.out.alloc B_5.out.size _
          have HLu : Hid (w.heap.size ≤ u) := by have := B_5.out.size; unfold Hid; omega
          have HW6 := Lib.hid hW6
          have HAu := Lib.hid hu
          clear hW6 hu
          clear Kp_5 Kq_5 B_5
          go_upto_region 20 with fail
          (try rw [HW6.out])
          (try rw [HAu.out])
          go_wp2_with fail
          refine (HAW.out W6).mono ?_
          rintro e v6 ⟨rfl, b6⟩
          have KU := Ku_6.out.below b6 Ku_6.out.lt
          have Kp_7 : Hid (Bk v6 p 23 #[.bool false, .bool true, .bool c, .bool d, .bool f]) := Kp_6.out.below b6 Kp_6.out.lt
          have Kq_7 : Hid (Bk v6 q 23 #[.bool false, .bool true, .bool x2, .bool x3, .bool x4]) := Kq_6.out.below b6 Kq_6.out.lt
          have B_7 : Hid (Below w.heap.size w v6) := B_6.out.trans (b6.mono B_6.out.size)
          clear Kp_6 Kq_6 B_6
          clear b6
          have cq0 : v6.cell? ⟨q, 0, none⟩ = some (.bool false) := Kq_7.out.cell 0
          have cq1 : v6.cell? ⟨q, 1, none⟩ = some (.bool true) := Kq_7.out.cell 1
          have cq2 : v6.cell? ⟨q, 2, none⟩ = some (.bool x2) := Kq_7.out.cell 2
          have cq3 : v6.cell? ⟨q, 3, none⟩ = some (.bool x3) := Kq_7.out.cell 3
          have cq4 : v6.cell? ⟨q, 4, none⟩ = some (.bool x4) := Kq_7.out.cell 4
          have y0 : v6.cell? ⟨u, 0, none⟩ = some (.string ⟨#[97, 64, 98]⟩) := KU.cell 0
          have y1 : v6.cell? ⟨u, 1, none⟩ = some (.string ⟨#[110]⟩) := KU.cell 1
          have y2 : v6.cell? ⟨u, 2, none⟩ = some (.slice iA 0 icap) := KU.cell 2
          have y3 : v6.cell? ⟨u, 3, none⟩ = some (.int .i64 2) := KU.cell 3
          have y4 : v6.cell? ⟨u, 4, none⟩ = some (.bool x2) := KU.cell 4
          have y5 : v6.cell? ⟨u, 5, none⟩ = some (.bool x4) := KU.cell 5
          have ht : ((⟨#[110]⟩ : ByteArray).toList == (⟨#[110]⟩ : ByteArray).toList) = true := by simp
          clear KU
          go_wp2_with fail
          go_ret
          exact ⟨rfl, B_7.out⟩
      | true =>
        cases b with
        | false =>
          have hp : ∀ c d f : Bool, rightM ⟨true, false, c, d, f⟩ = true → (stepM ⟨true, false, c, d, f⟩ 1).to = true ∧ (stepM ⟨true, false, c, d, f⟩ 1).fr = false := by decide
          obtain ⟨h0, h1⟩ := hp c d f HR.out
          clear hp
          obtain ⟨⟨x0, x1, x2, x3, x4⟩, hA⟩ : ∃ A, stepM ⟨true, false, c, d, f⟩ 1 = A := ⟨_, rfl⟩
          rw [hA] at h0 h1
          simp only at h0 h1
          obtain rfl := h0.symm
          obtain rfl := h1.symm
          have HA := Lib.hid hA
          clear hA
          have cp0 : v0.cell? ⟨p, 0, none⟩ = some (.bool true) := Kp_1.out.cell 0
          have cp1 : v0.cell? ⟨p, 1, none⟩ = some (.bool false) := Kp_1.out.cell 1
          have cp2 : v0.cell? ⟨p, 2, none⟩ = some (.bool c) := Kp_1.out.cell 2
          have cp3 : v0.cell? ⟨p, 3, none⟩ = some (.bool d) := Kp_1.out.cell 3
          have cp4 : v0.cell? ⟨p, 4, none⟩ = some (.bool f) := Kp_1.out.cell 4
          obtain ⟨r1, hr1⟩ : ∃ r, (!decide ((⟨true, false, x2, x3, x4⟩ : Mod) = ⟨true, false, c, d, f⟩)) = r := ⟨_, rfl⟩
          have HS1 := Lib.hid (step_at ⟨true, false, c, d, f⟩ ⟨true, false, x2, x3, x4⟩ (1) r1 (HA.out) hr1 v0)
          clear hr1
          go_wp2_with fail
          refine HS1.out.mono ?_
          rintro e v1 ⟨rfl, b1⟩
          clear cp0 cp1 cp2 cp3 cp4
          have Kp_2 : Hid (Bk v1 p 23 #[.bool true, .bool false, .bool c, .bool d, .bool f]) := Kp_1.out.below b1 Kp_1.out.lt
          have B_2 : Hid (Below w.heap.size w v1) := B_1.out.trans (b1.mono B_1.out.size)
          clear Kp_1 B_1
          clear b1
          obtain ⟨W3, hW3⟩ : ∃ W, v1.alloc (.cells #[.bool true, .bool false, .bool x2, .bool x3, .bool x4] 23) = W := ⟨_, rfl⟩
          obtain ⟨q, hq⟩ : ∃ g, v1.heap.size = g := ⟨_, rfl⟩
          have Kp_3 : Hid (Bk W3 p 23 #[.bool true, .bool false, .bool c, .bool d, .bool f]) := by rw [← hW3]; exact Kp_2.out.alloc _
          have HNpq : Hid (p < q) := by have := Kp_2.out.lt; unfold Hid; omega
          have Kq_3 : Hid (Bk W3 q 23 #[.bool true, .bool false, .bool x2, .bool x3, .bool x4]) := by rw [← hW3, ← hq]; exact Bk.new _ _ _
          have B_3 : Hid (Below w.heap.size w W3) := by rw [← hW3]; exact B_2.out.alloc B_2.out.size _
          have HLq : Hid (w.heap.size ≤ q) := by have := B_2.out.size; unfold Hid; omega
          have HW3 := Lib.hid hW3
          have HAq := Lib.hid hq
          clear hW3 hq
          clear Kp_2 B_2
          go_upto_region 5 with fail
          (try rw [HW3.out])
          (try rw [HAq.out])
          have cp0 : W3.cell? ⟨p, 0, none⟩ = some (.bool true) := Kp_3.out.cell 0
          have cp1 : W3.cell? ⟨p, 1, none⟩ = some (.bool false) := Kp_3.out.cell 1
          have cp2 : W3.cell? ⟨p, 2, none⟩ = some (.bool c) := Kp_3.out.cell 2
          have cp3 : W3.cell? ⟨p, 3, none⟩ = some (.bool d) := Kp_3.out.cell 3
          have cp4 : W3.cell? ⟨p, 4, none⟩ = some (.bool f) := Kp_3.out.cell 4
          go_region
          clear cp0 cp1 cp2 cp3 cp4
          obtain ⟨W4, hW4⟩ : ∃ z, W3.drew = z := ⟨_, rfl⟩
          have Kp_4 : Hid (Bk W4 p 23 #[.bool true, .bool false, .bool c, .bool d, .bool f]) := by rw [← hW4]; exact Kp_3.out.drew
          have Kq_4 : Hid (Bk W4 q 23 #[.bool true, .bool false, .bool x2, .bool x3, .bool x4]) := by rw [← hW4]; exact Kq_3.out.drew
          have B_4 : Hid (Below w.heap.size w W4) := by rw [← hW4]; exact B_3.out.drew
          rw [hW4]
          clear hW4
          clear Kp_3 Kq_3 B_3
          have HIN : Hid (∀ W, Calls Try.prog 17 #[.agg #[.string ⟨#[97, 64, 98]⟩, .string ⟨#[110]⟩, .slice none 0 0, .int .i64 0, .bool false, .bool false], .agg #[.bool true, .bool false, .bool x2, .bool x3, .bool x4]] W fun e w' => ∃ iA cap, e = .returned (.agg #[.string ⟨#[97, 64, 98]⟩, .string ⟨#[110]⟩, .slice iA 0 cap, .int .i64 1, .bool x2, .bool x4]) ∧ Below W.heap.size W w') := fun W => by
            refine (into_any ⟨[97, 64, 98], [110], [], 0, false, false⟩ (.slice none 0 0) ⟨true, false, x2, x3, x4⟩ W (ReadT.nil _ _ _) (by decide)).mono ?_
            rintro e w' ⟨gv', he, ho, hb⟩
            obtain ⟨A, cap, hv⟩ := ho.slice
            subst hv
            exact ⟨A, cap, by rw [he]; rfl, hb⟩
          have cp0 : W4.cell? ⟨p, 0, none⟩ = some (.bool true) := Kp_4.out.cell 0
          have cp1 : W4.cell? ⟨p, 1, none⟩ = some (.bool false) := Kp_4.out.cell 1
          have cp2 : W4.cell? ⟨p, 2, none⟩ = some (.bool c) := Kp_4.out.cell 2
          have cp3 : W4.cell? ⟨p, 3, none⟩ = some (.bool d) := Kp_4.out.cell 3
          have cp4 : W4.cell? ⟨p, 4, none⟩ = some (.bool f) := Kp_4.out.cell 4
          have cq0 : W4.cell? ⟨q, 0, none⟩ = some (.bool true) := Kq_4.out.cell 0
          have cq1 : W4.cell? ⟨q, 1, none⟩ = some (.bool false) := Kq_4.out.cell 1
          have cq2 : W4.cell? ⟨q, 2, none⟩ = some (.bool x2) := Kq_4.out.cell 2
          have cq3 : W4.cell? ⟨q, 3, none⟩ = some (.bool x3) := Kq_4.out.cell 3
          have cq4 : W4.cell? ⟨q, 4, none⟩ = some (.bool x4) := Kq_4.out.cell 4
          go_wp2_with fail
          refine (HIN.out _).mono ?_
          rintro e v4 ⟨iA, icap, rfl, b4⟩
          clear cp0 cp1 cp2 cp3 cp4 cq0 cq1 cq2 cq3 cq4
          have Kp_5 : Hid (Bk v4 p 23 #[.bool true, .bool false, .bool c, .bool d, .bool f]) := Kp_4.out.below b4 Kp_4.out.lt
          have Kq_5 : Hid (Bk v4 q 23 #[.bool true, .bool false, .bool x2, .bool x3, .bool x4]) := Kq_4.out.below b4 Kq_4.out.lt
          have B_5 : Hid (Below w.heap.size w v4) := B_4.out.trans (b4.mono B_4.out.size)
          clear Kp_4 Kq_4 B_4
          clear b4
          obtain ⟨W6, hW6⟩ : ∃ W, v4.alloc (.cells #[.string ⟨#[97, 64, 98]⟩, .string ⟨#[110]⟩, .slice iA 0 icap, .int .i64 1, .bool x2, .bool x4] 26) = W := ⟨_, rfl⟩
          obtain ⟨u, hu⟩ : ∃ g, v4.heap.size = g := ⟨_, rfl⟩
          have Kp_6 : Hid (Bk W6 p 23 #[.bool true, .bool false, .bool c, .bool d, .bool f]) := by rw [← hW6]; exact Kp_5.out.alloc _
          have HNpu : Hid (p < u) := by have := Kp_5.out.lt; unfold Hid; omega
          have Kq_6 : Hid (Bk W6 q 23 #[.bool true, .bool false, .bool x2, .bool x3, .bool x4]) := by rw [← hW6]; exact Kq_5.out.alloc _
          have HNqu : Hid (q < u) := by have := Kq_5.out.lt; unfold Hid; omega
          have Ku_6 : Hid (Bk W6 u 26 #[.string ⟨#[97, 64, 98]⟩, .string ⟨#[110]⟩, .slice iA 0 icap, .int .i64 1, .bool x2, .bool x4]) := by rw [← hW6, ← hu]; exact Bk.new _ _ _
          have B_6 : Hid (Below w.heap.size w W6) := by rw [← hW6]; exact B_5.out.alloc B_5.out.size _
          have HLu : Hid (w.heap.size ≤ u) := by have := B_5.out.size; unfold Hid; omega
          have HW6 := Lib.hid hW6
          have HAu := Lib.hid hu
          clear hW6 hu
          clear Kp_5 Kq_5 B_5
          go_upto_region 20 with fail
          (try rw [HW6.out])
          (try rw [HAu.out])
          go_wp2_with fail
          refine (HAW.out W6).mono ?_
          rintro e v6 ⟨rfl, b6⟩
          have KU := Ku_6.out.below b6 Ku_6.out.lt
          have Kp_7 : Hid (Bk v6 p 23 #[.bool true, .bool false, .bool c, .bool d, .bool f]) := Kp_6.out.below b6 Kp_6.out.lt
          have Kq_7 : Hid (Bk v6 q 23 #[.bool true, .bool false, .bool x2, .bool x3, .bool x4]) := Kq_6.out.below b6 Kq_6.out.lt
          have B_7 : Hid (Below w.heap.size w v6) := B_6.out.trans (b6.mono B_6.out.size)
          clear Kp_6 Kq_6 B_6
          clear b6
          have cq0 : v6.cell? ⟨q, 0, none⟩ = some (.bool true) := Kq_7.out.cell 0
          have cq1 : v6.cell? ⟨q, 1, none⟩ = some (.bool false) := Kq_7.out.cell 1
          have cq2 : v6.cell? ⟨q, 2, none⟩ = some (.bool x2) := Kq_7.out.cell 2
          have cq3 : v6.cell? ⟨q, 3, none⟩ = some (.bool x3) := Kq_7.out.cell 3
          have cq4 : v6.cell? ⟨q, 4, none⟩ = some (.bool x4) := Kq_7.out.cell 4
          have y0 : v6.cell? ⟨u, 0, none⟩ = some (.string ⟨#[97, 64, 98]⟩) := KU.cell 0
          have y1 : v6.cell? ⟨u, 1, none⟩ = some (.string ⟨#[110]⟩) := KU.cell 1
          have y2 : v6.cell? ⟨u, 2, none⟩ = some (.slice iA 0 icap) := KU.cell 2
          have y3 : v6.cell? ⟨u, 3, none⟩ = some (.int .i64 1) := KU.cell 3
          have y4 : v6.cell? ⟨u, 4, none⟩ = some (.bool x2) := KU.cell 4
          have y5 : v6.cell? ⟨u, 5, none⟩ = some (.bool x4) := KU.cell 5
          have ht : ((⟨#[110]⟩ : ByteArray).toList == (⟨#[110]⟩ : ByteArray).toList) = true := by simp
          clear KU
          go_wp2_with fail
          go_ret
          exact ⟨rfl, B_7.out⟩
        | true =>
          have hp : ∀ c d f : Bool, rightM ⟨true, true, c, d, f⟩ = true → (stepM ⟨true, true, c, d, f⟩ 1).to = true ∧ (stepM ⟨true, true, c, d, f⟩ 1).fr = true := by decide
          obtain ⟨h0, h1⟩ := hp c d f HR.out
          clear hp
          obtain ⟨⟨x0, x1, x2, x3, x4⟩, hA⟩ : ∃ A, stepM ⟨true, true, c, d, f⟩ 1 = A := ⟨_, rfl⟩
          rw [hA] at h0 h1
          simp only at h0 h1
          obtain rfl := h0.symm
          obtain rfl := h1.symm
          have HA := Lib.hid hA
          clear hA
          have cp0 : v0.cell? ⟨p, 0, none⟩ = some (.bool true) := Kp_1.out.cell 0
          have cp1 : v0.cell? ⟨p, 1, none⟩ = some (.bool true) := Kp_1.out.cell 1
          have cp2 : v0.cell? ⟨p, 2, none⟩ = some (.bool c) := Kp_1.out.cell 2
          have cp3 : v0.cell? ⟨p, 3, none⟩ = some (.bool d) := Kp_1.out.cell 3
          have cp4 : v0.cell? ⟨p, 4, none⟩ = some (.bool f) := Kp_1.out.cell 4
          obtain ⟨r1, hr1⟩ : ∃ r, (!decide ((⟨true, true, x2, x3, x4⟩ : Mod) = ⟨true, true, c, d, f⟩)) = r := ⟨_, rfl⟩
          have HS1 := Lib.hid (step_at ⟨true, true, c, d, f⟩ ⟨true, true, x2, x3, x4⟩ (1) r1 (HA.out) hr1 v0)
          clear hr1
          go_wp2_with fail
          refine HS1.out.mono ?_
          rintro e v1 ⟨rfl, b1⟩
          clear cp0 cp1 cp2 cp3 cp4
          have Kp_2 : Hid (Bk v1 p 23 #[.bool true, .bool true, .bool c, .bool d, .bool f]) := Kp_1.out.below b1 Kp_1.out.lt
          have B_2 : Hid (Below w.heap.size w v1) := B_1.out.trans (b1.mono B_1.out.size)
          clear Kp_1 B_1
          clear b1
          obtain ⟨W3, hW3⟩ : ∃ W, v1.alloc (.cells #[.bool true, .bool true, .bool x2, .bool x3, .bool x4] 23) = W := ⟨_, rfl⟩
          obtain ⟨q, hq⟩ : ∃ g, v1.heap.size = g := ⟨_, rfl⟩
          have Kp_3 : Hid (Bk W3 p 23 #[.bool true, .bool true, .bool c, .bool d, .bool f]) := by rw [← hW3]; exact Kp_2.out.alloc _
          have HNpq : Hid (p < q) := by have := Kp_2.out.lt; unfold Hid; omega
          have Kq_3 : Hid (Bk W3 q 23 #[.bool true, .bool true, .bool x2, .bool x3, .bool x4]) := by rw [← hW3, ← hq]; exact Bk.new _ _ _
          have B_3 : Hid (Below w.heap.size w W3) := by rw [← hW3]; exact B_2.out.alloc B_2.out.size _
          have HLq : Hid (w.heap.size ≤ q) := by have := B_2.out.size; unfold Hid; omega
          have HW3 := Lib.hid hW3
          have HAq := Lib.hid hq
          clear hW3 hq
          clear Kp_2 B_2
          go_upto_region 5 with fail
          (try rw [HW3.out])
          (try rw [HAq.out])
          have cp0 : W3.cell? ⟨p, 0, none⟩ = some (.bool true) := Kp_3.out.cell 0
          have cp1 : W3.cell? ⟨p, 1, none⟩ = some (.bool true) := Kp_3.out.cell 1
          have cp2 : W3.cell? ⟨p, 2, none⟩ = some (.bool c) := Kp_3.out.cell 2
          have cp3 : W3.cell? ⟨p, 3, none⟩ = some (.bool d) := Kp_3.out.cell 3
          have cp4 : W3.cell? ⟨p, 4, none⟩ = some (.bool f) := Kp_3.out.cell 4
          go_region
          clear cp0 cp1 cp2 cp3 cp4
          obtain ⟨W4, hW4⟩ : ∃ z, W3.drew = z := ⟨_, rfl⟩
          have Kp_4 : Hid (Bk W4 p 23 #[.bool true, .bool true, .bool c, .bool d, .bool f]) := by rw [← hW4]; exact Kp_3.out.drew
          have Kq_4 : Hid (Bk W4 q 23 #[.bool true, .bool true, .bool x2, .bool x3, .bool x4]) := by rw [← hW4]; exact Kq_3.out.drew
          have B_4 : Hid (Below w.heap.size w W4) := by rw [← hW4]; exact B_3.out.drew
          rw [hW4]
          clear hW4
          clear Kp_3 Kq_3 B_3
          have HIN : Hid (∀ W, Calls Try.prog 17 #[.agg #[.string ⟨#[97, 64, 98]⟩, .string ⟨#[110]⟩, .slice none 0 0, .int .i64 0, .bool false, .bool false], .agg #[.bool true, .bool true, .bool x2, .bool x3, .bool x4]] W fun e w' => ∃ iA cap, e = .returned (.agg #[.string ⟨#[97, 64, 98]⟩, .string ⟨#[110]⟩, .slice iA 0 cap, .int .i64 3, .bool x2, .bool x4]) ∧ Below W.heap.size W w') := fun W => by
            refine (into_any ⟨[97, 64, 98], [110], [], 0, false, false⟩ (.slice none 0 0) ⟨true, true, x2, x3, x4⟩ W (ReadT.nil _ _ _) (by decide)).mono ?_
            rintro e w' ⟨gv', he, ho, hb⟩
            obtain ⟨A, cap, hv⟩ := ho.slice
            subst hv
            exact ⟨A, cap, by rw [he]; rfl, hb⟩
          have cp0 : W4.cell? ⟨p, 0, none⟩ = some (.bool true) := Kp_4.out.cell 0
          have cp1 : W4.cell? ⟨p, 1, none⟩ = some (.bool true) := Kp_4.out.cell 1
          have cp2 : W4.cell? ⟨p, 2, none⟩ = some (.bool c) := Kp_4.out.cell 2
          have cp3 : W4.cell? ⟨p, 3, none⟩ = some (.bool d) := Kp_4.out.cell 3
          have cp4 : W4.cell? ⟨p, 4, none⟩ = some (.bool f) := Kp_4.out.cell 4
          have cq0 : W4.cell? ⟨q, 0, none⟩ = some (.bool true) := Kq_4.out.cell 0
          have cq1 : W4.cell? ⟨q, 1, none⟩ = some (.bool true) := Kq_4.out.cell 1
          have cq2 : W4.cell? ⟨q, 2, none⟩ = some (.bool x2) := Kq_4.out.cell 2
          have cq3 : W4.cell? ⟨q, 3, none⟩ = some (.bool x3) := Kq_4.out.cell 3
          have cq4 : W4.cell? ⟨q, 4, none⟩ = some (.bool x4) := Kq_4.out.cell 4
          go_wp2_with fail
          refine (HIN.out _).mono ?_
          rintro e v4 ⟨iA, icap, rfl, b4⟩
          clear cp0 cp1 cp2 cp3 cp4 cq0 cq1 cq2 cq3 cq4
          have Kp_5 : Hid (Bk v4 p 23 #[.bool true, .bool true, .bool c, .bool d, .bool f]) := Kp_4.out.below b4 Kp_4.out.lt
          have Kq_5 : Hid (Bk v4 q 23 #[.bool true, .bool true, .bool x2, .bool x3, .bool x4]) := Kq_4.out.below b4 Kq_4.out.lt
          have B_5 : Hid (Below w.heap.size w v4) := B_4.out.trans (b4.mono B_4.out.size)
          clear Kp_4 Kq_4 B_4
          clear b4
          obtain ⟨W6, hW6⟩ : ∃ W, v4.alloc (.cells #[.string ⟨#[97, 64, 98]⟩, .string ⟨#[110]⟩, .slice iA 0 icap, .int .i64 3, .bool x2, .bool x4] 26) = W := ⟨_, rfl⟩
          obtain ⟨u, hu⟩ : ∃ g, v4.heap.size = g := ⟨_, rfl⟩
          have Kp_6 : Hid (Bk W6 p 23 #[.bool true, .bool true, .bool c, .bool d, .bool f]) := by rw [← hW6]; exact Kp_5.out.alloc _
          have HNpu : Hid (p < u) := by have := Kp_5.out.lt; unfold Hid; omega
          have Kq_6 : Hid (Bk W6 q 23 #[.bool true, .bool true, .bool x2, .bool x3, .bool x4]) := by rw [← hW6]; exact Kq_5.out.alloc _
          have HNqu : Hid (q < u) := by have := Kq_5.out.lt; unfold Hid; omega
          have Ku_6 : Hid (Bk W6 u 26 #[.string ⟨#[97, 64, 98]⟩, .string ⟨#[110]⟩, .slice iA 0 icap, .int .i64 3, .bool x2, .bool x4]) := by rw [← hW6, ← hu]; exact Bk.new _ _ _
          have B_6 : Hid (Below w.heap.size w W6) := by rw [← hW6]; exact B_5.out.alloc B_5.out.size _
          have HLu : Hid (w.heap.size ≤ u) := by have := B_5.out.size; unfold Hid; omega
          have HW6 := Lib.hid hW6
          have HAu := Lib.hid hu
          clear hW6 hu
          clear Kp_5 Kq_5 B_5
          go_upto_region 20 with fail
          (try rw [HW6.out])
          (try rw [HAu.out])
          go_wp2_with fail
          refine (HAW.out W6).mono ?_
          rintro e v6 ⟨rfl, b6⟩
          have KU := Ku_6.out.below b6 Ku_6.out.lt
          have Kp_7 : Hid (Bk v6 p 23 #[.bool true, .bool true, .bool c, .bool d, .bool f]) := Kp_6.out.below b6 Kp_6.out.lt
          have Kq_7 : Hid (Bk v6 q 23 #[.bool true, .bool true, .bool x2, .bool x3, .bool x4]) := Kq_6.out.below b6 Kq_6.out.lt
          have B_7 : Hid (Below w.heap.size w v6) := B_6.out.trans (b6.mono B_6.out.size)
          clear Kp_6 Kq_6 B_6
          clear b6
          have cq0 : v6.cell? ⟨q, 0, none⟩ = some (.bool true) := Kq_7.out.cell 0
          have cq1 : v6.cell? ⟨q, 1, none⟩ = some (.bool true) := Kq_7.out.cell 1
          have cq2 : v6.cell? ⟨q, 2, none⟩ = some (.bool x2) := Kq_7.out.cell 2
          have cq3 : v6.cell? ⟨q, 3, none⟩ = some (.bool x3) := Kq_7.out.cell 3
          have cq4 : v6.cell? ⟨q, 4, none⟩ = some (.bool x4) := Kq_7.out.cell 4
          have y0 : v6.cell? ⟨u, 0, none⟩ = some (.string ⟨#[97, 64, 98]⟩) := KU.cell 0
          have y1 : v6.cell? ⟨u, 1, none⟩ = some (.string ⟨#[110]⟩) := KU.cell 1
          have y2 : v6.cell? ⟨u, 2, none⟩ = some (.slice iA 0 icap) := KU.cell 2
          have y3 : v6.cell? ⟨u, 3, none⟩ = some (.int .i64 3) := KU.cell 3
          have y4 : v6.cell? ⟨u, 4, none⟩ = some (.bool x2) := KU.cell 4
          have y5 : v6.cell? ⟨u, 5, none⟩ = some (.bool x4) := KU.cell 5
          have ht : ((⟨#[110]⟩ : ByteArray).toList == (⟨#[110]⟩ : ByteArray).toList) = true := by simp
          clear KU
          go_wp2_with fail
          go_ret
          exact ⟨rfl, B_7.out⟩
    · skip
      cases b with
      | false =>
        have hp : ∀ a c d f : Bool, rightM ⟨a, false, c, d, f⟩ = true → (stepM ⟨a, false, c, d, f⟩ 2).to = false ∧ (stepM ⟨a, false, c, d, f⟩ 2).fr = false := by decide
        obtain ⟨h0, h1⟩ := hp a c d f HR.out
        clear hp
        obtain ⟨⟨x0, x1, x2, x3, x4⟩, hA⟩ : ∃ A, stepM ⟨a, false, c, d, f⟩ 2 = A := ⟨_, rfl⟩
        rw [hA] at h0 h1
        simp only at h0 h1
        obtain rfl := h0.symm
        obtain rfl := h1.symm
        have HA := Lib.hid hA
        clear hA
        have cp0 : v0.cell? ⟨p, 0, none⟩ = some (.bool a) := Kp_1.out.cell 0
        have cp1 : v0.cell? ⟨p, 1, none⟩ = some (.bool false) := Kp_1.out.cell 1
        have cp2 : v0.cell? ⟨p, 2, none⟩ = some (.bool c) := Kp_1.out.cell 2
        have cp3 : v0.cell? ⟨p, 3, none⟩ = some (.bool d) := Kp_1.out.cell 3
        have cp4 : v0.cell? ⟨p, 4, none⟩ = some (.bool f) := Kp_1.out.cell 4
        obtain ⟨r1, hr1⟩ : ∃ r, (!decide ((⟨false, false, x2, x3, x4⟩ : Mod) = ⟨a, false, c, d, f⟩)) = r := ⟨_, rfl⟩
        have HS1 := Lib.hid (step_at ⟨a, false, c, d, f⟩ ⟨false, false, x2, x3, x4⟩ (2) r1 (HA.out) hr1 v0)
        clear hr1
        go_wp2_with fail
        refine HS1.out.mono ?_
        rintro e v1 ⟨rfl, b1⟩
        clear cp0 cp1 cp2 cp3 cp4
        have Kp_2 : Hid (Bk v1 p 23 #[.bool a, .bool false, .bool c, .bool d, .bool f]) := Kp_1.out.below b1 Kp_1.out.lt
        have B_2 : Hid (Below w.heap.size w v1) := B_1.out.trans (b1.mono B_1.out.size)
        clear Kp_1 B_1
        clear b1
        obtain ⟨W3, hW3⟩ : ∃ W, v1.alloc (.cells #[.bool false, .bool false, .bool x2, .bool x3, .bool x4] 23) = W := ⟨_, rfl⟩
        obtain ⟨q, hq⟩ : ∃ g, v1.heap.size = g := ⟨_, rfl⟩
        have Kp_3 : Hid (Bk W3 p 23 #[.bool a, .bool false, .bool c, .bool d, .bool f]) := by rw [← hW3]; exact Kp_2.out.alloc _
        have HNpq : Hid (p < q) := by have := Kp_2.out.lt; unfold Hid; omega
        have Kq_3 : Hid (Bk W3 q 23 #[.bool false, .bool false, .bool x2, .bool x3, .bool x4]) := by rw [← hW3, ← hq]; exact Bk.new _ _ _
        have B_3 : Hid (Below w.heap.size w W3) := by rw [← hW3]; exact B_2.out.alloc B_2.out.size _
        have HLq : Hid (w.heap.size ≤ q) := by have := B_2.out.size; unfold Hid; omega
        have HW3 := Lib.hid hW3
        have HAq := Lib.hid hq
        clear hW3 hq
        clear Kp_2 B_2
        go_upto_region 5 with fail
        (try rw [HW3.out])
        (try rw [HAq.out])
        have cp0 : W3.cell? ⟨p, 0, none⟩ = some (.bool a) := Kp_3.out.cell 0
        have cp1 : W3.cell? ⟨p, 1, none⟩ = some (.bool false) := Kp_3.out.cell 1
        have cp2 : W3.cell? ⟨p, 2, none⟩ = some (.bool c) := Kp_3.out.cell 2
        have cp3 : W3.cell? ⟨p, 3, none⟩ = some (.bool d) := Kp_3.out.cell 3
        have cp4 : W3.cell? ⟨p, 4, none⟩ = some (.bool f) := Kp_3.out.cell 4
        go_region
        clear cp0 cp1 cp2 cp3 cp4
        obtain ⟨W4, hW4⟩ : ∃ z, W3.drew = z := ⟨_, rfl⟩
        have Kp_4 : Hid (Bk W4 p 23 #[.bool a, .bool false, .bool c, .bool d, .bool f]) := by rw [← hW4]; exact Kp_3.out.drew
        have Kq_4 : Hid (Bk W4 q 23 #[.bool false, .bool false, .bool x2, .bool x3, .bool x4]) := by rw [← hW4]; exact Kq_3.out.drew
        have B_4 : Hid (Below w.heap.size w W4) := by rw [← hW4]; exact B_3.out.drew
        rw [hW4]
        clear hW4
        clear Kp_3 Kq_3 B_3
        have HIN : Hid (∀ W, Calls Try.prog 17 #[.agg #[.string ⟨#[97, 64, 98]⟩, .string ⟨#[110]⟩, .slice none 0 0, .int .i64 0, .bool false, .bool false], .agg #[.bool false, .bool false, .bool x2, .bool x3, .bool x4]] W fun e w' => ∃ iA cap, e = .returned (.agg #[.string ⟨#[97, 64, 98]⟩, .string ⟨#[110]⟩, .slice iA 0 cap, .int .i64 0, .bool x2, .bool x4]) ∧ Below W.heap.size W w') := fun W => by
          refine (into_any ⟨[97, 64, 98], [110], [], 0, false, false⟩ (.slice none 0 0) ⟨false, false, x2, x3, x4⟩ W (ReadT.nil _ _ _) (by decide)).mono ?_
          rintro e w' ⟨gv', he, ho, hb⟩
          obtain ⟨A, cap, hv⟩ := ho.slice
          subst hv
          exact ⟨A, cap, by rw [he]; rfl, hb⟩
        have cp0 : W4.cell? ⟨p, 0, none⟩ = some (.bool a) := Kp_4.out.cell 0
        have cp1 : W4.cell? ⟨p, 1, none⟩ = some (.bool false) := Kp_4.out.cell 1
        have cp2 : W4.cell? ⟨p, 2, none⟩ = some (.bool c) := Kp_4.out.cell 2
        have cp3 : W4.cell? ⟨p, 3, none⟩ = some (.bool d) := Kp_4.out.cell 3
        have cp4 : W4.cell? ⟨p, 4, none⟩ = some (.bool f) := Kp_4.out.cell 4
        have cq0 : W4.cell? ⟨q, 0, none⟩ = some (.bool false) := Kq_4.out.cell 0
        have cq1 : W4.cell? ⟨q, 1, none⟩ = some (.bool false) := Kq_4.out.cell 1
        have cq2 : W4.cell? ⟨q, 2, none⟩ = some (.bool x2) := Kq_4.out.cell 2
        have cq3 : W4.cell? ⟨q, 3, none⟩ = some (.bool x3) := Kq_4.out.cell 3
        have cq4 : W4.cell? ⟨q, 4, none⟩ = some (.bool x4) := Kq_4.out.cell 4
        go_wp2_with fail
        refine (HIN.out _).mono ?_
        rintro e v4 ⟨iA, icap, rfl, b4⟩
        clear cp0 cp1 cp2 cp3 cp4 cq0 cq1 cq2 cq3 cq4
        have Kp_5 : Hid (Bk v4 p 23 #[.bool a, .bool false, .bool c, .bool d, .bool f]) := Kp_4.out.below b4 Kp_4.out.lt
        have Kq_5 : Hid (Bk v4 q 23 #[.bool false, .bool false, .bool x2, .bool x3, .bool x4]) := Kq_4.out.below b4 Kq_4.out.lt
        have B_5 : Hid (Below w.heap.size w v4) := B_4.out.trans (b4.mono B_4.out.size)
        clear Kp_4 Kq_4 B_4
        clear b4
        obtain ⟨W6, hW6⟩ : ∃ W, v4.alloc (.cells #[.string ⟨#[97, 64, 98]⟩, .string ⟨#[110]⟩, .slice iA 0 icap, .int .i64 0, .bool x2, .bool x4] 26) = W := ⟨_, rfl⟩
        obtain ⟨u, hu⟩ : ∃ g, v4.heap.size = g := ⟨_, rfl⟩
        have Kp_6 : Hid (Bk W6 p 23 #[.bool a, .bool false, .bool c, .bool d, .bool f]) := by rw [← hW6]; exact Kp_5.out.alloc _
        have HNpu : Hid (p < u) := by have := Kp_5.out.lt; unfold Hid; omega
        have Kq_6 : Hid (Bk W6 q 23 #[.bool false, .bool false, .bool x2, .bool x3, .bool x4]) := by rw [← hW6]; exact Kq_5.out.alloc _
        have HNqu : Hid (q < u) := by have := Kq_5.out.lt; unfold Hid; omega
        have Ku_6 : Hid (Bk W6 u 26 #[.string ⟨#[97, 64, 98]⟩, .string ⟨#[110]⟩, .slice iA 0 icap, .int .i64 0, .bool x2, .bool x4]) := by rw [← hW6, ← hu]; exact Bk.new _ _ _
        have B_6 : Hid (Below w.heap.size w W6) := by rw [← hW6]; exact B_5.out.alloc B_5.out.size _
        have HLu : Hid (w.heap.size ≤ u) := by have := B_5.out.size; unfold Hid; omega
        have HW6 := Lib.hid hW6
        have HAu := Lib.hid hu
        clear hW6 hu
        clear Kp_5 Kq_5 B_5
        go_upto_region 20 with fail
        (try rw [HW6.out])
        (try rw [HAu.out])
        go_wp2_with fail
        refine (HAW.out W6).mono ?_
        rintro e v6 ⟨rfl, b6⟩
        have KU := Ku_6.out.below b6 Ku_6.out.lt
        have Kp_7 : Hid (Bk v6 p 23 #[.bool a, .bool false, .bool c, .bool d, .bool f]) := Kp_6.out.below b6 Kp_6.out.lt
        have Kq_7 : Hid (Bk v6 q 23 #[.bool false, .bool false, .bool x2, .bool x3, .bool x4]) := Kq_6.out.below b6 Kq_6.out.lt
        have B_7 : Hid (Below w.heap.size w v6) := B_6.out.trans (b6.mono B_6.out.size)
        clear Kp_6 Kq_6 B_6
        clear b6
        have cq0 : v6.cell? ⟨q, 0, none⟩ = some (.bool false) := Kq_7.out.cell 0
        have cq1 : v6.cell? ⟨q, 1, none⟩ = some (.bool false) := Kq_7.out.cell 1
        have cq2 : v6.cell? ⟨q, 2, none⟩ = some (.bool x2) := Kq_7.out.cell 2
        have cq3 : v6.cell? ⟨q, 3, none⟩ = some (.bool x3) := Kq_7.out.cell 3
        have cq4 : v6.cell? ⟨q, 4, none⟩ = some (.bool x4) := Kq_7.out.cell 4
        have y0 : v6.cell? ⟨u, 0, none⟩ = some (.string ⟨#[97, 64, 98]⟩) := KU.cell 0
        have y1 : v6.cell? ⟨u, 1, none⟩ = some (.string ⟨#[110]⟩) := KU.cell 1
        have y2 : v6.cell? ⟨u, 2, none⟩ = some (.slice iA 0 icap) := KU.cell 2
        have y3 : v6.cell? ⟨u, 3, none⟩ = some (.int .i64 0) := KU.cell 3
        have y4 : v6.cell? ⟨u, 4, none⟩ = some (.bool x2) := KU.cell 4
        have y5 : v6.cell? ⟨u, 5, none⟩ = some (.bool x4) := KU.cell 5
        have ht : ((⟨#[110]⟩ : ByteArray).toList == (⟨#[110]⟩ : ByteArray).toList) = true := by simp
        clear KU
        go_wp2_with fail
        go_ret
        exact ⟨rfl, B_7.out⟩
      | true =>
        have hp : ∀ a c d f : Bool, rightM ⟨a, true, c, d, f⟩ = true → (stepM ⟨a, true, c, d, f⟩ 2).to = false ∧ (stepM ⟨a, true, c, d, f⟩ 2).fr = true := by decide
        obtain ⟨h0, h1⟩ := hp a c d f HR.out
        clear hp
        obtain ⟨⟨x0, x1, x2, x3, x4⟩, hA⟩ : ∃ A, stepM ⟨a, true, c, d, f⟩ 2 = A := ⟨_, rfl⟩
        rw [hA] at h0 h1
        simp only at h0 h1
        obtain rfl := h0.symm
        obtain rfl := h1.symm
        have HA := Lib.hid hA
        clear hA
        have cp0 : v0.cell? ⟨p, 0, none⟩ = some (.bool a) := Kp_1.out.cell 0
        have cp1 : v0.cell? ⟨p, 1, none⟩ = some (.bool true) := Kp_1.out.cell 1
        have cp2 : v0.cell? ⟨p, 2, none⟩ = some (.bool c) := Kp_1.out.cell 2
        have cp3 : v0.cell? ⟨p, 3, none⟩ = some (.bool d) := Kp_1.out.cell 3
        have cp4 : v0.cell? ⟨p, 4, none⟩ = some (.bool f) := Kp_1.out.cell 4
        obtain ⟨r1, hr1⟩ : ∃ r, (!decide ((⟨false, true, x2, x3, x4⟩ : Mod) = ⟨a, true, c, d, f⟩)) = r := ⟨_, rfl⟩
        have HS1 := Lib.hid (step_at ⟨a, true, c, d, f⟩ ⟨false, true, x2, x3, x4⟩ (2) r1 (HA.out) hr1 v0)
        clear hr1
        go_wp2_with fail
        refine HS1.out.mono ?_
        rintro e v1 ⟨rfl, b1⟩
        clear cp0 cp1 cp2 cp3 cp4
        have Kp_2 : Hid (Bk v1 p 23 #[.bool a, .bool true, .bool c, .bool d, .bool f]) := Kp_1.out.below b1 Kp_1.out.lt
        have B_2 : Hid (Below w.heap.size w v1) := B_1.out.trans (b1.mono B_1.out.size)
        clear Kp_1 B_1
        clear b1
        obtain ⟨W3, hW3⟩ : ∃ W, v1.alloc (.cells #[.bool false, .bool true, .bool x2, .bool x3, .bool x4] 23) = W := ⟨_, rfl⟩
        obtain ⟨q, hq⟩ : ∃ g, v1.heap.size = g := ⟨_, rfl⟩
        have Kp_3 : Hid (Bk W3 p 23 #[.bool a, .bool true, .bool c, .bool d, .bool f]) := by rw [← hW3]; exact Kp_2.out.alloc _
        have HNpq : Hid (p < q) := by have := Kp_2.out.lt; unfold Hid; omega
        have Kq_3 : Hid (Bk W3 q 23 #[.bool false, .bool true, .bool x2, .bool x3, .bool x4]) := by rw [← hW3, ← hq]; exact Bk.new _ _ _
        have B_3 : Hid (Below w.heap.size w W3) := by rw [← hW3]; exact B_2.out.alloc B_2.out.size _
        have HLq : Hid (w.heap.size ≤ q) := by have := B_2.out.size; unfold Hid; omega
        have HW3 := Lib.hid hW3
        have HAq := Lib.hid hq
        clear hW3 hq
        clear Kp_2 B_2
        go_upto_region 5 with fail
        (try rw [HW3.out])
        (try rw [HAq.out])
        have cp0 : W3.cell? ⟨p, 0, none⟩ = some (.bool a) := Kp_3.out.cell 0
        have cp1 : W3.cell? ⟨p, 1, none⟩ = some (.bool true) := Kp_3.out.cell 1
        have cp2 : W3.cell? ⟨p, 2, none⟩ = some (.bool c) := Kp_3.out.cell 2
        have cp3 : W3.cell? ⟨p, 3, none⟩ = some (.bool d) := Kp_3.out.cell 3
        have cp4 : W3.cell? ⟨p, 4, none⟩ = some (.bool f) := Kp_3.out.cell 4
        go_region
        clear cp0 cp1 cp2 cp3 cp4
        obtain ⟨W4, hW4⟩ : ∃ z, W3.drew = z := ⟨_, rfl⟩
        have Kp_4 : Hid (Bk W4 p 23 #[.bool a, .bool true, .bool c, .bool d, .bool f]) := by rw [← hW4]; exact Kp_3.out.drew
        have Kq_4 : Hid (Bk W4 q 23 #[.bool false, .bool true, .bool x2, .bool x3, .bool x4]) := by rw [← hW4]; exact Kq_3.out.drew
        have B_4 : Hid (Below w.heap.size w W4) := by rw [← hW4]; exact B_3.out.drew
        rw [hW4]
        clear hW4
        clear Kp_3 Kq_3 B_3
        have HIN : Hid (∀ W, Calls Try.prog 17 #[.agg #[.string ⟨#[97, 64, 98]⟩, .string ⟨#[110]⟩, .slice none 0 0, .int .i64 0, .bool false, .bool false], .agg #[.bool false, .bool true, .bool x2, .bool x3, .bool x4]] W fun e w' => ∃ iA cap, e = .returned (.agg #[.string ⟨#[97, 64, 98]⟩, .string ⟨#[110]⟩, .slice iA 0 cap, .int .i64 2, .bool x2, .bool x4]) ∧ Below W.heap.size W w') := fun W => by
          refine (into_any ⟨[97, 64, 98], [110], [], 0, false, false⟩ (.slice none 0 0) ⟨false, true, x2, x3, x4⟩ W (ReadT.nil _ _ _) (by decide)).mono ?_
          rintro e w' ⟨gv', he, ho, hb⟩
          obtain ⟨A, cap, hv⟩ := ho.slice
          subst hv
          exact ⟨A, cap, by rw [he]; rfl, hb⟩
        have cp0 : W4.cell? ⟨p, 0, none⟩ = some (.bool a) := Kp_4.out.cell 0
        have cp1 : W4.cell? ⟨p, 1, none⟩ = some (.bool true) := Kp_4.out.cell 1
        have cp2 : W4.cell? ⟨p, 2, none⟩ = some (.bool c) := Kp_4.out.cell 2
        have cp3 : W4.cell? ⟨p, 3, none⟩ = some (.bool d) := Kp_4.out.cell 3
        have cp4 : W4.cell? ⟨p, 4, none⟩ = some (.bool f) := Kp_4.out.cell 4
        have cq0 : W4.cell? ⟨q, 0, none⟩ = some (.bool false) := Kq_4.out.cell 0
        have cq1 : W4.cell? ⟨q, 1, none⟩ = some (.bool true) := Kq_4.out.cell 1
        have cq2 : W4.cell? ⟨q, 2, none⟩ = some (.bool x2) := Kq_4.out.cell 2
        have cq3 : W4.cell? ⟨q, 3, none⟩ = some (.bool x3) := Kq_4.out.cell 3
        have cq4 : W4.cell? ⟨q, 4, none⟩ = some (.bool x4) := Kq_4.out.cell 4
        go_wp2_with fail
        refine (HIN.out _).mono ?_
        rintro e v4 ⟨iA, icap, rfl, b4⟩
        clear cp0 cp1 cp2 cp3 cp4 cq0 cq1 cq2 cq3 cq4
        have Kp_5 : Hid (Bk v4 p 23 #[.bool a, .bool true, .bool c, .bool d, .bool f]) := Kp_4.out.below b4 Kp_4.out.lt
        have Kq_5 : Hid (Bk v4 q 23 #[.bool false, .bool true, .bool x2, .bool x3, .bool x4]) := Kq_4.out.below b4 Kq_4.out.lt
        have B_5 : Hid (Below w.heap.size w v4) := B_4.out.trans (b4.mono B_4.out.size)
        clear Kp_4 Kq_4 B_4
        clear b4
        obtain ⟨W6, hW6⟩ : ∃ W, v4.alloc (.cells #[.string ⟨#[97, 64, 98]⟩, .string ⟨#[110]⟩, .slice iA 0 icap, .int .i64 2, .bool x2, .bool x4] 26) = W := ⟨_, rfl⟩
        obtain ⟨u, hu⟩ : ∃ g, v4.heap.size = g := ⟨_, rfl⟩
        have Kp_6 : Hid (Bk W6 p 23 #[.bool a, .bool true, .bool c, .bool d, .bool f]) := by rw [← hW6]; exact Kp_5.out.alloc _
        have HNpu : Hid (p < u) := by have := Kp_5.out.lt; unfold Hid; omega
        have Kq_6 : Hid (Bk W6 q 23 #[.bool false, .bool true, .bool x2, .bool x3, .bool x4]) := by rw [← hW6]; exact Kq_5.out.alloc _
        have HNqu : Hid (q < u) := by have := Kq_5.out.lt; unfold Hid; omega
        have Ku_6 : Hid (Bk W6 u 26 #[.string ⟨#[97, 64, 98]⟩, .string ⟨#[110]⟩, .slice iA 0 icap, .int .i64 2, .bool x2, .bool x4]) := by rw [← hW6, ← hu]; exact Bk.new _ _ _
        have B_6 : Hid (Below w.heap.size w W6) := by rw [← hW6]; exact B_5.out.alloc B_5.out.size _
        have HLu : Hid (w.heap.size ≤ u) := by have := B_5.out.size; unfold Hid; omega
        have HW6 := Lib.hid hW6
        have HAu := Lib.hid hu
        clear hW6 hu
        clear Kp_5 Kq_5 B_5
        go_upto_region 20 with fail
        (try rw [HW6.out])
        (try rw [HAu.out])
        go_wp2_with fail
        refine (HAW.out W6).mono ?_
        rintro e v6 ⟨rfl, b6⟩
        have KU := Ku_6.out.below b6 Ku_6.out.lt
        have Kp_7 : Hid (Bk v6 p 23 #[.bool a, .bool true, .bool c, .bool d, .bool f]) := Kp_6.out.below b6 Kp_6.out.lt
        have Kq_7 : Hid (Bk v6 q 23 #[.bool false, .bool true, .bool x2, .bool x3, .bool x4]) := Kq_6.out.below b6 Kq_6.out.lt
        have B_7 : Hid (Below w.heap.size w v6) := B_6.out.trans (b6.mono B_6.out.size)
        clear Kp_6 Kq_6 B_6
        clear b6
        have cq0 : v6.cell? ⟨q, 0, none⟩ = some (.bool false) := Kq_7.out.cell 0
        have cq1 : v6.cell? ⟨q, 1, none⟩ = some (.bool true) := Kq_7.out.cell 1
        have cq2 : v6.cell? ⟨q, 2, none⟩ = some (.bool x2) := Kq_7.out.cell 2
        have cq3 : v6.cell? ⟨q, 3, none⟩ = some (.bool x3) := Kq_7.out.cell 3
        have cq4 : v6.cell? ⟨q, 4, none⟩ = some (.bool x4) := Kq_7.out.cell 4
        have y0 : v6.cell? ⟨u, 0, none⟩ = some (.string ⟨#[97, 64, 98]⟩) := KU.cell 0
        have y1 : v6.cell? ⟨u, 1, none⟩ = some (.string ⟨#[110]⟩) := KU.cell 1
        have y2 : v6.cell? ⟨u, 2, none⟩ = some (.slice iA 0 icap) := KU.cell 2
        have y3 : v6.cell? ⟨u, 3, none⟩ = some (.int .i64 2) := KU.cell 3
        have y4 : v6.cell? ⟨u, 4, none⟩ = some (.bool x2) := KU.cell 4
        have y5 : v6.cell? ⟨u, 5, none⟩ = some (.bool x4) := KU.cell 5
        have ht : ((⟨#[110]⟩ : ByteArray).toList == (⟨#[110]⟩ : ByteArray).toList) = true := by simp
        clear KU
        go_wp2_with fail
        go_ret
        exact ⟨rfl, B_7.out⟩
    · skip
      cases a with
      | false =>
        cases b with
        | false =>
          cases d with
          | false =>
            have hp : ∀ c f : Bool, rightM ⟨false, false, c, false, f⟩ = true → (stepM ⟨false, false, c, false, f⟩ 3).to = false ∧ (stepM ⟨false, false, c, false, f⟩ 3).fr = false := by decide
            obtain ⟨h0, h1⟩ := hp c f HR.out
            clear hp
            obtain ⟨⟨x0, x1, x2, x3, x4⟩, hA⟩ : ∃ A, stepM ⟨false, false, c, false, f⟩ 3 = A := ⟨_, rfl⟩
            rw [hA] at h0 h1
            simp only at h0 h1
            obtain rfl := h0.symm
            obtain rfl := h1.symm
            have HA := Lib.hid hA
            clear hA
            have cp0 : v0.cell? ⟨p, 0, none⟩ = some (.bool false) := Kp_1.out.cell 0
            have cp1 : v0.cell? ⟨p, 1, none⟩ = some (.bool false) := Kp_1.out.cell 1
            have cp2 : v0.cell? ⟨p, 2, none⟩ = some (.bool c) := Kp_1.out.cell 2
            have cp3 : v0.cell? ⟨p, 3, none⟩ = some (.bool false) := Kp_1.out.cell 3
            have cp4 : v0.cell? ⟨p, 4, none⟩ = some (.bool f) := Kp_1.out.cell 4
            obtain ⟨r1, hr1⟩ : ∃ r, (!decide ((⟨false, false, x2, x3, x4⟩ : Mod) = ⟨false, false, c, false, f⟩)) = r := ⟨_, rfl⟩
            have HS1 := Lib.hid (step_at ⟨false, false, c, false, f⟩ ⟨false, false, x2, x3, x4⟩ (3) r1 (HA.out) hr1 v0)
            clear hr1
            go_wp2_with fail
            refine HS1.out.mono ?_
            rintro e v1 ⟨rfl, b1⟩
            clear cp0 cp1 cp2 cp3 cp4
            have Kp_2 : Hid (Bk v1 p 23 #[.bool false, .bool false, .bool c, .bool false, .bool f]) := Kp_1.out.below b1 Kp_1.out.lt
            have B_2 : Hid (Below w.heap.size w v1) := B_1.out.trans (b1.mono B_1.out.size)
            clear Kp_1 B_1
            clear b1
            obtain ⟨W3, hW3⟩ : ∃ W, v1.alloc (.cells #[.bool false, .bool false, .bool x2, .bool x3, .bool x4] 23) = W := ⟨_, rfl⟩
            obtain ⟨q, hq⟩ : ∃ g, v1.heap.size = g := ⟨_, rfl⟩
            have Kp_3 : Hid (Bk W3 p 23 #[.bool false, .bool false, .bool c, .bool false, .bool f]) := by rw [← hW3]; exact Kp_2.out.alloc _
            have HNpq : Hid (p < q) := by have := Kp_2.out.lt; unfold Hid; omega
            have Kq_3 : Hid (Bk W3 q 23 #[.bool false, .bool false, .bool x2, .bool x3, .bool x4]) := by rw [← hW3, ← hq]; exact Bk.new _ _ _
            have B_3 : Hid (Below w.heap.size w W3) := by rw [← hW3]; exact B_2.out.alloc B_2.out.size _
            have HLq : Hid (w.heap.size ≤ q) := by have := B_2.out.size; unfold Hid; omega
            have HW3 := Lib.hid hW3
            have HAq := Lib.hid hq
            clear hW3 hq
            clear Kp_2 B_2
            go_upto_region 5 with fail
            (try rw [HW3.out])
            (try rw [HAq.out])
            have cp0 : W3.cell? ⟨p, 0, none⟩ = some (.bool false) := Kp_3.out.cell 0
            have cp1 : W3.cell? ⟨p, 1, none⟩ = some (.bool false) := Kp_3.out.cell 1
            have cp2 : W3.cell? ⟨p, 2, none⟩ = some (.bool c) := Kp_3.out.cell 2
            have cp3 : W3.cell? ⟨p, 3, none⟩ = some (.bool false) := Kp_3.out.cell 3
            have cp4 : W3.cell? ⟨p, 4, none⟩ = some (.bool f) := Kp_3.out.cell 4
            go_region
            clear cp0 cp1 cp2 cp3 cp4
            obtain ⟨W4, hW4⟩ : ∃ z, W3.drew = z := ⟨_, rfl⟩
            have Kp_4 : Hid (Bk W4 p 23 #[.bool false, .bool false, .bool c, .bool false, .bool f]) := by rw [← hW4]; exact Kp_3.out.drew
            have Kq_4 : Hid (Bk W4 q 23 #[.bool false, .bool false, .bool x2, .bool x3, .bool x4]) := by rw [← hW4]; exact Kq_3.out.drew
            have B_4 : Hid (Below w.heap.size w W4) := by rw [← hW4]; exact B_3.out.drew
            rw [hW4]
            clear hW4
            clear Kp_3 Kq_3 B_3
            have HIN : Hid (∀ W, Calls Try.prog 17 #[.agg #[.string ⟨#[97, 64, 98]⟩, .string ⟨#[110]⟩, .slice none 0 0, .int .i64 0, .bool false, .bool false], .agg #[.bool false, .bool false, .bool x2, .bool x3, .bool x4]] W fun e w' => ∃ iA cap, e = .returned (.agg #[.string ⟨#[97, 64, 98]⟩, .string ⟨#[110]⟩, .slice iA 0 cap, .int .i64 0, .bool x2, .bool x4]) ∧ Below W.heap.size W w') := fun W => by
              refine (into_any ⟨[97, 64, 98], [110], [], 0, false, false⟩ (.slice none 0 0) ⟨false, false, x2, x3, x4⟩ W (ReadT.nil _ _ _) (by decide)).mono ?_
              rintro e w' ⟨gv', he, ho, hb⟩
              obtain ⟨A, cap, hv⟩ := ho.slice
              subst hv
              exact ⟨A, cap, by rw [he]; rfl, hb⟩
            have cp0 : W4.cell? ⟨p, 0, none⟩ = some (.bool false) := Kp_4.out.cell 0
            have cp1 : W4.cell? ⟨p, 1, none⟩ = some (.bool false) := Kp_4.out.cell 1
            have cp2 : W4.cell? ⟨p, 2, none⟩ = some (.bool c) := Kp_4.out.cell 2
            have cp3 : W4.cell? ⟨p, 3, none⟩ = some (.bool false) := Kp_4.out.cell 3
            have cp4 : W4.cell? ⟨p, 4, none⟩ = some (.bool f) := Kp_4.out.cell 4
            have cq0 : W4.cell? ⟨q, 0, none⟩ = some (.bool false) := Kq_4.out.cell 0
            have cq1 : W4.cell? ⟨q, 1, none⟩ = some (.bool false) := Kq_4.out.cell 1
            have cq2 : W4.cell? ⟨q, 2, none⟩ = some (.bool x2) := Kq_4.out.cell 2
            have cq3 : W4.cell? ⟨q, 3, none⟩ = some (.bool x3) := Kq_4.out.cell 3
            have cq4 : W4.cell? ⟨q, 4, none⟩ = some (.bool x4) := Kq_4.out.cell 4
            go_wp2_with fail
            refine (HIN.out _).mono ?_
            rintro e v4 ⟨iA, icap, rfl, b4⟩
            clear cp0 cp1 cp2 cp3 cp4 cq0 cq1 cq2 cq3 cq4
            have Kp_5 : Hid (Bk v4 p 23 #[.bool false, .bool false, .bool c, .bool false, .bool f]) := Kp_4.out.below b4 Kp_4.out.lt
            have Kq_5 : Hid (Bk v4 q 23 #[.bool false, .bool false, .bool x2, .bool x3, .bool x4]) := Kq_4.out.below b4 Kq_4.out.lt
            have B_5 : Hid (Below w.heap.size w v4) := B_4.out.trans (b4.mono B_4.out.size)
            clear Kp_4 Kq_4 B_4
            clear b4
            obtain ⟨W6, hW6⟩ : ∃ W, v4.alloc (.cells #[.string ⟨#[97, 64, 98]⟩, .string ⟨#[110]⟩, .slice iA 0 icap, .int .i64 0, .bool x2, .bool x4] 26) = W := ⟨_, rfl⟩
            obtain ⟨u, hu⟩ : ∃ g, v4.heap.size = g := ⟨_, rfl⟩
            have Kp_6 : Hid (Bk W6 p 23 #[.bool false, .bool false, .bool c, .bool false, .bool f]) := by rw [← hW6]; exact Kp_5.out.alloc _
            have HNpu : Hid (p < u) := by have := Kp_5.out.lt; unfold Hid; omega
            have Kq_6 : Hid (Bk W6 q 23 #[.bool false, .bool false, .bool x2, .bool x3, .bool x4]) := by rw [← hW6]; exact Kq_5.out.alloc _
            have HNqu : Hid (q < u) := by have := Kq_5.out.lt; unfold Hid; omega
            have Ku_6 : Hid (Bk W6 u 26 #[.string ⟨#[97, 64, 98]⟩, .string ⟨#[110]⟩, .slice iA 0 icap, .int .i64 0, .bool x2, .bool x4]) := by rw [← hW6, ← hu]; exact Bk.new _ _ _
            have B_6 : Hid (Below w.heap.size w W6) := by rw [← hW6]; exact B_5.out.alloc B_5.out.size _
            have HLu : Hid (w.heap.size ≤ u) := by have := B_5.out.size; unfold Hid; omega
            have HW6 := Lib.hid hW6
            have HAu := Lib.hid hu
            clear hW6 hu
            clear Kp_5 Kq_5 B_5
            go_upto_region 20 with fail
            (try rw [HW6.out])
            (try rw [HAu.out])
            go_wp2_with fail
            refine (HAW.out W6).mono ?_
            rintro e v6 ⟨rfl, b6⟩
            have KU := Ku_6.out.below b6 Ku_6.out.lt
            have Kp_7 : Hid (Bk v6 p 23 #[.bool false, .bool false, .bool c, .bool false, .bool f]) := Kp_6.out.below b6 Kp_6.out.lt
            have Kq_7 : Hid (Bk v6 q 23 #[.bool false, .bool false, .bool x2, .bool x3, .bool x4]) := Kq_6.out.below b6 Kq_6.out.lt
            have B_7 : Hid (Below w.heap.size w v6) := B_6.out.trans (b6.mono B_6.out.size)
            clear Kp_6 Kq_6 B_6
            clear b6
            have cq0 : v6.cell? ⟨q, 0, none⟩ = some (.bool false) := Kq_7.out.cell 0
            have cq1 : v6.cell? ⟨q, 1, none⟩ = some (.bool false) := Kq_7.out.cell 1
            have cq2 : v6.cell? ⟨q, 2, none⟩ = some (.bool x2) := Kq_7.out.cell 2
            have cq3 : v6.cell? ⟨q, 3, none⟩ = some (.bool x3) := Kq_7.out.cell 3
            have cq4 : v6.cell? ⟨q, 4, none⟩ = some (.bool x4) := Kq_7.out.cell 4
            have y0 : v6.cell? ⟨u, 0, none⟩ = some (.string ⟨#[97, 64, 98]⟩) := KU.cell 0
            have y1 : v6.cell? ⟨u, 1, none⟩ = some (.string ⟨#[110]⟩) := KU.cell 1
            have y2 : v6.cell? ⟨u, 2, none⟩ = some (.slice iA 0 icap) := KU.cell 2
            have y3 : v6.cell? ⟨u, 3, none⟩ = some (.int .i64 0) := KU.cell 3
            have y4 : v6.cell? ⟨u, 4, none⟩ = some (.bool x2) := KU.cell 4
            have y5 : v6.cell? ⟨u, 5, none⟩ = some (.bool x4) := KU.cell 5
            have ht : ((⟨#[110]⟩ : ByteArray).toList == (⟨#[110]⟩ : ByteArray).toList) = true := by simp
            clear KU
            go_wp2_with fail
            go_ret
            exact ⟨rfl, B_7.out⟩
          | true =>
            have hp : ∀ c f : Bool, rightM ⟨false, false, c, true, f⟩ = true → (stepM ⟨false, false, c, true, f⟩ 3).to = false ∧ (stepM ⟨false, false, c, true, f⟩ 3).fr = true := by decide
            obtain ⟨h0, h1⟩ := hp c f HR.out
            clear hp
            obtain ⟨⟨x0, x1, x2, x3, x4⟩, hA⟩ : ∃ A, stepM ⟨false, false, c, true, f⟩ 3 = A := ⟨_, rfl⟩
            rw [hA] at h0 h1
            simp only at h0 h1
            obtain rfl := h0.symm
            obtain rfl := h1.symm
            have HA := Lib.hid hA
            clear hA
            have cp0 : v0.cell? ⟨p, 0, none⟩ = some (.bool false) := Kp_1.out.cell 0
            have cp1 : v0.cell? ⟨p, 1, none⟩ = some (.bool false) := Kp_1.out.cell 1
            have cp2 : v0.cell? ⟨p, 2, none⟩ = some (.bool c) := Kp_1.out.cell 2
            have cp3 : v0.cell? ⟨p, 3, none⟩ = some (.bool true) := Kp_1.out.cell 3
            have cp4 : v0.cell? ⟨p, 4, none⟩ = some (.bool f) := Kp_1.out.cell 4
            obtain ⟨r1, hr1⟩ : ∃ r, (!decide ((⟨false, true, x2, x3, x4⟩ : Mod) = ⟨false, false, c, true, f⟩)) = r := ⟨_, rfl⟩
            have HS1 := Lib.hid (step_at ⟨false, false, c, true, f⟩ ⟨false, true, x2, x3, x4⟩ (3) r1 (HA.out) hr1 v0)
            clear hr1
            go_wp2_with fail
            refine HS1.out.mono ?_
            rintro e v1 ⟨rfl, b1⟩
            clear cp0 cp1 cp2 cp3 cp4
            have Kp_2 : Hid (Bk v1 p 23 #[.bool false, .bool false, .bool c, .bool true, .bool f]) := Kp_1.out.below b1 Kp_1.out.lt
            have B_2 : Hid (Below w.heap.size w v1) := B_1.out.trans (b1.mono B_1.out.size)
            clear Kp_1 B_1
            clear b1
            obtain ⟨W3, hW3⟩ : ∃ W, v1.alloc (.cells #[.bool false, .bool true, .bool x2, .bool x3, .bool x4] 23) = W := ⟨_, rfl⟩
            obtain ⟨q, hq⟩ : ∃ g, v1.heap.size = g := ⟨_, rfl⟩
            have Kp_3 : Hid (Bk W3 p 23 #[.bool false, .bool false, .bool c, .bool true, .bool f]) := by rw [← hW3]; exact Kp_2.out.alloc _
            have HNpq : Hid (p < q) := by have := Kp_2.out.lt; unfold Hid; omega
            have Kq_3 : Hid (Bk W3 q 23 #[.bool false, .bool true, .bool x2, .bool x3, .bool x4]) := by rw [← hW3, ← hq]; exact Bk.new _ _ _
            have B_3 : Hid (Below w.heap.size w W3) := by rw [← hW3]; exact B_2.out.alloc B_2.out.size _
            have HLq : Hid (w.heap.size ≤ q) := by have := B_2.out.size; unfold Hid; omega
            have HW3 := Lib.hid hW3
            have HAq := Lib.hid hq
            clear hW3 hq
            clear Kp_2 B_2
            go_upto_region 5 with fail
            (try rw [HW3.out])
            (try rw [HAq.out])
            have cp0 : W3.cell? ⟨p, 0, none⟩ = some (.bool false) := Kp_3.out.cell 0
            have cp1 : W3.cell? ⟨p, 1, none⟩ = some (.bool false) := Kp_3.out.cell 1
            have cp2 : W3.cell? ⟨p, 2, none⟩ = some (.bool c) := Kp_3.out.cell 2
            have cp3 : W3.cell? ⟨p, 3, none⟩ = some (.bool true) := Kp_3.out.cell 3
            have cp4 : W3.cell? ⟨p, 4, none⟩ = some (.bool f) := Kp_3.out.cell 4
            go_region
            clear cp0 cp1 cp2 cp3 cp4
            obtain ⟨W4, hW4⟩ : ∃ z, W3.drew = z := ⟨_, rfl⟩
            have Kp_4 : Hid (Bk W4 p 23 #[.bool false, .bool false, .bool c, .bool true, .bool f]) := by rw [← hW4]; exact Kp_3.out.drew
            have Kq_4 : Hid (Bk W4 q 23 #[.bool false, .bool true, .bool x2, .bool x3, .bool x4]) := by rw [← hW4]; exact Kq_3.out.drew
            have B_4 : Hid (Below w.heap.size w W4) := by rw [← hW4]; exact B_3.out.drew
            rw [hW4]
            clear hW4
            clear Kp_3 Kq_3 B_3
            have HIN : Hid (∀ W, Calls Try.prog 17 #[.agg #[.string ⟨#[97, 64, 98]⟩, .string ⟨#[110]⟩, .slice none 0 0, .int .i64 0, .bool false, .bool false], .agg #[.bool false, .bool true, .bool x2, .bool x3, .bool x4]] W fun e w' => ∃ iA cap, e = .returned (.agg #[.string ⟨#[97, 64, 98]⟩, .string ⟨#[110]⟩, .slice iA 0 cap, .int .i64 2, .bool x2, .bool x4]) ∧ Below W.heap.size W w') := fun W => by
              refine (into_any ⟨[97, 64, 98], [110], [], 0, false, false⟩ (.slice none 0 0) ⟨false, true, x2, x3, x4⟩ W (ReadT.nil _ _ _) (by decide)).mono ?_
              rintro e w' ⟨gv', he, ho, hb⟩
              obtain ⟨A, cap, hv⟩ := ho.slice
              subst hv
              exact ⟨A, cap, by rw [he]; rfl, hb⟩
            have cp0 : W4.cell? ⟨p, 0, none⟩ = some (.bool false) := Kp_4.out.cell 0
            have cp1 : W4.cell? ⟨p, 1, none⟩ = some (.bool false) := Kp_4.out.cell 1
            have cp2 : W4.cell? ⟨p, 2, none⟩ = some (.bool c) := Kp_4.out.cell 2
            have cp3 : W4.cell? ⟨p, 3, none⟩ = some (.bool true) := Kp_4.out.cell 3
            have cp4 : W4.cell? ⟨p, 4, none⟩ = some (.bool f) := Kp_4.out.cell 4
            have cq0 : W4.cell? ⟨q, 0, none⟩ = some (.bool false) := Kq_4.out.cell 0
            have cq1 : W4.cell? ⟨q, 1, none⟩ = some (.bool true) := Kq_4.out.cell 1
            have cq2 : W4.cell? ⟨q, 2, none⟩ = some (.bool x2) := Kq_4.out.cell 2
            have cq3 : W4.cell? ⟨q, 3, none⟩ = some (.bool x3) := Kq_4.out.cell 3
            have cq4 : W4.cell? ⟨q, 4, none⟩ = some (.bool x4) := Kq_4.out.cell 4
            go_wp2_with fail
            refine (HIN.out _).mono ?_
            rintro e v4 ⟨iA, icap, rfl, b4⟩
            clear cp0 cp1 cp2 cp3 cp4 cq0 cq1 cq2 cq3 cq4
            have Kp_5 : Hid (Bk v4 p 23 #[.bool false, .bool false, .bool c, .bool true, .bool f]) := Kp_4.out.below b4 Kp_4.out.lt
            have Kq_5 : Hid (Bk v4 q 23 #[.bool false, .bool true, .bool x2, .bool x3, .bool x4]) := Kq_4.out.below b4 Kq_4.out.lt
            have B_5 : Hid (Below w.heap.size w v4) := B_4.out.trans (b4.mono B_4.out.size)
            clear Kp_4 Kq_4 B_4
            clear b4
            obtain ⟨W6, hW6⟩ : ∃ W, v4.alloc (.cells #[.string ⟨#[97, 64, 98]⟩, .string ⟨#[110]⟩, .slice iA 0 icap, .int .i64 2, .bool x2, .bool x4] 26) = W := ⟨_, rfl⟩
            obtain ⟨u, hu⟩ : ∃ g, v4.heap.size = g := ⟨_, rfl⟩
            have Kp_6 : Hid (Bk W6 p 23 #[.bool false, .bool false, .bool c, .bool true, .bool f]) := by rw [← hW6]; exact Kp_5.out.alloc _
            have HNpu : Hid (p < u) := by have := Kp_5.out.lt; unfold Hid; omega
            have Kq_6 : Hid (Bk W6 q 23 #[.bool false, .bool true, .bool x2, .bool x3, .bool x4]) := by rw [← hW6]; exact Kq_5.out.alloc _
            have HNqu : Hid (q < u) := by have := Kq_5.out.lt; unfold Hid; omega
            have Ku_6 : Hid (Bk W6 u 26 #[.string ⟨#[97, 64, 98]⟩, .string ⟨#[110]⟩, .slice iA 0 icap, .int .i64 2, .bool x2, .bool x4]) := by rw [← hW6, ← hu]; exact Bk.new _ _ _
            have B_6 : Hid (Below w.heap.size w W6) := by rw [← hW6]; exact B_5.out.alloc B_5.out.size _
            have HLu : Hid (w.heap.size ≤ u) := by have := B_5.out.size; unfold Hid; omega
            have HW6 := Lib.hid hW6
            have HAu := Lib.hid hu
            clear hW6 hu
            clear Kp_5 Kq_5 B_5
            go_upto_region 20 with fail
            (try rw [HW6.out])
            (try rw [HAu.out])
            go_wp2_with fail
            refine (HAW.out W6).mono ?_
            rintro e v6 ⟨rfl, b6⟩
            have KU := Ku_6.out.below b6 Ku_6.out.lt
            have Kp_7 : Hid (Bk v6 p 23 #[.bool false, .bool false, .bool c, .bool true, .bool f]) := Kp_6.out.below b6 Kp_6.out.lt
            have Kq_7 : Hid (Bk v6 q 23 #[.bool false, .bool true, .bool x2, .bool x3, .bool x4]) := Kq_6.out.below b6 Kq_6.out.lt
            have B_7 : Hid (Below w.heap.size w v6) := B_6.out.trans (b6.mono B_6.out.size)
            clear Kp_6 Kq_6 B_6
            clear b6
            have cq0 : v6.cell? ⟨q, 0, none⟩ = some (.bool false) := Kq_7.out.cell 0
            have cq1 : v6.cell? ⟨q, 1, none⟩ = some (.bool true) := Kq_7.out.cell 1
            have cq2 : v6.cell? ⟨q, 2, none⟩ = some (.bool x2) := Kq_7.out.cell 2
            have cq3 : v6.cell? ⟨q, 3, none⟩ = some (.bool x3) := Kq_7.out.cell 3
            have cq4 : v6.cell? ⟨q, 4, none⟩ = some (.bool x4) := Kq_7.out.cell 4
            have y0 : v6.cell? ⟨u, 0, none⟩ = some (.string ⟨#[97, 64, 98]⟩) := KU.cell 0
            have y1 : v6.cell? ⟨u, 1, none⟩ = some (.string ⟨#[110]⟩) := KU.cell 1
            have y2 : v6.cell? ⟨u, 2, none⟩ = some (.slice iA 0 icap) := KU.cell 2
            have y3 : v6.cell? ⟨u, 3, none⟩ = some (.int .i64 2) := KU.cell 3
            have y4 : v6.cell? ⟨u, 4, none⟩ = some (.bool x2) := KU.cell 4
            have y5 : v6.cell? ⟨u, 5, none⟩ = some (.bool x4) := KU.cell 5
            have ht : ((⟨#[110]⟩ : ByteArray).toList == (⟨#[110]⟩ : ByteArray).toList) = true := by simp
            clear KU
            go_wp2_with fail
            go_ret
            exact ⟨rfl, B_7.out⟩
        | true =>
          have hp : ∀ c d f : Bool, rightM ⟨false, true, c, d, f⟩ = true → (stepM ⟨false, true, c, d, f⟩ 3).to = false ∧ (stepM ⟨false, true, c, d, f⟩ 3).fr = true := by decide
          obtain ⟨h0, h1⟩ := hp c d f HR.out
          clear hp
          obtain ⟨⟨x0, x1, x2, x3, x4⟩, hA⟩ : ∃ A, stepM ⟨false, true, c, d, f⟩ 3 = A := ⟨_, rfl⟩
          rw [hA] at h0 h1
          simp only at h0 h1
          obtain rfl := h0.symm
          obtain rfl := h1.symm
          have HA := Lib.hid hA
          clear hA
          have cp0 : v0.cell? ⟨p, 0, none⟩ = some (.bool false) := Kp_1.out.cell 0
          have cp1 : v0.cell? ⟨p, 1, none⟩ = some (.bool true) := Kp_1.out.cell 1
          have cp2 : v0.cell? ⟨p, 2, none⟩ = some (.bool c) := Kp_1.out.cell 2
          have cp3 : v0.cell? ⟨p, 3, none⟩ = some (.bool d) := Kp_1.out.cell 3
          have cp4 : v0.cell? ⟨p, 4, none⟩ = some (.bool f) := Kp_1.out.cell 4
          obtain ⟨r1, hr1⟩ : ∃ r, (!decide ((⟨false, true, x2, x3, x4⟩ : Mod) = ⟨false, true, c, d, f⟩)) = r := ⟨_, rfl⟩
          have HS1 := Lib.hid (step_at ⟨false, true, c, d, f⟩ ⟨false, true, x2, x3, x4⟩ (3) r1 (HA.out) hr1 v0)
          clear hr1
          go_wp2_with fail
          refine HS1.out.mono ?_
          rintro e v1 ⟨rfl, b1⟩
          clear cp0 cp1 cp2 cp3 cp4
          have Kp_2 : Hid (Bk v1 p 23 #[.bool false, .bool true, .bool c, .bool d, .bool f]) := Kp_1.out.below b1 Kp_1.out.lt
          have B_2 : Hid (Below w.heap.size w v1) := B_1.out.trans (b1.mono B_1.out.size)
          clear Kp_1 B_1
          clear b1
          obtain ⟨W3, hW3⟩ : ∃ W, v1.alloc (.cells #[.bool false, .bool true, .bool x2, .bool x3, .bool x4] 23) = W := ⟨_, rfl⟩
          obtain ⟨q, hq⟩ : ∃ g, v1.heap.size = g := ⟨_, rfl⟩
          have Kp_3 : Hid (Bk W3 p 23 #[.bool false, .bool true, .bool c, .bool d, .bool f]) := by rw [← hW3]; exact Kp_2.out.alloc _
          have HNpq : Hid (p < q) := by have := Kp_2.out.lt; unfold Hid; omega
          have Kq_3 : Hid (Bk W3 q 23 #[.bool false, .bool true, .bool x2, .bool x3, .bool x4]) := by rw [← hW3, ← hq]; exact Bk.new _ _ _
          have B_3 : Hid (Below w.heap.size w W3) := by rw [← hW3]; exact B_2.out.alloc B_2.out.size _
          have HLq : Hid (w.heap.size ≤ q) := by have := B_2.out.size; unfold Hid; omega
          have HW3 := Lib.hid hW3
          have HAq := Lib.hid hq
          clear hW3 hq
          clear Kp_2 B_2
          go_upto_region 5 with fail
          (try rw [HW3.out])
          (try rw [HAq.out])
          have cp0 : W3.cell? ⟨p, 0, none⟩ = some (.bool false) := Kp_3.out.cell 0
          have cp1 : W3.cell? ⟨p, 1, none⟩ = some (.bool true) := Kp_3.out.cell 1
          have cp2 : W3.cell? ⟨p, 2, none⟩ = some (.bool c) := Kp_3.out.cell 2
          have cp3 : W3.cell? ⟨p, 3, none⟩ = some (.bool d) := Kp_3.out.cell 3
          have cp4 : W3.cell? ⟨p, 4, none⟩ = some (.bool f) := Kp_3.out.cell 4
          go_region
          clear cp0 cp1 cp2 cp3 cp4
          obtain ⟨W4, hW4⟩ : ∃ z, W3.drew = z := ⟨_, rfl⟩
          have Kp_4 : Hid (Bk W4 p 23 #[.bool false, .bool true, .bool c, .bool d, .bool f]) := by rw [← hW4]; exact Kp_3.out.drew
          have Kq_4 : Hid (Bk W4 q 23 #[.bool false, .bool true, .bool x2, .bool x3, .bool x4]) := by rw [← hW4]; exact Kq_3.out.drew
          have B_4 : Hid (Below w.heap.size w W4) := by rw [← hW4]; exact B_3.out.drew
          rw [hW4]
          clear hW4
          clear Kp_3 Kq_3 B_3
          have HIN : Hid (∀ W, Calls Try.prog 17 #[.agg #[.string ⟨#[97, 64, 98]⟩, .string ⟨#[110]⟩, .slice none 0 0, .int .i64 0, .bool false, .bool false], .agg #[.bool false, .bool true, .bool x2, .bool x3, .bool x4]] W fun e w' => ∃ iA cap, e = .returned (.agg #[.string ⟨#[97, 64, 98]⟩, .string ⟨#[110]⟩, .slice iA 0 cap, .int .i64 2, .bool x2, .bool x4]) ∧ Below W.heap.size W w') := fun W => by
            refine (into_any ⟨[97, 64, 98], [110], [], 0, false, false⟩ (.slice none 0 0) ⟨false, true, x2, x3, x4⟩ W (ReadT.nil _ _ _) (by decide)).mono ?_
            rintro e w' ⟨gv', he, ho, hb⟩
            obtain ⟨A, cap, hv⟩ := ho.slice
            subst hv
            exact ⟨A, cap, by rw [he]; rfl, hb⟩
          have cp0 : W4.cell? ⟨p, 0, none⟩ = some (.bool false) := Kp_4.out.cell 0
          have cp1 : W4.cell? ⟨p, 1, none⟩ = some (.bool true) := Kp_4.out.cell 1
          have cp2 : W4.cell? ⟨p, 2, none⟩ = some (.bool c) := Kp_4.out.cell 2
          have cp3 : W4.cell? ⟨p, 3, none⟩ = some (.bool d) := Kp_4.out.cell 3
          have cp4 : W4.cell? ⟨p, 4, none⟩ = some (.bool f) := Kp_4.out.cell 4
          have cq0 : W4.cell? ⟨q, 0, none⟩ = some (.bool false) := Kq_4.out.cell 0
          have cq1 : W4.cell? ⟨q, 1, none⟩ = some (.bool true) := Kq_4.out.cell 1
          have cq2 : W4.cell? ⟨q, 2, none⟩ = some (.bool x2) := Kq_4.out.cell 2
          have cq3 : W4.cell? ⟨q, 3, none⟩ = some (.bool x3) := Kq_4.out.cell 3
          have cq4 : W4.cell? ⟨q, 4, none⟩ = some (.bool x4) := Kq_4.out.cell 4
          go_wp2_with fail
          refine (HIN.out _).mono ?_
          rintro e v4 ⟨iA, icap, rfl, b4⟩
          clear cp0 cp1 cp2 cp3 cp4 cq0 cq1 cq2 cq3 cq4
          have Kp_5 : Hid (Bk v4 p 23 #[.bool false, .bool true, .bool c, .bool d, .bool f]) := Kp_4.out.below b4 Kp_4.out.lt
          have Kq_5 : Hid (Bk v4 q 23 #[.bool false, .bool true, .bool x2, .bool x3, .bool x4]) := Kq_4.out.below b4 Kq_4.out.lt
          have B_5 : Hid (Below w.heap.size w v4) := B_4.out.trans (b4.mono B_4.out.size)
          clear Kp_4 Kq_4 B_4
          clear b4
          obtain ⟨W6, hW6⟩ : ∃ W, v4.alloc (.cells #[.string ⟨#[97, 64, 98]⟩, .string ⟨#[110]⟩, .slice iA 0 icap, .int .i64 2, .bool x2, .bool x4] 26) = W := ⟨_, rfl⟩
          obtain ⟨u, hu⟩ : ∃ g, v4.heap.size = g := ⟨_, rfl⟩
          have Kp_6 : Hid (Bk W6 p 23 #[.bool false, .bool true, .bool c, .bool d, .bool f]) := by rw [← hW6]; exact Kp_5.out.alloc _
          have HNpu : Hid (p < u) := by have := Kp_5.out.lt; unfold Hid; omega
          have Kq_6 : Hid (Bk W6 q 23 #[.bool false, .bool true, .bool x2, .bool x3, .bool x4]) := by rw [← hW6]; exact Kq_5.out.alloc _
          have HNqu : Hid (q < u) := by have := Kq_5.out.lt; unfold Hid; omega
          have Ku_6 : Hid (Bk W6 u 26 #[.string ⟨#[97, 64, 98]⟩, .string ⟨#[110]⟩, .slice iA 0 icap, .int .i64 2, .bool x2, .bool x4]) := by rw [← hW6, ← hu]; exact Bk.new _ _ _
          have B_6 : Hid (Below w.heap.size w W6) := by rw [← hW6]; exact B_5.out.alloc B_5.out.size _
          have HLu : Hid (w.heap.size ≤ u) := by have := B_5.out.size; unfold Hid; omega
          have HW6 := Lib.hid hW6
          have HAu := Lib.hid hu
          clear hW6 hu
          clear Kp_5 Kq_5 B_5
          go_upto_region 20 with fail
          (try rw [HW6.out])
          (try rw [HAu.out])
          go_wp2_with fail
          refine (HAW.out W6).mono ?_
          rintro e v6 ⟨rfl, b6⟩
          have KU := Ku_6.out.below b6 Ku_6.out.lt
          have Kp_7 : Hid (Bk v6 p 23 #[.bool false, .bool true, .bool c, .bool d, .bool f]) := Kp_6.out.below b6 Kp_6.out.lt
          have Kq_7 : Hid (Bk v6 q 23 #[.bool false, .bool true, .bool x2, .bool x3, .bool x4]) := Kq_6.out.below b6 Kq_6.out.lt
          have B_7 : Hid (Below w.heap.size w v6) := B_6.out.trans (b6.mono B_6.out.size)
          clear Kp_6 Kq_6 B_6
          clear b6
          have cq0 : v6.cell? ⟨q, 0, none⟩ = some (.bool false) := Kq_7.out.cell 0
          have cq1 : v6.cell? ⟨q, 1, none⟩ = some (.bool true) := Kq_7.out.cell 1
          have cq2 : v6.cell? ⟨q, 2, none⟩ = some (.bool x2) := Kq_7.out.cell 2
          have cq3 : v6.cell? ⟨q, 3, none⟩ = some (.bool x3) := Kq_7.out.cell 3
          have cq4 : v6.cell? ⟨q, 4, none⟩ = some (.bool x4) := Kq_7.out.cell 4
          have y0 : v6.cell? ⟨u, 0, none⟩ = some (.string ⟨#[97, 64, 98]⟩) := KU.cell 0
          have y1 : v6.cell? ⟨u, 1, none⟩ = some (.string ⟨#[110]⟩) := KU.cell 1
          have y2 : v6.cell? ⟨u, 2, none⟩ = some (.slice iA 0 icap) := KU.cell 2
          have y3 : v6.cell? ⟨u, 3, none⟩ = some (.int .i64 2) := KU.cell 3
          have y4 : v6.cell? ⟨u, 4, none⟩ = some (.bool x2) := KU.cell 4
          have y5 : v6.cell? ⟨u, 5, none⟩ = some (.bool x4) := KU.cell 5
          have ht : ((⟨#[110]⟩ : ByteArray).toList == (⟨#[110]⟩ : ByteArray).toList) = true := by simp
          clear KU
          go_wp2_with fail
          go_ret
          exact ⟨rfl, B_7.out⟩
      | true =>
        cases b with
        | false =>
          cases d with
          | false =>
            have hp : ∀ c f : Bool, rightM ⟨true, false, c, false, f⟩ = true → (stepM ⟨true, false, c, false, f⟩ 3).to = true ∧ (stepM ⟨true, false, c, false, f⟩ 3).fr = false := by decide
            obtain ⟨h0, h1⟩ := hp c f HR.out
            clear hp
            obtain ⟨⟨x0, x1, x2, x3, x4⟩, hA⟩ : ∃ A, stepM ⟨true, false, c, false, f⟩ 3 = A := ⟨_, rfl⟩
            rw [hA] at h0 h1
            simp only at h0 h1
            obtain rfl := h0.symm
            obtain rfl := h1.symm
            have HA := Lib.hid hA
            clear hA
            have cp0 : v0.cell? ⟨p, 0, none⟩ = some (.bool true) := Kp_1.out.cell 0
            have cp1 : v0.cell? ⟨p, 1, none⟩ = some (.bool false) := Kp_1.out.cell 1
            have cp2 : v0.cell? ⟨p, 2, none⟩ = some (.bool c) := Kp_1.out.cell 2
            have cp3 : v0.cell? ⟨p, 3, none⟩ = some (.bool false) := Kp_1.out.cell 3
            have cp4 : v0.cell? ⟨p, 4, none⟩ = some (.bool f) := Kp_1.out.cell 4
            obtain ⟨r1, hr1⟩ : ∃ r, (!decide ((⟨true, false, x2, x3, x4⟩ : Mod) = ⟨true, false, c, false, f⟩)) = r := ⟨_, rfl⟩
            have HS1 := Lib.hid (step_at ⟨true, false, c, false, f⟩ ⟨true, false, x2, x3, x4⟩ (3) r1 (HA.out) hr1 v0)
            clear hr1
            go_wp2_with fail
            refine HS1.out.mono ?_
            rintro e v1 ⟨rfl, b1⟩
            clear cp0 cp1 cp2 cp3 cp4
            have Kp_2 : Hid (Bk v1 p 23 #[.bool true, .bool false, .bool c, .bool false, .bool f]) := Kp_1.out.below b1 Kp_1.out.lt
            have B_2 : Hid (Below w.heap.size w v1) := B_1.out.trans (b1.mono B_1.out.size)
            clear Kp_1 B_1
            clear b1
            obtain ⟨W3, hW3⟩ : ∃ W, v1.alloc (.cells #[.bool true, .bool false, .bool x2, .bool x3, .bool x4] 23) = W := ⟨_, rfl⟩
            obtain ⟨q, hq⟩ : ∃ g, v1.heap.size = g := ⟨_, rfl⟩
            have Kp_3 : Hid (Bk W3 p 23 #[.bool true, .bool false, .bool c, .bool false, .bool f]) := by rw [← hW3]; exact Kp_2.out.alloc _
            have HNpq : Hid (p < q) := by have := Kp_2.out.lt; unfold Hid; omega
            have Kq_3 : Hid (Bk W3 q 23 #[.bool true, .bool false, .bool x2, .bool x3, .bool x4]) := by rw [← hW3, ← hq]; exact Bk.new _ _ _
            have B_3 : Hid (Below w.heap.size w W3) := by rw [← hW3]; exact B_2.out.alloc B_2.out.size _
            have HLq : Hid (w.heap.size ≤ q) := by have := B_2.out.size; unfold Hid; omega
            have HW3 := Lib.hid hW3
            have HAq := Lib.hid hq
            clear hW3 hq
            clear Kp_2 B_2
            go_upto_region 5 with fail
            (try rw [HW3.out])
            (try rw [HAq.out])
            have cp0 : W3.cell? ⟨p, 0, none⟩ = some (.bool true) := Kp_3.out.cell 0
            have cp1 : W3.cell? ⟨p, 1, none⟩ = some (.bool false) := Kp_3.out.cell 1
            have cp2 : W3.cell? ⟨p, 2, none⟩ = some (.bool c) := Kp_3.out.cell 2
            have cp3 : W3.cell? ⟨p, 3, none⟩ = some (.bool false) := Kp_3.out.cell 3
            have cp4 : W3.cell? ⟨p, 4, none⟩ = some (.bool f) := Kp_3.out.cell 4
            go_region
            clear cp0 cp1 cp2 cp3 cp4
            obtain ⟨W4, hW4⟩ : ∃ z, W3.drew = z := ⟨_, rfl⟩
            have Kp_4 : Hid (Bk W4 p 23 #[.bool true, .bool false, .bool c, .bool false, .bool f]) := by rw [← hW4]; exact Kp_3.out.drew
            have Kq_4 : Hid (Bk W4 q 23 #[.bool true, .bool false, .bool x2, .bool x3, .bool x4]) := by rw [← hW4]; exact Kq_3.out.drew
            have B_4 : Hid (Below w.heap.size w W4) := by rw [← hW4]; exact B_3.out.drew
            rw [hW4]
            clear hW4
            clear Kp_3 Kq_3 B_3
            have HIN : Hid (∀ W, Calls Try.prog 17 #[.agg #[.string ⟨#[97, 64, 98]⟩, .string ⟨#[110]⟩, .slice none 0 0, .int .i64 0, .bool false, .bool false], .agg #[.bool true, .bool false, .bool x2, .bool x3, .bool x4]] W fun e w' => ∃ iA cap, e = .returned (.agg #[.string ⟨#[97, 64, 98]⟩, .string ⟨#[110]⟩, .slice iA 0 cap, .int .i64 1, .bool x2, .bool x4]) ∧ Below W.heap.size W w') := fun W => by
              refine (into_any ⟨[97, 64, 98], [110], [], 0, false, false⟩ (.slice none 0 0) ⟨true, false, x2, x3, x4⟩ W (ReadT.nil _ _ _) (by decide)).mono ?_
              rintro e w' ⟨gv', he, ho, hb⟩
              obtain ⟨A, cap, hv⟩ := ho.slice
              subst hv
              exact ⟨A, cap, by rw [he]; rfl, hb⟩
            have cp0 : W4.cell? ⟨p, 0, none⟩ = some (.bool true) := Kp_4.out.cell 0
            have cp1 : W4.cell? ⟨p, 1, none⟩ = some (.bool false) := Kp_4.out.cell 1
            have cp2 : W4.cell? ⟨p, 2, none⟩ = some (.bool c) := Kp_4.out.cell 2
            have cp3 : W4.cell? ⟨p, 3, none⟩ = some (.bool false) := Kp_4.out.cell 3
            have cp4 : W4.cell? ⟨p, 4, none⟩ = some (.bool f) := Kp_4.out.cell 4
            have cq0 : W4.cell? ⟨q, 0, none⟩ = some (.bool true) := Kq_4.out.cell 0
            have cq1 : W4.cell? ⟨q, 1, none⟩ = some (.bool false) := Kq_4.out.cell 1
            have cq2 : W4.cell? ⟨q, 2, none⟩ = some (.bool x2) := Kq_4.out.cell 2
            have cq3 : W4.cell? ⟨q, 3, none⟩ = some (.bool x3) := Kq_4.out.cell 3
            have cq4 : W4.cell? ⟨q, 4, none⟩ = some (.bool x4) := Kq_4.out.cell 4
            go_wp2_with fail
            refine (HIN.out _).mono ?_
            rintro e v4 ⟨iA, icap, rfl, b4⟩
            clear cp0 cp1 cp2 cp3 cp4 cq0 cq1 cq2 cq3 cq4
            have Kp_5 : Hid (Bk v4 p 23 #[.bool true, .bool false, .bool c, .bool false, .bool f]) := Kp_4.out.below b4 Kp_4.out.lt
            have Kq_5 : Hid (Bk v4 q 23 #[.bool true, .bool false, .bool x2, .bool x3, .bool x4]) := Kq_4.out.below b4 Kq_4.out.lt
            have B_5 : Hid (Below w.heap.size w v4) := B_4.out.trans (b4.mono B_4.out.size)
            clear Kp_4 Kq_4 B_4
            clear b4
            obtain ⟨W6, hW6⟩ : ∃ W, v4.alloc (.cells #[.string ⟨#[97, 64, 98]⟩, .string ⟨#[110]⟩, .slice iA 0 icap, .int .i64 1, .bool x2, .bool x4] 26) = W := ⟨_, rfl⟩
            obtain ⟨u, hu⟩ : ∃ g, v4.heap.size = g := ⟨_, rfl⟩
            have Kp_6 : Hid (Bk W6 p 23 #[.bool true, .bool false, .bool c, .bool false, .bool f]) := by rw [← hW6]; exact Kp_5.out.alloc _
            have HNpu : Hid (p < u) := by have := Kp_5.out.lt; unfold Hid; omega
            have Kq_6 : Hid (Bk W6 q 23 #[.bool true, .bool false, .bool x2, .bool x3, .bool x4]) := by rw [← hW6]; exact Kq_5.out.alloc _
            have HNqu : Hid (q < u) := by have := Kq_5.out.lt; unfold Hid; omega
            have Ku_6 : Hid (Bk W6 u 26 #[.string ⟨#[97, 64, 98]⟩, .string ⟨#[110]⟩, .slice iA 0 icap, .int .i64 1, .bool x2, .bool x4]) := by rw [← hW6, ← hu]; exact Bk.new _ _ _
            have B_6 : Hid (Below w.heap.size w W6) := by rw [← hW6]; exact B_5.out.alloc B_5.out.size _
            have HLu : Hid (w.heap.size ≤ u) := by have := B_5.out.size; unfold Hid; omega
            have HW6 := Lib.hid hW6
            have HAu := Lib.hid hu
            clear hW6 hu
            clear Kp_5 Kq_5 B_5
            go_upto_region 20 with fail
            (try rw [HW6.out])
            (try rw [HAu.out])
            go_wp2_with fail
            refine (HAW.out W6).mono ?_
            rintro e v6 ⟨rfl, b6⟩
            have KU := Ku_6.out.below b6 Ku_6.out.lt
            have Kp_7 : Hid (Bk v6 p 23 #[.bool true, .bool false, .bool c, .bool false, .bool f]) := Kp_6.out.below b6 Kp_6.out.lt
            have Kq_7 : Hid (Bk v6 q 23 #[.bool true, .bool false, .bool x2, .bool x3, .bool x4]) := Kq_6.out.below b6 Kq_6.out.lt
            have B_7 : Hid (Below w.heap.size w v6) := B_6.out.trans (b6.mono B_6.out.size)
            clear Kp_6 Kq_6 B_6
            clear b6
            have cq0 : v6.cell? ⟨q, 0, none⟩ = some (.bool true) := Kq_7.out.cell 0
            have cq1 : v6.cell? ⟨q, 1, none⟩ = some (.bool false) := Kq_7.out.cell 1
            have cq2 : v6.cell? ⟨q, 2, none⟩ = some (.bool x2) := Kq_7.out.cell 2
            have cq3 : v6.cell? ⟨q, 3, none⟩ = some (.bool x3) := Kq_7.out.cell 3
            have cq4 : v6.cell? ⟨q, 4, none⟩ = some (.bool x4) := Kq_7.out.cell 4
            have y0 : v6.cell? ⟨u, 0, none⟩ = some (.string ⟨#[97, 64, 98]⟩) := KU.cell 0
            have y1 : v6.cell? ⟨u, 1, none⟩ = some (.string ⟨#[110]⟩) := KU.cell 1
            have y2 : v6.cell? ⟨u, 2, none⟩ = some (.slice iA 0 icap) := KU.cell 2
            have y3 : v6.cell? ⟨u, 3, none⟩ = some (.int .i64 1) := KU.cell 3
            have y4 : v6.cell? ⟨u, 4, none⟩ = some (.bool x2) := KU.cell 4
            have y5 : v6.cell? ⟨u, 5, none⟩ = some (.bool x4) := KU.cell 5
            have ht : ((⟨#[110]⟩ : ByteArray).toList == (⟨#[110]⟩ : ByteArray).toList) = true := by simp
            clear KU
            go_wp2_with fail
            go_ret
            exact ⟨rfl, B_7.out⟩
          | true =>
            have hp : ∀ c f : Bool, rightM ⟨true, false, c, true, f⟩ = true → (stepM ⟨true, false, c, true, f⟩ 3).to = true ∧ (stepM ⟨true, false, c, true, f⟩ 3).fr = true := by decide
            obtain ⟨h0, h1⟩ := hp c f HR.out
            clear hp
            obtain ⟨⟨x0, x1, x2, x3, x4⟩, hA⟩ : ∃ A, stepM ⟨true, false, c, true, f⟩ 3 = A := ⟨_, rfl⟩
            rw [hA] at h0 h1
            simp only at h0 h1
            obtain rfl := h0.symm
            obtain rfl := h1.symm
            have HA := Lib.hid hA
            clear hA
            have cp0 : v0.cell? ⟨p, 0, none⟩ = some (.bool true) := Kp_1.out.cell 0
            have cp1 : v0.cell? ⟨p, 1, none⟩ = some (.bool false) := Kp_1.out.cell 1
            have cp2 : v0.cell? ⟨p, 2, none⟩ = some (.bool c) := Kp_1.out.cell 2
            have cp3 : v0.cell? ⟨p, 3, none⟩ = some (.bool true) := Kp_1.out.cell 3
            have cp4 : v0.cell? ⟨p, 4, none⟩ = some (.bool f) := Kp_1.out.cell 4
            obtain ⟨r1, hr1⟩ : ∃ r, (!decide ((⟨true, true, x2, x3, x4⟩ : Mod) = ⟨true, false, c, true, f⟩)) = r := ⟨_, rfl⟩
            have HS1 := Lib.hid (step_at ⟨true, false, c, true, f⟩ ⟨true, true, x2, x3, x4⟩ (3) r1 (HA.out) hr1 v0)
            clear hr1
            go_wp2_with fail
            refine HS1.out.mono ?_
            rintro e v1 ⟨rfl, b1⟩
            clear cp0 cp1 cp2 cp3 cp4
            have Kp_2 : Hid (Bk v1 p 23 #[.bool true, .bool false, .bool c, .bool true, .bool f]) := Kp_1.out.below b1 Kp_1.out.lt
            have B_2 : Hid (Below w.heap.size w v1) := B_1.out.trans (b1.mono B_1.out.size)
            clear Kp_1 B_1
            clear b1
            obtain ⟨W3, hW3⟩ : ∃ W, v1.alloc (.cells #[.bool true, .bool true, .bool x2, .bool x3, .bool x4] 23) = W := ⟨_, rfl⟩
            obtain ⟨q, hq⟩ : ∃ g, v1.heap.size = g := ⟨_, rfl⟩
            have Kp_3 : Hid (Bk W3 p 23 #[.bool true, .bool false, .bool c, .bool true, .bool f]) := by rw [← hW3]; exact Kp_2.out.alloc _
            have HNpq : Hid (p < q) := by have := Kp_2.out.lt; unfold Hid; omega
            have Kq_3 : Hid (Bk W3 q 23 #[.bool true, .bool true, .bool x2, .bool x3, .bool x4]) := by rw [← hW3, ← hq]; exact Bk.new _ _ _
            have B_3 : Hid (Below w.heap.size w W3) := by rw [← hW3]; exact B_2.out.alloc B_2.out.size _
            have HLq : Hid (w.heap.size ≤ q) := by have := B_2.out.size; unfold Hid; omega
            have HW3 := Lib.hid hW3
            have HAq := Lib.hid hq
            clear hW3 hq
            clear Kp_2 B_2
            go_upto_region 5 with fail
            (try rw [HW3.out])
            (try rw [HAq.out])
            have cp0 : W3.cell? ⟨p, 0, none⟩ = some (.bool true) := Kp_3.out.cell 0
            have cp1 : W3.cell? ⟨p, 1, none⟩ = some (.bool false) := Kp_3.out.cell 1
            have cp2 : W3.cell? ⟨p, 2, none⟩ = some (.bool c) := Kp_3.out.cell 2
            have cp3 : W3.cell? ⟨p, 3, none⟩ = some (.bool true) := Kp_3.out.cell 3
            have cp4 : W3.cell? ⟨p, 4, none⟩ = some (.bool f) := Kp_3.out.cell 4
            go_region
            clear cp0 cp1 cp2 cp3 cp4
            obtain ⟨W4, hW4⟩ : ∃ z, W3.drew = z := ⟨_, rfl⟩
            have Kp_4 : Hid (Bk W4 p 23 #[.bool true, .bool false, .bool c, .bool true, .bool f]) := by rw [← hW4]; exact Kp_3.out.drew
            have Kq_4 : Hid (Bk W4 q 23 #[.bool true, .bool true, .bool x2, .bool x3, .bool x4]) := by rw [← hW4]; exact Kq_3.out.drew
            have B_4 : Hid (Below w.heap.size w W4) := by rw [← hW4]; exact B_3.out.drew
            rw [hW4]
            clear hW4
            clear Kp_3 Kq_3 B_3
            have HIN : Hid (∀ W, Calls Try.prog 17 #[.agg #[.string ⟨#[97, 64, 98]⟩, .string ⟨#[110]⟩, .slice none 0 0, .int .i64 0, .bool false, .bool false], .agg #[.bool true, .bool true, .bool x2, .bool x3, .bool x4]] W fun e w' => ∃ iA cap, e = .returned (.agg #[.string ⟨#[97, 64, 98]⟩, .string ⟨#[110]⟩, .slice iA 0 cap, .int .i64 3, .bool x2, .bool x4]) ∧ Below W.heap.size W w') := fun W => by
              refine (into_any ⟨[97, 64, 98], [110], [], 0, false, false⟩ (.slice none 0 0) ⟨true, true, x2, x3, x4⟩ W (ReadT.nil _ _ _) (by decide)).mono ?_
              rintro e w' ⟨gv', he, ho, hb⟩
              obtain ⟨A, cap, hv⟩ := ho.slice
              subst hv
              exact ⟨A, cap, by rw [he]; rfl, hb⟩
            have cp0 : W4.cell? ⟨p, 0, none⟩ = some (.bool true) := Kp_4.out.cell 0
            have cp1 : W4.cell? ⟨p, 1, none⟩ = some (.bool false) := Kp_4.out.cell 1
            have cp2 : W4.cell? ⟨p, 2, none⟩ = some (.bool c) := Kp_4.out.cell 2
            have cp3 : W4.cell? ⟨p, 3, none⟩ = some (.bool true) := Kp_4.out.cell 3
            have cp4 : W4.cell? ⟨p, 4, none⟩ = some (.bool f) := Kp_4.out.cell 4
            have cq0 : W4.cell? ⟨q, 0, none⟩ = some (.bool true) := Kq_4.out.cell 0
            have cq1 : W4.cell? ⟨q, 1, none⟩ = some (.bool true) := Kq_4.out.cell 1
            have cq2 : W4.cell? ⟨q, 2, none⟩ = some (.bool x2) := Kq_4.out.cell 2
            have cq3 : W4.cell? ⟨q, 3, none⟩ = some (.bool x3) := Kq_4.out.cell 3
            have cq4 : W4.cell? ⟨q, 4, none⟩ = some (.bool x4) := Kq_4.out.cell 4
            go_wp2_with fail
            refine (HIN.out _).mono ?_
            rintro e v4 ⟨iA, icap, rfl, b4⟩
            clear cp0 cp1 cp2 cp3 cp4 cq0 cq1 cq2 cq3 cq4
            have Kp_5 : Hid (Bk v4 p 23 #[.bool true, .bool false, .bool c, .bool true, .bool f]) := Kp_4.out.below b4 Kp_4.out.lt
            have Kq_5 : Hid (Bk v4 q 23 #[.bool true, .bool true, .bool x2, .bool x3, .bool x4]) := Kq_4.out.below b4 Kq_4.out.lt
            have B_5 : Hid (Below w.heap.size w v4) := B_4.out.trans (b4.mono B_4.out.size)
            clear Kp_4 Kq_4 B_4
            clear b4
            obtain ⟨W6, hW6⟩ : ∃ W, v4.alloc (.cells #[.string ⟨#[97, 64, 98]⟩, .string ⟨#[110]⟩, .slice iA 0 icap, .int .i64 3, .bool x2, .bool x4] 26) = W := ⟨_, rfl⟩
            obtain ⟨u, hu⟩ : ∃ g, v4.heap.size = g := ⟨_, rfl⟩
            have Kp_6 : Hid (Bk W6 p 23 #[.bool true, .bool false, .bool c, .bool true, .bool f]) := by rw [← hW6]; exact Kp_5.out.alloc _
            have HNpu : Hid (p < u) := by have := Kp_5.out.lt; unfold Hid; omega
            have Kq_6 : Hid (Bk W6 q 23 #[.bool true, .bool true, .bool x2, .bool x3, .bool x4]) := by rw [← hW6]; exact Kq_5.out.alloc _
            have HNqu : Hid (q < u) := by have := Kq_5.out.lt; unfold Hid; omega
            have Ku_6 : Hid (Bk W6 u 26 #[.string ⟨#[97, 64, 98]⟩, .string ⟨#[110]⟩, .slice iA 0 icap, .int .i64 3, .bool x2, .bool x4]) := by rw [← hW6, ← hu]; exact Bk.new _ _ _
            have B_6 : Hid (Below w.heap.size w W6) := by rw [← hW6]; exact B_5.out.alloc B_5.out.size _
            have HLu : Hid (w.heap.size ≤ u) := by have := B_5.out.size; unfold Hid; omega
            have HW6 := Lib.hid hW6
            have HAu := Lib.hid hu
            clear hW6 hu
            clear Kp_5 Kq_5 B_5
            go_upto_region 20 with fail
            (try rw [HW6.out])
            (try rw [HAu.out])
            go_wp2_with fail
            refine (HAW.out W6).mono ?_
            rintro e v6 ⟨rfl, b6⟩
            have KU := Ku_6.out.below b6 Ku_6.out.lt
            have Kp_7 : Hid (Bk v6 p 23 #[.bool true, .bool false, .bool c, .bool true, .bool f]) := Kp_6.out.below b6 Kp_6.out.lt
            have Kq_7 : Hid (Bk v6 q 23 #[.bool true, .bool true, .bool x2, .bool x3, .bool x4]) := Kq_6.out.below b6 Kq_6.out.lt
            have B_7 : Hid (Below w.heap.size w v6) := B_6.out.trans (b6.mono B_6.out.size)
            clear Kp_6 Kq_6 B_6
            clear b6
            have cq0 : v6.cell? ⟨q, 0, none⟩ = some (.bool true) := Kq_7.out.cell 0
            have cq1 : v6.cell? ⟨q, 1, none⟩ = some (.bool true) := Kq_7.out.cell 1
            have cq2 : v6.cell? ⟨q, 2, none⟩ = some (.bool x2) := Kq_7.out.cell 2
            have cq3 : v6.cell? ⟨q, 3, none⟩ = some (.bool x3) := Kq_7.out.cell 3
            have cq4 : v6.cell? ⟨q, 4, none⟩ = some (.bool x4) := Kq_7.out.cell 4
            have y0 : v6.cell? ⟨u, 0, none⟩ = some (.string ⟨#[97, 64, 98]⟩) := KU.cell 0
            have y1 : v6.cell? ⟨u, 1, none⟩ = some (.string ⟨#[110]⟩) := KU.cell 1
            have y2 : v6.cell? ⟨u, 2, none⟩ = some (.slice iA 0 icap) := KU.cell 2
            have y3 : v6.cell? ⟨u, 3, none⟩ = some (.int .i64 3) := KU.cell 3
            have y4 : v6.cell? ⟨u, 4, none⟩ = some (.bool x2) := KU.cell 4
            have y5 : v6.cell? ⟨u, 5, none⟩ = some (.bool x4) := KU.cell 5
            have ht : ((⟨#[110]⟩ : ByteArray).toList == (⟨#[110]⟩ : ByteArray).toList) = true := by simp
            clear KU
            go_wp2_with fail
            go_ret
            exact ⟨rfl, B_7.out⟩
        | true =>
          have hp : ∀ c d f : Bool, rightM ⟨true, true, c, d, f⟩ = true → (stepM ⟨true, true, c, d, f⟩ 3).to = true ∧ (stepM ⟨true, true, c, d, f⟩ 3).fr = true := by decide
          obtain ⟨h0, h1⟩ := hp c d f HR.out
          clear hp
          obtain ⟨⟨x0, x1, x2, x3, x4⟩, hA⟩ : ∃ A, stepM ⟨true, true, c, d, f⟩ 3 = A := ⟨_, rfl⟩
          rw [hA] at h0 h1
          simp only at h0 h1
          obtain rfl := h0.symm
          obtain rfl := h1.symm
          have HA := Lib.hid hA
          clear hA
          have cp0 : v0.cell? ⟨p, 0, none⟩ = some (.bool true) := Kp_1.out.cell 0
          have cp1 : v0.cell? ⟨p, 1, none⟩ = some (.bool true) := Kp_1.out.cell 1
          have cp2 : v0.cell? ⟨p, 2, none⟩ = some (.bool c) := Kp_1.out.cell 2
          have cp3 : v0.cell? ⟨p, 3, none⟩ = some (.bool d) := Kp_1.out.cell 3
          have cp4 : v0.cell? ⟨p, 4, none⟩ = some (.bool f) := Kp_1.out.cell 4
          obtain ⟨r1, hr1⟩ : ∃ r, (!decide ((⟨true, true, x2, x3, x4⟩ : Mod) = ⟨true, true, c, d, f⟩)) = r := ⟨_, rfl⟩
          have HS1 := Lib.hid (step_at ⟨true, true, c, d, f⟩ ⟨true, true, x2, x3, x4⟩ (3) r1 (HA.out) hr1 v0)
          clear hr1
          go_wp2_with fail
          refine HS1.out.mono ?_
          rintro e v1 ⟨rfl, b1⟩
          clear cp0 cp1 cp2 cp3 cp4
          have Kp_2 : Hid (Bk v1 p 23 #[.bool true, .bool true, .bool c, .bool d, .bool f]) := Kp_1.out.below b1 Kp_1.out.lt
          have B_2 : Hid (Below w.heap.size w v1) := B_1.out.trans (b1.mono B_1.out.size)
          clear Kp_1 B_1
          clear b1
          obtain ⟨W3, hW3⟩ : ∃ W, v1.alloc (.cells #[.bool true, .bool true, .bool x2, .bool x3, .bool x4] 23) = W := ⟨_, rfl⟩
          obtain ⟨q, hq⟩ : ∃ g, v1.heap.size = g := ⟨_, rfl⟩
          have Kp_3 : Hid (Bk W3 p 23 #[.bool true, .bool true, .bool c, .bool d, .bool f]) := by rw [← hW3]; exact Kp_2.out.alloc _
          have HNpq : Hid (p < q) := by have := Kp_2.out.lt; unfold Hid; omega
          have Kq_3 : Hid (Bk W3 q 23 #[.bool true, .bool true, .bool x2, .bool x3, .bool x4]) := by rw [← hW3, ← hq]; exact Bk.new _ _ _
          have B_3 : Hid (Below w.heap.size w W3) := by rw [← hW3]; exact B_2.out.alloc B_2.out.size _
          have HLq : Hid (w.heap.size ≤ q) := by have := B_2.out.size; unfold Hid; omega
          have HW3 := Lib.hid hW3
          have HAq := Lib.hid hq
          clear hW3 hq
          clear Kp_2 B_2
          go_upto_region 5 with fail
          (try rw [HW3.out])
          (try rw [HAq.out])
          have cp0 : W3.cell? ⟨p, 0, none⟩ = some (.bool true) := Kp_3.out.cell 0
          have cp1 : W3.cell? ⟨p, 1, none⟩ = some (.bool true) := Kp_3.out.cell 1
          have cp2 : W3.cell? ⟨p, 2, none⟩ = some (.bool c) := Kp_3.out.cell 2
          have cp3 : W3.cell? ⟨p, 3, none⟩ = some (.bool d) := Kp_3.out.cell 3
          have cp4 : W3.cell? ⟨p, 4, none⟩ = some (.bool f) := Kp_3.out.cell 4
          go_region
          clear cp0 cp1 cp2 cp3 cp4
          obtain ⟨W4, hW4⟩ : ∃ z, W3.drew = z := ⟨_, rfl⟩
          have Kp_4 : Hid (Bk W4 p 23 #[.bool true, .bool true, .bool c, .bool d, .bool f]) := by rw [← hW4]; exact Kp_3.out.drew
          have Kq_4 : Hid (Bk W4 q 23 #[.bool true, .bool true, .bool x2, .bool x3, .bool x4]) := by rw [← hW4]; exact Kq_3.out.drew
          have B_4 : Hid (Below w.heap.size w W4) := by rw [← hW4]; exact B_3.out.drew
          rw [hW4]
          clear hW4
          clear Kp_3 Kq_3 B_3
          have HIN : Hid (∀ W, Calls Try.prog 17 #[.agg #[.string ⟨#[97, 64, 98]⟩, .string ⟨#[110]⟩, .slice none 0 0, .int .i64 0, .bool false, .bool false], .agg #[.bool true, .bool true, .bool x2, .bool x3, .bool x4]] W fun e w' => ∃ iA cap, e = .returned (.agg #[.string ⟨#[97, 64, 98]⟩, .string ⟨#[110]⟩, .slice iA 0 cap, .int .i64 3, .bool x2, .bool x4]) ∧ Below W.heap.size W w') := fun W => by
            refine (into_any ⟨[97, 64, 98], [110], [], 0, false, false⟩ (.slice none 0 0) ⟨true, true, x2, x3, x4⟩ W (ReadT.nil _ _ _) (by decide)).mono ?_
            rintro e w' ⟨gv', he, ho, hb⟩
            obtain ⟨A, cap, hv⟩ := ho.slice
            subst hv
            exact ⟨A, cap, by rw [he]; rfl, hb⟩
          have cp0 : W4.cell? ⟨p, 0, none⟩ = some (.bool true) := Kp_4.out.cell 0
          have cp1 : W4.cell? ⟨p, 1, none⟩ = some (.bool true) := Kp_4.out.cell 1
          have cp2 : W4.cell? ⟨p, 2, none⟩ = some (.bool c) := Kp_4.out.cell 2
          have cp3 : W4.cell? ⟨p, 3, none⟩ = some (.bool d) := Kp_4.out.cell 3
          have cp4 : W4.cell? ⟨p, 4, none⟩ = some (.bool f) := Kp_4.out.cell 4
          have cq0 : W4.cell? ⟨q, 0, none⟩ = some (.bool true) := Kq_4.out.cell 0
          have cq1 : W4.cell? ⟨q, 1, none⟩ = some (.bool true) := Kq_4.out.cell 1
          have cq2 : W4.cell? ⟨q, 2, none⟩ = some (.bool x2) := Kq_4.out.cell 2
          have cq3 : W4.cell? ⟨q, 3, none⟩ = some (.bool x3) := Kq_4.out.cell 3
          have cq4 : W4.cell? ⟨q, 4, none⟩ = some (.bool x4) := Kq_4.out.cell 4
          go_wp2_with fail
          refine (HIN.out _).mono ?_
          rintro e v4 ⟨iA, icap, rfl, b4⟩
          clear cp0 cp1 cp2 cp3 cp4 cq0 cq1 cq2 cq3 cq4
          have Kp_5 : Hid (Bk v4 p 23 #[.bool true, .bool true, .bool c, .bool d, .bool f]) := Kp_4.out.below b4 Kp_4.out.lt
          have Kq_5 : Hid (Bk v4 q 23 #[.bool true, .bool true, .bool x2, .bool x3, .bool x4]) := Kq_4.out.below b4 Kq_4.out.lt
          have B_5 : Hid (Below w.heap.size w v4) := B_4.out.trans (b4.mono B_4.out.size)
          clear Kp_4 Kq_4 B_4
          clear b4
          obtain ⟨W6, hW6⟩ : ∃ W, v4.alloc (.cells #[.string ⟨#[97, 64, 98]⟩, .string ⟨#[110]⟩, .slice iA 0 icap, .int .i64 3, .bool x2, .bool x4] 26) = W := ⟨_, rfl⟩
          obtain ⟨u, hu⟩ : ∃ g, v4.heap.size = g := ⟨_, rfl⟩
          have Kp_6 : Hid (Bk W6 p 23 #[.bool true, .bool true, .bool c, .bool d, .bool f]) := by rw [← hW6]; exact Kp_5.out.alloc _
          have HNpu : Hid (p < u) := by have := Kp_5.out.lt; unfold Hid; omega
          have Kq_6 : Hid (Bk W6 q 23 #[.bool true, .bool true, .bool x2, .bool x3, .bool x4]) := by rw [← hW6]; exact Kq_5.out.alloc _
          have HNqu : Hid (q < u) := by have := Kq_5.out.lt; unfold Hid; omega
          have Ku_6 : Hid (Bk W6 u 26 #[.string ⟨#[97, 64, 98]⟩, .string ⟨#[110]⟩, .slice iA 0 icap, .int .i64 3, .bool x2, .bool x4]) := by rw [← hW6, ← hu]; exact Bk.new _ _ _
          have B_6 : Hid (Below w.heap.size w W6) := by rw [← hW6]; exact B_5.out.alloc B_5.out.size _
          have HLu : Hid (w.heap.size ≤ u) := by have := B_5.out.size; unfold Hid; omega
          have HW6 := Lib.hid hW6
          have HAu := Lib.hid hu
          clear hW6 hu
          clear Kp_5 Kq_5 B_5
          go_upto_region 20 with fail
          (try rw [HW6.out])
          (try rw [HAu.out])
          go_wp2_with fail
          refine (HAW.out W6).mono ?_
          rintro e v6 ⟨rfl, b6⟩
          have KU := Ku_6.out.below b6 Ku_6.out.lt
          have Kp_7 : Hid (Bk v6 p 23 #[.bool true, .bool true, .bool c, .bool d, .bool f]) := Kp_6.out.below b6 Kp_6.out.lt
          have Kq_7 : Hid (Bk v6 q 23 #[.bool true, .bool true, .bool x2, .bool x3, .bool x4]) := Kq_6.out.below b6 Kq_6.out.lt
          have B_7 : Hid (Below w.heap.size w v6) := B_6.out.trans (b6.mono B_6.out.size)
          clear Kp_6 Kq_6 B_6
          clear b6
          have cq0 : v6.cell? ⟨q, 0, none⟩ = some (.bool true) := Kq_7.out.cell 0
          have cq1 : v6.cell? ⟨q, 1, none⟩ = some (.bool true) := Kq_7.out.cell 1
          have cq2 : v6.cell? ⟨q, 2, none⟩ = some (.bool x2) := Kq_7.out.cell 2
          have cq3 : v6.cell? ⟨q, 3, none⟩ = some (.bool x3) := Kq_7.out.cell 3
          have cq4 : v6.cell? ⟨q, 4, none⟩ = some (.bool x4) := Kq_7.out.cell 4
          have y0 : v6.cell? ⟨u, 0, none⟩ = some (.string ⟨#[97, 64, 98]⟩) := KU.cell 0
          have y1 : v6.cell? ⟨u, 1, none⟩ = some (.string ⟨#[110]⟩) := KU.cell 1
          have y2 : v6.cell? ⟨u, 2, none⟩ = some (.slice iA 0 icap) := KU.cell 2
          have y3 : v6.cell? ⟨u, 3, none⟩ = some (.int .i64 3) := KU.cell 3
          have y4 : v6.cell? ⟨u, 4, none⟩ = some (.bool x2) := KU.cell 4
          have y5 : v6.cell? ⟨u, 5, none⟩ = some (.bool x4) := KU.cell 5
          have ht : ((⟨#[110]⟩ : ByteArray).toList == (⟨#[110]⟩ : ByteArray).toList) = true := by simp
          clear KU
          go_wp2_with fail
          go_ret
          exact ⟨rfl, B_7.out⟩
    · skip
      cases a with
      | false =>
        have hp : ∀ b c d f : Bool, rightM ⟨false, b, c, d, f⟩ = true → (stepM ⟨false, b, c, d, f⟩ 4).to = false ∧ (stepM ⟨false, b, c, d, f⟩ 4).fr = false := by decide
        obtain ⟨h0, h1⟩ := hp b c d f HR.out
        clear hp
        obtain ⟨⟨x0, x1, x2, x3, x4⟩, hA⟩ : ∃ A, stepM ⟨false, b, c, d, f⟩ 4 = A := ⟨_, rfl⟩
        rw [hA] at h0 h1
        simp only at h0 h1
        obtain rfl := h0.symm
        obtain rfl := h1.symm
        have HA := Lib.hid hA
        clear hA
        have cp0 : v0.cell? ⟨p, 0, none⟩ = some (.bool false) := Kp_1.out.cell 0
        have cp1 : v0.cell? ⟨p, 1, none⟩ = some (.bool b) := Kp_1.out.cell 1
        have cp2 : v0.cell? ⟨p, 2, none⟩ = some (.bool c) := Kp_1.out.cell 2
        have cp3 : v0.cell? ⟨p, 3, none⟩ = some (.bool d) := Kp_1.out.cell 3
        have cp4 : v0.cell? ⟨p, 4, none⟩ = some (.bool f) := Kp_1.out.cell 4
        obtain ⟨r1, hr1⟩ : ∃ r, (!decide ((⟨false, false, x2, x3, x4⟩ : Mod) = ⟨false, b, c, d, f⟩)) = r := ⟨_, rfl⟩
        have HS1 := Lib.hid (step_at ⟨false, b, c, d, f⟩ ⟨false, false, x2, x3, x4⟩ (4) r1 (HA.out) hr1 v0)
        clear hr1
        go_wp2_with fail
        refine HS1.out.mono ?_
        rintro e v1 ⟨rfl, b1⟩
        clear cp0 cp1 cp2 cp3 cp4
        have Kp_2 : Hid (Bk v1 p 23 #[.bool false, .bool b, .bool c, .bool d, .bool f]) := Kp_1.out.below b1 Kp_1.out.lt
        have B_2 : Hid (Below w.heap.size w v1) := B_1.out.trans (b1.mono B_1.out.size)
        clear Kp_1 B_1
        clear b1
        obtain ⟨W3, hW3⟩ : ∃ W, v1.alloc (.cells #[.bool false, .bool false, .bool x2, .bool x3, .bool x4] 23) = W := ⟨_, rfl⟩
        obtain ⟨q, hq⟩ : ∃ g, v1.heap.size = g := ⟨_, rfl⟩
        have Kp_3 : Hid (Bk W3 p 23 #[.bool false, .bool b, .bool c, .bool d, .bool f]) := by rw [← hW3]; exact Kp_2.out.alloc _
        have HNpq : Hid (p < q) := by have := Kp_2.out.lt; unfold Hid; omega
        have Kq_3 : Hid (Bk W3 q 23 #[.bool false, .bool false, .bool x2, .bool x3, .bool x4]) := by rw [← hW3, ← hq]; exact Bk.new _ _ _
        have B_3 : Hid (Below w.heap.size w W3) := by rw [← hW3]; exact B_2.out.alloc B_2.out.size _
        have HLq : Hid (w.heap.size ≤ q) := by have := B_2.out.size; unfold Hid; omega
        have HW3 := Lib.hid hW3
        have HAq := Lib.hid hq
        clear hW3 hq
        clear Kp_2 B_2
        go_upto_region 5 with fail
        (try rw [HW3.out])
        (try rw [HAq.out])
        have cp0 : W3.cell? ⟨p, 0, none⟩ = some (.bool false) := Kp_3.out.cell 0
        have cp1 : W3.cell? ⟨p, 1, none⟩ = some (.bool b) := Kp_3.out.cell 1
        have cp2 : W3.cell? ⟨p, 2, none⟩ = some (.bool c) := Kp_3.out.cell 2
        have cp3 : W3.cell? ⟨p, 3, none⟩ = some (.bool d) := Kp_3.out.cell 3
        have cp4 : W3.cell? ⟨p, 4, none⟩ = some (.bool f) := Kp_3.out.cell 4
        go_region
        clear cp0 cp1 cp2 cp3 cp4
        obtain ⟨W4, hW4⟩ : ∃ z, W3.drew = z := ⟨_, rfl⟩
        have Kp_4 : Hid (Bk W4 p 23 #[.bool false, .bool b, .bool c, .bool d, .bool f]) := by rw [← hW4]; exact Kp_3.out.drew
        have Kq_4 : Hid (Bk W4 q 23 #[.bool false, .bool false, .bool x2, .bool x3, .bool x4]) := by rw [← hW4]; exact Kq_3.out.drew
        have B_4 : Hid (Below w.heap.size w W4) := by rw [← hW4]; exact B_3.out.drew
        rw [hW4]
        clear hW4
        clear Kp_3 Kq_3 B_3
        have HIN : Hid (∀ W, Calls Try.prog 17 #[.agg #[.string ⟨#[97, 64, 98]⟩, .string ⟨#[110]⟩, .slice none 0 0, .int .i64 0, .bool false, .bool false], .agg #[.bool false, .bool false, .bool x2, .bool x3, .bool x4]] W fun e w' => ∃ iA cap, e = .returned (.agg #[.string ⟨#[97, 64, 98]⟩, .string ⟨#[110]⟩, .slice iA 0 cap, .int .i64 0, .bool x2, .bool x4]) ∧ Below W.heap.size W w') := fun W => by
          refine (into_any ⟨[97, 64, 98], [110], [], 0, false, false⟩ (.slice none 0 0) ⟨false, false, x2, x3, x4⟩ W (ReadT.nil _ _ _) (by decide)).mono ?_
          rintro e w' ⟨gv', he, ho, hb⟩
          obtain ⟨A, cap, hv⟩ := ho.slice
          subst hv
          exact ⟨A, cap, by rw [he]; rfl, hb⟩
        have cp0 : W4.cell? ⟨p, 0, none⟩ = some (.bool false) := Kp_4.out.cell 0
        have cp1 : W4.cell? ⟨p, 1, none⟩ = some (.bool b) := Kp_4.out.cell 1
        have cp2 : W4.cell? ⟨p, 2, none⟩ = some (.bool c) := Kp_4.out.cell 2
        have cp3 : W4.cell? ⟨p, 3, none⟩ = some (.bool d) := Kp_4.out.cell 3
        have cp4 : W4.cell? ⟨p, 4, none⟩ = some (.bool f) := Kp_4.out.cell 4
        have cq0 : W4.cell? ⟨q, 0, none⟩ = some (.bool false) := Kq_4.out.cell 0
        have cq1 : W4.cell? ⟨q, 1, none⟩ = some (.bool false) := Kq_4.out.cell 1
        have cq2 : W4.cell? ⟨q, 2, none⟩ = some (.bool x2) := Kq_4.out.cell 2
        have cq3 : W4.cell? ⟨q, 3, none⟩ = some (.bool x3) := Kq_4.out.cell 3
        have cq4 : W4.cell? ⟨q, 4, none⟩ = some (.bool x4) := Kq_4.out.cell 4
        go_wp2_with fail
        refine (HIN.out _).mono ?_
        rintro e v4 ⟨iA, icap, rfl, b4⟩
        clear cp0 cp1 cp2 cp3 cp4 cq0 cq1 cq2 cq3 cq4
        have Kp_5 : Hid (Bk v4 p 23 #[.bool false, .bool b, .bool c, .bool d, .bool f]) := Kp_4.out.below b4 Kp_4.out.lt
        have Kq_5 : Hid (Bk v4 q 23 #[.bool false, .bool false, .bool x2, .bool x3, .bool x4]) := Kq_4.out.below b4 Kq_4.out.lt
        have B_5 : Hid (Below w.heap.size w v4) := B_4.out.trans (b4.mono B_4.out.size)
        clear Kp_4 Kq_4 B_4
        clear b4
        obtain ⟨W6, hW6⟩ : ∃ W, v4.alloc (.cells #[.string ⟨#[97, 64, 98]⟩, .string ⟨#[110]⟩, .slice iA 0 icap, .int .i64 0, .bool x2, .bool x4] 26) = W := ⟨_, rfl⟩
        obtain ⟨u, hu⟩ : ∃ g, v4.heap.size = g := ⟨_, rfl⟩
        have Kp_6 : Hid (Bk W6 p 23 #[.bool false, .bool b, .bool c, .bool d, .bool f]) := by rw [← hW6]; exact Kp_5.out.alloc _
        have HNpu : Hid (p < u) := by have := Kp_5.out.lt; unfold Hid; omega
        have Kq_6 : Hid (Bk W6 q 23 #[.bool false, .bool false, .bool x2, .bool x3, .bool x4]) := by rw [← hW6]; exact Kq_5.out.alloc _
        have HNqu : Hid (q < u) := by have := Kq_5.out.lt; unfold Hid; omega
        have Ku_6 : Hid (Bk W6 u 26 #[.string ⟨#[97, 64, 98]⟩, .string ⟨#[110]⟩, .slice iA 0 icap, .int .i64 0, .bool x2, .bool x4]) := by rw [← hW6, ← hu]; exact Bk.new _ _ _
        have B_6 : Hid (Below w.heap.size w W6) := by rw [← hW6]; exact B_5.out.alloc B_5.out.size _
        have HLu : Hid (w.heap.size ≤ u) := by have := B_5.out.size; unfold Hid; omega
        have HW6 := Lib.hid hW6
        have HAu := Lib.hid hu
        clear hW6 hu
        clear Kp_5 Kq_5 B_5
        go_upto_region 20 with fail
        (try rw [HW6.out])
        (try rw [HAu.out])
        go_wp2_with fail
        refine (HAW.out W6).mono ?_
        rintro e v6 ⟨rfl, b6⟩
        have KU := Ku_6.out.below b6 Ku_6.out.lt
        have Kp_7 : Hid (Bk v6 p 23 #[.bool false, .bool b, .bool c, .bool d, .bool f]) := Kp_6.out.below b6 Kp_6.out.lt
        have Kq_7 : Hid (Bk v6 q 23 #[.bool false, .bool false, .bool x2, .bool x3, .bool x4]) := Kq_6.out.below b6 Kq_6.out.lt
        have B_7 : Hid (Below w.heap.size w v6) := B_6.out.trans (b6.mono B_6.out.size)
        clear Kp_6 Kq_6 B_6
        clear b6
        have cq0 : v6.cell? ⟨q, 0, none⟩ = some (.bool false) := Kq_7.out.cell 0
        have cq1 : v6.cell? ⟨q, 1, none⟩ = some (.bool false) := Kq_7.out.cell 1
        have cq2 : v6.cell? ⟨q, 2, none⟩ = some (.bool x2) := Kq_7.out.cell 2
        have cq3 : v6.cell? ⟨q, 3, none⟩ = some (.bool x3) := Kq_7.out.cell 3
        have cq4 : v6.cell? ⟨q, 4, none⟩ = some (.bool x4) := Kq_7.out.cell 4
        have y0 : v6.cell? ⟨u, 0, none⟩ = some (.string ⟨#[97, 64, 98]⟩) := KU.cell 0
        have y1 : v6.cell? ⟨u, 1, none⟩ = some (.string ⟨#[110]⟩) := KU.cell 1
        have y2 : v6.cell? ⟨u, 2, none⟩ = some (.slice iA 0 icap) := KU.cell 2
        have y3 : v6.cell? ⟨u, 3, none⟩ = some (.int .i64 0) := KU.cell 3
        have y4 : v6.cell? ⟨u, 4, none⟩ = some (.bool x2) := KU.cell 4
        have y5 : v6.cell? ⟨u, 5, none⟩ = some (.bool x4) := KU.cell 5
        have ht : ((⟨#[110]⟩ : ByteArray).toList == (⟨#[110]⟩ : ByteArray).toList) = true := by simp
        clear KU
        go_wp2_with fail
        go_ret
        exact ⟨rfl, B_7.out⟩
      | true =>
        have hp : ∀ b c d f : Bool, rightM ⟨true, b, c, d, f⟩ = true → (stepM ⟨true, b, c, d, f⟩ 4).to = true ∧ (stepM ⟨true, b, c, d, f⟩ 4).fr = false := by decide
        obtain ⟨h0, h1⟩ := hp b c d f HR.out
        clear hp
        obtain ⟨⟨x0, x1, x2, x3, x4⟩, hA⟩ : ∃ A, stepM ⟨true, b, c, d, f⟩ 4 = A := ⟨_, rfl⟩
        rw [hA] at h0 h1
        simp only at h0 h1
        obtain rfl := h0.symm
        obtain rfl := h1.symm
        have HA := Lib.hid hA
        clear hA
        have cp0 : v0.cell? ⟨p, 0, none⟩ = some (.bool true) := Kp_1.out.cell 0
        have cp1 : v0.cell? ⟨p, 1, none⟩ = some (.bool b) := Kp_1.out.cell 1
        have cp2 : v0.cell? ⟨p, 2, none⟩ = some (.bool c) := Kp_1.out.cell 2
        have cp3 : v0.cell? ⟨p, 3, none⟩ = some (.bool d) := Kp_1.out.cell 3
        have cp4 : v0.cell? ⟨p, 4, none⟩ = some (.bool f) := Kp_1.out.cell 4
        obtain ⟨r1, hr1⟩ : ∃ r, (!decide ((⟨true, false, x2, x3, x4⟩ : Mod) = ⟨true, b, c, d, f⟩)) = r := ⟨_, rfl⟩
        have HS1 := Lib.hid (step_at ⟨true, b, c, d, f⟩ ⟨true, false, x2, x3, x4⟩ (4) r1 (HA.out) hr1 v0)
        clear hr1
        go_wp2_with fail
        refine HS1.out.mono ?_
        rintro e v1 ⟨rfl, b1⟩
        clear cp0 cp1 cp2 cp3 cp4
        have Kp_2 : Hid (Bk v1 p 23 #[.bool true, .bool b, .bool c, .bool d, .bool f]) := Kp_1.out.below b1 Kp_1.out.lt
        have B_2 : Hid (Below w.heap.size w v1) := B_1.out.trans (b1.mono B_1.out.size)
        clear Kp_1 B_1
        clear b1
        obtain ⟨W3, hW3⟩ : ∃ W, v1.alloc (.cells #[.bool true, .bool false, .bool x2, .bool x3, .bool x4] 23) = W := ⟨_, rfl⟩
        obtain ⟨q, hq⟩ : ∃ g, v1.heap.size = g := ⟨_, rfl⟩
        have Kp_3 : Hid (Bk W3 p 23 #[.bool true, .bool b, .bool c, .bool d, .bool f]) := by rw [← hW3]; exact Kp_2.out.alloc _
        have HNpq : Hid (p < q) := by have := Kp_2.out.lt; unfold Hid; omega
        have Kq_3 : Hid (Bk W3 q 23 #[.bool true, .bool false, .bool x2, .bool x3, .bool x4]) := by rw [← hW3, ← hq]; exact Bk.new _ _ _
        have B_3 : Hid (Below w.heap.size w W3) := by rw [← hW3]; exact B_2.out.alloc B_2.out.size _
        have HLq : Hid (w.heap.size ≤ q) := by have := B_2.out.size; unfold Hid; omega
        have HW3 := Lib.hid hW3
        have HAq := Lib.hid hq
        clear hW3 hq
        clear Kp_2 B_2
        go_upto_region 5 with fail
        (try rw [HW3.out])
        (try rw [HAq.out])
        have cp0 : W3.cell? ⟨p, 0, none⟩ = some (.bool true) := Kp_3.out.cell 0
        have cp1 : W3.cell? ⟨p, 1, none⟩ = some (.bool b) := Kp_3.out.cell 1
        have cp2 : W3.cell? ⟨p, 2, none⟩ = some (.bool c) := Kp_3.out.cell 2
        have cp3 : W3.cell? ⟨p, 3, none⟩ = some (.bool d) := Kp_3.out.cell 3
        have cp4 : W3.cell? ⟨p, 4, none⟩ = some (.bool f) := Kp_3.out.cell 4
        go_region
        clear cp0 cp1 cp2 cp3 cp4
        obtain ⟨W4, hW4⟩ : ∃ z, W3.drew = z := ⟨_, rfl⟩
        have Kp_4 : Hid (Bk W4 p 23 #[.bool true, .bool b, .bool c, .bool d, .bool f]) := by rw [← hW4]; exact Kp_3.out.drew
        have Kq_4 : Hid (Bk W4 q 23 #[.bool true, .bool false, .bool x2, .bool x3, .bool x4]) := by rw [← hW4]; exact Kq_3.out.drew
        have B_4 : Hid (Below w.heap.size w W4) := by rw [← hW4]; exact B_3.out.drew
        rw [hW4]
        clear hW4
        clear Kp_3 Kq_3 B_3
        have HIN : Hid (∀ W, Calls Try.prog 17 #[.agg #[.string ⟨#[97, 64, 98]⟩, .string ⟨#[110]⟩, .slice none 0 0, .int .i64 0, .bool false, .bool false], .agg #[.bool true, .bool false, .bool x2, .bool x3, .bool x4]] W fun e w' => ∃ iA cap, e = .returned (.agg #[.string ⟨#[97, 64, 98]⟩, .string ⟨#[110]⟩, .slice iA 0 cap, .int .i64 1, .bool x2, .bool x4]) ∧ Below W.heap.size W w') := fun W => by
          refine (into_any ⟨[97, 64, 98], [110], [], 0, false, false⟩ (.slice none 0 0) ⟨true, false, x2, x3, x4⟩ W (ReadT.nil _ _ _) (by decide)).mono ?_
          rintro e w' ⟨gv', he, ho, hb⟩
          obtain ⟨A, cap, hv⟩ := ho.slice
          subst hv
          exact ⟨A, cap, by rw [he]; rfl, hb⟩
        have cp0 : W4.cell? ⟨p, 0, none⟩ = some (.bool true) := Kp_4.out.cell 0
        have cp1 : W4.cell? ⟨p, 1, none⟩ = some (.bool b) := Kp_4.out.cell 1
        have cp2 : W4.cell? ⟨p, 2, none⟩ = some (.bool c) := Kp_4.out.cell 2
        have cp3 : W4.cell? ⟨p, 3, none⟩ = some (.bool d) := Kp_4.out.cell 3
        have cp4 : W4.cell? ⟨p, 4, none⟩ = some (.bool f) := Kp_4.out.cell 4
        have cq0 : W4.cell? ⟨q, 0, none⟩ = some (.bool true) := Kq_4.out.cell 0
        have cq1 : W4.cell? ⟨q, 1, none⟩ = some (.bool false) := Kq_4.out.cell 1
        have cq2 : W4.cell? ⟨q, 2, none⟩ = some (.bool x2) := Kq_4.out.cell 2
        have cq3 : W4.cell? ⟨q, 3, none⟩ = some (.bool x3) := Kq_4.out.cell 3
        have cq4 : W4.cell? ⟨q, 4, none⟩ = some (.bool x4) := Kq_4.out.cell 4
        go_wp2_with fail
        refine (HIN.out _).mono ?_
        rintro e v4 ⟨iA, icap, rfl, b4⟩
        clear cp0 cp1 cp2 cp3 cp4 cq0 cq1 cq2 cq3 cq4
        have Kp_5 : Hid (Bk v4 p 23 #[.bool true, .bool b, .bool c, .bool d, .bool f]) := Kp_4.out.below b4 Kp_4.out.lt
        have Kq_5 : Hid (Bk v4 q 23 #[.bool true, .bool false, .bool x2, .bool x3, .bool x4]) := Kq_4.out.below b4 Kq_4.out.lt
        have B_5 : Hid (Below w.heap.size w v4) := B_4.out.trans (b4.mono B_4.out.size)
        clear Kp_4 Kq_4 B_4
        clear b4
        obtain ⟨W6, hW6⟩ : ∃ W, v4.alloc (.cells #[.string ⟨#[97, 64, 98]⟩, .string ⟨#[110]⟩, .slice iA 0 icap, .int .i64 1, .bool x2, .bool x4] 26) = W := ⟨_, rfl⟩
        obtain ⟨u, hu⟩ : ∃ g, v4.heap.size = g := ⟨_, rfl⟩
        have Kp_6 : Hid (Bk W6 p 23 #[.bool true, .bool b, .bool c, .bool d, .bool f]) := by rw [← hW6]; exact Kp_5.out.alloc _
        have HNpu : Hid (p < u) := by have := Kp_5.out.lt; unfold Hid; omega
        have Kq_6 : Hid (Bk W6 q 23 #[.bool true, .bool false, .bool x2, .bool x3, .bool x4]) := by rw [← hW6]; exact Kq_5.out.alloc _
        have HNqu : Hid (q < u) := by have := Kq_5.out.lt; unfold Hid; omega
        have Ku_6 : Hid (Bk W6 u 26 #[.string ⟨#[97, 64, 98]⟩, .string ⟨#[110]⟩, .slice iA 0 icap, .int .i64 1, .bool x2, .bool x4]) := by rw [← hW6, ← hu]; exact Bk.new _ _ _
        have B_6 : Hid (Below w.heap.size w W6) := by rw [← hW6]; exact B_5.out.alloc B_5.out.size _
        have HLu : Hid (w.heap.size ≤ u) := by have := B_5.out.size; unfold Hid; omega
        have HW6 := Lib.hid hW6
        have HAu := Lib.hid hu
        clear hW6 hu
        clear Kp_5 Kq_5 B_5
        go_upto_region 20 with fail
        (try rw [HW6.out])
        (try rw [HAu.out])
        go_wp2_with fail
        refine (HAW.out W6).mono ?_
        rintro e v6 ⟨rfl, b6⟩
        have KU := Ku_6.out.below b6 Ku_6.out.lt
        have Kp_7 : Hid (Bk v6 p 23 #[.bool true, .bool b, .bool c, .bool d, .bool f]) := Kp_6.out.below b6 Kp_6.out.lt
        have Kq_7 : Hid (Bk v6 q 23 #[.bool true, .bool false, .bool x2, .bool x3, .bool x4]) := Kq_6.out.below b6 Kq_6.out.lt
        have B_7 : Hid (Below w.heap.size w v6) := B_6.out.trans (b6.mono B_6.out.size)
        clear Kp_6 Kq_6 B_6
        clear b6
        have cq0 : v6.cell? ⟨q, 0, none⟩ = some (.bool true) := Kq_7.out.cell 0
        have cq1 : v6.cell? ⟨q, 1, none⟩ = some (.bool false) := Kq_7.out.cell 1
        have cq2 : v6.cell? ⟨q, 2, none⟩ = some (.bool x2) := Kq_7.out.cell 2
        have cq3 : v6.cell? ⟨q, 3, none⟩ = some (.bool x3) := Kq_7.out.cell 3
        have cq4 : v6.cell? ⟨q, 4, none⟩ = some (.bool x4) := Kq_7.out.cell 4
        have y0 : v6.cell? ⟨u, 0, none⟩ = some (.string ⟨#[97, 64, 98]⟩) := KU.cell 0
        have y1 : v6.cell? ⟨u, 1, none⟩ = some (.string ⟨#[110]⟩) := KU.cell 1
        have y2 : v6.cell? ⟨u, 2, none⟩ = some (.slice iA 0 icap) := KU.cell 2
        have y3 : v6.cell? ⟨u, 3, none⟩ = some (.int .i64 1) := KU.cell 3
        have y4 : v6.cell? ⟨u, 4, none⟩ = some (.bool x2) := KU.cell 4
        have y5 : v6.cell? ⟨u, 5, none⟩ = some (.bool x4) := KU.cell 5
        have ht : ((⟨#[110]⟩ : ByteArray).toList == (⟨#[110]⟩ : ByteArray).toList) = true := by simp
        clear KU
        go_wp2_with fail
        go_ret
        exact ⟨rfl, B_7.out⟩
    · skip
      cases a with
      | false =>
        cases b with
        | false =>
          cases f with
          | false =>
            have hp : ∀ c d : Bool, rightM ⟨false, false, c, d, false⟩ = true → (stepM ⟨false, false, c, d, false⟩ 5).to = false ∧ (stepM ⟨false, false, c, d, false⟩ 5).fr = false := by decide
            obtain ⟨h0, h1⟩ := hp c d HR.out
            clear hp
            obtain ⟨⟨x0, x1, x2, x3, x4⟩, hA⟩ : ∃ A, stepM ⟨false, false, c, d, false⟩ 5 = A := ⟨_, rfl⟩
            rw [hA] at h0 h1
            simp only at h0 h1
            obtain rfl := h0.symm
            obtain rfl := h1.symm
            have HA := Lib.hid hA
            clear hA
            have cp0 : v0.cell? ⟨p, 0, none⟩ = some (.bool false) := Kp_1.out.cell 0
            have cp1 : v0.cell? ⟨p, 1, none⟩ = some (.bool false) := Kp_1.out.cell 1
            have cp2 : v0.cell? ⟨p, 2, none⟩ = some (.bool c) := Kp_1.out.cell 2
            have cp3 : v0.cell? ⟨p, 3, none⟩ = some (.bool d) := Kp_1.out.cell 3
            have cp4 : v0.cell? ⟨p, 4, none⟩ = some (.bool false) := Kp_1.out.cell 4
            obtain ⟨r1, hr1⟩ : ∃ r, (!decide ((⟨false, false, x2, x3, x4⟩ : Mod) = ⟨false, false, c, d, false⟩)) = r := ⟨_, rfl⟩
            have HS1 := Lib.hid (step_at ⟨false, false, c, d, false⟩ ⟨false, false, x2, x3, x4⟩ (5) r1 (HA.out) hr1 v0)
            clear hr1
            go_wp2_with fail
            refine HS1.out.mono ?_
            rintro e v1 ⟨rfl, b1⟩
            clear cp0 cp1 cp2 cp3 cp4
            have Kp_2 : Hid (Bk v1 p 23 #[.bool false, .bool false, .bool c, .bool d, .bool false]) := Kp_1.out.below b1 Kp_1.out.lt
            have B_2 : Hid (Below w.heap.size w v1) := B_1.out.trans (b1.mono B_1.out.size)
            clear Kp_1 B_1
            clear b1
            obtain ⟨W3, hW3⟩ : ∃ W, v1.alloc (.cells #[.bool false, .bool false, .bool x2, .bool x3, .bool x4] 23) = W := ⟨_, rfl⟩
            obtain ⟨q, hq⟩ : ∃ g, v1.heap.size = g := ⟨_, rfl⟩
            have Kp_3 : Hid (Bk W3 p 23 #[.bool false, .bool false, .bool c, .bool d, .bool false]) := by rw [← hW3]; exact Kp_2.out.alloc _
            have HNpq : Hid (p < q) := by have := Kp_2.out.lt; unfold Hid; omega
            have Kq_3 : Hid (Bk W3 q 23 #[.bool false, .bool false, .bool x2, .bool x3, .bool x4]) := by rw [← hW3, ← hq]; exact Bk.new _ _ _
            have B_3 : Hid (Below w.heap.size w W3) := by rw [← hW3]; exact B_2.out.alloc B_2.out.size _
            have HLq : Hid (w.heap.size ≤ q) := by have := B_2.out.size; unfold Hid; omega
            have HW3 := Lib.hid hW3
            have HAq := Lib.hid hq
            clear hW3 hq
            clear Kp_2 B_2
            go_upto_region 5 with fail
            (try rw [HW3.out])
            (try rw [HAq.out])
            have cp0 : W3.cell? ⟨p, 0, none⟩ = some (.bool false) := Kp_3.out.cell 0
            have cp1 : W3.cell? ⟨p, 1, none⟩ = some (.bool false) := Kp_3.out.cell 1
            have cp2 : W3.cell? ⟨p, 2, none⟩ = some (.bool c) := Kp_3.out.cell 2
            have cp3 : W3.cell? ⟨p, 3, none⟩ = some (.bool d) := Kp_3.out.cell 3
            have cp4 : W3.cell? ⟨p, 4, none⟩ = some (.bool false) := Kp_3.out.cell 4
            go_region
            clear cp0 cp1 cp2 cp3 cp4
            obtain ⟨W4, hW4⟩ : ∃ z, W3.drew = z := ⟨_, rfl⟩
            have Kp_4 : Hid (Bk W4 p 23 #[.bool false, .bool false, .bool c, .bool d, .bool false]) := by rw [← hW4]; exact Kp_3.out.drew
            have Kq_4 : Hid (Bk W4 q 23 #[.bool false, .bool false, .bool x2, .bool x3, .bool x4]) := by rw [← hW4]; exact Kq_3.out.drew
            have B_4 : Hid (Below w.heap.size w W4) := by rw [← hW4]; exact B_3.out.drew
            rw [hW4]
            clear hW4
            clear Kp_3 Kq_3 B_3
            have HIN : Hid (∀ W, Calls Try.prog 17 #[.agg #[.string ⟨#[97, 64, 98]⟩, .string ⟨#[110]⟩, .slice none 0 0, .int .i64 0, .bool false, .bool false], .agg #[.bool false, .bool false, .bool x2, .bool x3, .bool x4]] W fun e w' => ∃ iA cap, e = .returned (.agg #[.string ⟨#[97, 64, 98]⟩, .string ⟨#[110]⟩, .slice iA 0 cap, .int .i64 0, .bool x2, .bool x4]) ∧ Below W.heap.size W w') := fun W => by
              refine (into_any ⟨[97, 64, 98], [110], [], 0, false, false⟩ (.slice none 0 0) ⟨false, false, x2, x3, x4⟩ W (ReadT.nil _ _ _) (by decide)).mono ?_
              rintro e w' ⟨gv', he, ho, hb⟩
              obtain ⟨A, cap, hv⟩ := ho.slice
              subst hv
              exact ⟨A, cap, by rw [he]; rfl, hb⟩
            have cp0 : W4.cell? ⟨p, 0, none⟩ = some (.bool false) := Kp_4.out.cell 0
            have cp1 : W4.cell? ⟨p, 1, none⟩ = some (.bool false) := Kp_4.out.cell 1
            have cp2 : W4.cell? ⟨p, 2, none⟩ = some (.bool c) := Kp_4.out.cell 2
            have cp3 : W4.cell? ⟨p, 3, none⟩ = some (.bool d) := Kp_4.out.cell 3
            have cp4 : W4.cell? ⟨p, 4, none⟩ = some (.bool false) := Kp_4.out.cell 4
            have cq0 : W4.cell? ⟨q, 0, none⟩ = some (.bool false) := Kq_4.out.cell 0
            have cq1 : W4.cell? ⟨q, 1, none⟩ = some (.bool false) := Kq_4.out.cell 1
            have cq2 : W4.cell? ⟨q, 2, none⟩ = some (.bool x2) := Kq_4.out.cell 2
            have cq3 : W4.cell? ⟨q, 3, none⟩ = some (.bool x3) := Kq_4.out.cell 3
            have cq4 : W4.cell? ⟨q, 4, none⟩ = some (.bool x4) := Kq_4.out.cell 4
            go_wp2_with fail
            refine (HIN.out _).mono ?_
            rintro e v4 ⟨iA, icap, rfl, b4⟩
            clear cp0 cp1 cp2 cp3 cp4 cq0 cq1 cq2 cq3 cq4
            have Kp_5 : Hid (Bk v4 p 23 #[.bool false, .bool false, .bool c, .bool d, .bool false]) := Kp_4.out.below b4 Kp_4.out.lt
            have Kq_5 : Hid (Bk v4 q 23 #[.bool false, .bool false, .bool x2, .bool x3, .bool x4]) := Kq_4.out.below b4 Kq_4.out.lt
            have B_5 : Hid (Below w.heap.size w v4) := B_4.out.trans (b4.mono B_4.out.size)
            clear Kp_4 Kq_4 B_4
            clear b4
            obtain ⟨W6, hW6⟩ : ∃ W, v4.alloc (.cells #[.string ⟨#[97, 64, 98]⟩, .string ⟨#[110]⟩, .slice iA 0 icap, .int .i64 0, .bool x2, .bool x4] 26) = W := ⟨_, rfl⟩
            obtain ⟨u, hu⟩ : ∃ g, v4.heap.size = g := ⟨_, rfl⟩
            have Kp_6 : Hid (Bk W6 p 23 #[.bool false, .bool false, .bool c, .bool d, .bool false]) := by rw [← hW6]; exact Kp_5.out.alloc _
            have HNpu : Hid (p < u) := by have := Kp_5.out.lt; unfold Hid; omega
            have Kq_6 : Hid (Bk W6 q 23 #[.bool false, .bool false, .bool x2, .bool x3, .bool x4]) := by rw [← hW6]; exact Kq_5.out.alloc _
            have HNqu : Hid (q < u) := by have := Kq_5.out.lt; unfold Hid; omega
            have Ku_6 : Hid (Bk W6 u 26 #[.string ⟨#[97, 64, 98]⟩, .string ⟨#[110]⟩, .slice iA 0 icap, .int .i64 0, .bool x2, .bool x4]) := by rw [← hW6, ← hu]; exact Bk.new _ _ _
            have B_6 : Hid (Below w.heap.size w W6) := by rw [← hW6]; exact B_5.out.alloc B_5.out.size _
            have HLu : Hid (w.heap.size ≤ u) := by have := B_5.out.size; unfold Hid; omega
            have HW6 := Lib.hid hW6
            have HAu := Lib.hid hu
            clear hW6 hu
            clear Kp_5 Kq_5 B_5
            go_upto_region 20 with fail
            (try rw [HW6.out])
            (try rw [HAu.out])
            go_wp2_with fail
            refine (HAW.out W6).mono ?_
            rintro e v6 ⟨rfl, b6⟩
            have KU := Ku_6.out.below b6 Ku_6.out.lt
            have Kp_7 : Hid (Bk v6 p 23 #[.bool false, .bool false, .bool c, .bool d, .bool false]) := Kp_6.out.below b6 Kp_6.out.lt
            have Kq_7 : Hid (Bk v6 q 23 #[.bool false, .bool false, .bool x2, .bool x3, .bool x4]) := Kq_6.out.below b6 Kq_6.out.lt
            have B_7 : Hid (Below w.heap.size w v6) := B_6.out.trans (b6.mono B_6.out.size)
            clear Kp_6 Kq_6 B_6
            clear b6
            have cq0 : v6.cell? ⟨q, 0, none⟩ = some (.bool false) := Kq_7.out.cell 0
            have cq1 : v6.cell? ⟨q, 1, none⟩ = some (.bool false) := Kq_7.out.cell 1
            have cq2 : v6.cell? ⟨q, 2, none⟩ = some (.bool x2) := Kq_7.out.cell 2
            have cq3 : v6.cell? ⟨q, 3, none⟩ = some (.bool x3) := Kq_7.out.cell 3
            have cq4 : v6.cell? ⟨q, 4, none⟩ = some (.bool x4) := Kq_7.out.cell 4
            have y0 : v6.cell? ⟨u, 0, none⟩ = some (.string ⟨#[97, 64, 98]⟩) := KU.cell 0
            have y1 : v6.cell? ⟨u, 1, none⟩ = some (.string ⟨#[110]⟩) := KU.cell 1
            have y2 : v6.cell? ⟨u, 2, none⟩ = some (.slice iA 0 icap) := KU.cell 2
            have y3 : v6.cell? ⟨u, 3, none⟩ = some (.int .i64 0) := KU.cell 3
            have y4 : v6.cell? ⟨u, 4, none⟩ = some (.bool x2) := KU.cell 4
            have y5 : v6.cell? ⟨u, 5, none⟩ = some (.bool x4) := KU.cell 5
            have ht : ((⟨#[110]⟩ : ByteArray).toList == (⟨#[110]⟩ : ByteArray).toList) = true := by simp
            clear KU
            go_wp2_with fail
            go_ret
            exact ⟨rfl, B_7.out⟩
          | true =>
            have hp : ∀ c d : Bool, rightM ⟨false, false, c, d, true⟩ = true → (stepM ⟨false, false, c, d, true⟩ 5).to = false ∧ (stepM ⟨false, false, c, d, true⟩ 5).fr = true := by decide
            obtain ⟨h0, h1⟩ := hp c d HR.out
            clear hp
            obtain ⟨⟨x0, x1, x2, x3, x4⟩, hA⟩ : ∃ A, stepM ⟨false, false, c, d, true⟩ 5 = A := ⟨_, rfl⟩
            rw [hA] at h0 h1
            simp only at h0 h1
            obtain rfl := h0.symm
            obtain rfl := h1.symm
            have HA := Lib.hid hA
            clear hA
            have cp0 : v0.cell? ⟨p, 0, none⟩ = some (.bool false) := Kp_1.out.cell 0
            have cp1 : v0.cell? ⟨p, 1, none⟩ = some (.bool false) := Kp_1.out.cell 1
            have cp2 : v0.cell? ⟨p, 2, none⟩ = some (.bool c) := Kp_1.out.cell 2
            have cp3 : v0.cell? ⟨p, 3, none⟩ = some (.bool d) := Kp_1.out.cell 3
            have cp4 : v0.cell? ⟨p, 4, none⟩ = some (.bool true) := Kp_1.out.cell 4
            obtain ⟨r1, hr1⟩ : ∃ r, (!decide ((⟨false, true, x2, x3, x4⟩ : Mod) = ⟨false, false, c, d, true⟩)) = r := ⟨_, rfl⟩
            have HS1 := Lib.hid (step_at ⟨false, false, c, d, true⟩ ⟨false, true, x2, x3, x4⟩ (5) r1 (HA.out) hr1 v0)
            clear hr1
            go_wp2_with fail
            refine HS1.out.mono ?_
            rintro e v1 ⟨rfl, b1⟩
            clear cp0 cp1 cp2 cp3 cp4
            have Kp_2 : Hid (Bk v1 p 23 #[.bool false, .bool false, .bool c, .bool d, .bool true]) := Kp_1.out.below b1 Kp_1.out.lt
            have B_2 : Hid (Below w.heap.size w v1) := B_1.out.trans (b1.mono B_1.out.size)
            clear Kp_1 B_1
            clear b1
            obtain ⟨W3, hW3⟩ : ∃ W, v1.alloc (.cells #[.bool false, .bool true, .bool x2, .bool x3, .bool x4] 23) = W := ⟨_, rfl⟩
            obtain ⟨q, hq⟩ : ∃ g, v1.heap.size = g := ⟨_, rfl⟩
            have Kp_3 : Hid (Bk W3 p 23 #[.bool false, .bool false, .bool c, .bool d, .bool true]) := by rw [← hW3]; exact Kp_2.out.alloc _
            have HNpq : Hid (p < q) := by have := Kp_2.out.lt; unfold Hid; omega
            have Kq_3 : Hid (Bk W3 q 23 #[.bool false, .bool true, .bool x2, .bool x3, .bool x4]) := by rw [← hW3, ← hq]; exact Bk.new _ _ _
            have B_3 : Hid (Below w.heap.size w W3) := by rw [← hW3]; exact B_2.out.alloc B_2.out.size _
            have HLq : Hid (w.heap.size ≤ q) := by have := B_2.out.size; unfold Hid; omega
            have HW3 := Lib.hid hW3
            have HAq := Lib.hid hq
            clear hW3 hq
            clear Kp_2 B_2
            go_upto_region 5 with fail
            (try rw [HW3.out])
            (try rw [HAq.out])
            have cp0 : W3.cell? ⟨p, 0, none⟩ = some (.bool false) := Kp_3.out.cell 0
            have cp1 : W3.cell? ⟨p, 1, none⟩ = some (.bool false) := Kp_3.out.cell 1
            have cp2 : W3.cell? ⟨p, 2, none⟩ = some (.bool c) := Kp_3.out.cell 2
            have cp3 : W3.cell? ⟨p, 3, none⟩ = some (.bool d) := Kp_3.out.cell 3
            have cp4 : W3.cell? ⟨p, 4, none⟩ = some (.bool true) := Kp_3.out.cell 4
            go_region
            clear cp0 cp1 cp2 cp3 cp4
            obtain ⟨W4, hW4⟩ : ∃ z, W3.drew = z := ⟨_, rfl⟩
            have Kp_4 : Hid (Bk W4 p 23 #[.bool false, .bool false, .bool c, .bool d, .bool true]) := by rw [← hW4]; exact Kp_3.out.drew
            have Kq_4 : Hid (Bk W4 q 23 #[.bool false, .bool true, .bool x2, .bool x3, .bool x4]) := by rw [← hW4]; exact Kq_3.out.drew
            have B_4 : Hid (Below w.heap.size w W4) := by rw [← hW4]; exact B_3.out.drew
            rw [hW4]
            clear hW4
            clear Kp_3 Kq_3 B_3
            have HIN : Hid (∀ W, Calls Try.prog 17 #[.agg #[.string ⟨#[97, 64, 98]⟩, .string ⟨#[110]⟩, .slice none 0 0, .int .i64 0, .bool false, .bool false], .agg #[.bool false, .bool true, .bool x2, .bool x3, .bool x4]] W fun e w' => ∃ iA cap, e = .returned (.agg #[.string ⟨#[97, 64, 98]⟩, .string ⟨#[110]⟩, .slice iA 0 cap, .int .i64 2, .bool x2, .bool x4]) ∧ Below W.heap.size W w') := fun W => by
              refine (into_any ⟨[97, 64, 98], [110], [], 0, false, false⟩ (.slice none 0 0) ⟨false, true, x2, x3, x4⟩ W (ReadT.nil _ _ _) (by decide)).mono ?_
              rintro e w' ⟨gv', he, ho, hb⟩
              obtain ⟨A, cap, hv⟩ := ho.slice
              subst hv
              exact ⟨A, cap, by rw [he]; rfl, hb⟩
            have cp0 : W4.cell? ⟨p, 0, none⟩ = some (.bool false) := Kp_4.out.cell 0
            have cp1 : W4.cell? ⟨p, 1, none⟩ = some (.bool false) := Kp_4.out.cell 1
            have cp2 : W4.cell? ⟨p, 2, none⟩ = some (.bool c) := Kp_4.out.cell 2
            have cp3 : W4.cell? ⟨p, 3, none⟩ = some (.bool d) := Kp_4.out.cell 3
            have cp4 : W4.cell? ⟨p, 4, none⟩ = some (.bool true) := Kp_4.out.cell 4
            have cq0 : W4.cell? ⟨q, 0, none⟩ = some (.bool false) := Kq_4.out.cell 0
            have cq1 : W4.cell? ⟨q, 1, none⟩ = some (.bool true) := Kq_4.out.cell 1
            have cq2 : W4.cell? ⟨q, 2, none⟩ = some (.bool x2) := Kq_4.out.cell 2
            have cq3 : W4.cell? ⟨q, 3, none⟩ = some (.bool x3) := Kq_4.out.cell 3
            have cq4 : W4.cell? ⟨q, 4, none⟩ = some (.bool x4) := Kq_4.out.cell 4
            go_wp2_with fail
            refine (HIN.out _).mono ?_
            rintro e v4 ⟨iA, icap, rfl, b4⟩
            clear cp0 cp1 cp2 cp3 cp4 cq0 cq1 cq2 cq3 cq4
            have Kp_5 : Hid (Bk v4 p 23 #[.bool false, .bool false, .bool c, .bool d, .bool true]) := Kp_4.out.below b4 Kp_4.out.lt
            have Kq_5 : Hid (Bk v4 q 23 #[.bool false, .bool true, .bool x2, .bool x3, .bool x4]) := Kq_4.out.below b4 Kq_4.out.lt
            have B_5 : Hid (Below w.heap.size w v4) := B_4.out.trans (b4.mono B_4.out.size)
            clear Kp_4 Kq_4 B_4
            clear b4
            obtain ⟨W6, hW6⟩ : ∃ W, v4.alloc (.cells #[.string ⟨#[97, 64, 98]⟩, .string ⟨#[110]⟩, .slice iA 0 icap, .int .i64 2, .bool x2, .bool x4] 26) = W := ⟨_, rfl⟩
            obtain ⟨u, hu⟩ : ∃ g, v4.heap.size = g := ⟨_, rfl⟩
            have Kp_6 : Hid (Bk W6 p 23 #[.bool false, .bool false, .bool c, .bool d, .bool true]) := by rw [← hW6]; exact Kp_5.out.alloc _
            have HNpu : Hid (p < u) := by have := Kp_5.out.lt; unfold Hid; omega
            have Kq_6 : Hid (Bk W6 q 23 #[.bool false, .bool true, .bool x2, .bool x3, .bool x4]) := by rw [← hW6]; exact Kq_5.out.alloc _
            have HNqu : Hid (q < u) := by have := Kq_5.out.lt; unfold Hid; omega
            have Ku_6 : Hid (Bk W6 u 26 #[.string ⟨#[97, 64, 98]⟩, .string ⟨#[110]⟩, .slice iA 0 icap, .int .i64 2, .bool x2, .bool x4]) := by rw [← hW6, ← hu]; exact Bk.new _ _ _
            have B_6 : Hid (Below w.heap.size w W6) := by rw [← hW6]; exact B_5.out.alloc B_5.out.size _
            have HLu : Hid (w.heap.size ≤ u) := by have := B_5.out.size; unfold Hid; omega
            have HW6 := Lib.hid hW6
            have HAu := Lib.hid hu
            clear hW6 hu
            clear Kp_5 Kq_5 B_5
            go_upto_region 20 with fail
            (try rw [HW6.out])
            (try rw [HAu.out])
            go_wp2_with fail
            refine (HAW.out W6).mono ?_
            rintro e v6 ⟨rfl, b6⟩
            have KU := Ku_6.out.below b6 Ku_6.out.lt
            have Kp_7 : Hid (Bk v6 p 23 #[.bool false, .bool false, .bool c, .bool d, .bool true]) := Kp_6.out.below b6 Kp_6.out.lt
            have Kq_7 : Hid (Bk v6 q 23 #[.bool false, .bool true, .bool x2, .bool x3, .bool x4]) := Kq_6.out.below b6 Kq_6.out.lt
            have B_7 : Hid (Below w.heap.size w v6) := B_6.out.trans (b6.mono B_6.out.size)
            clear Kp_6 Kq_6 B_6
            clear b6
            have cq0 : v6.cell? ⟨q, 0, none⟩ = some (.bool false) := Kq_7.out.cell 0
            have cq1 : v6.cell? ⟨q, 1, none⟩ = some (.bool true) := Kq_7.out.cell 1
            have cq2 : v6.cell? ⟨q, 2, none⟩ = some (.bool x2) := Kq_7.out.cell 2
            have cq3 : v6.cell? ⟨q, 3, none⟩ = some (.bool x3) := Kq_7.out.cell 3
            have cq4 : v6.cell? ⟨q, 4, none⟩ = some (.bool x4) := Kq_7.out.cell 4
            have y0 : v6.cell? ⟨u, 0, none⟩ = some (.string ⟨#[97, 64, 98]⟩) := KU.cell 0
            have y1 : v6.cell? ⟨u, 1, none⟩ = some (.string ⟨#[110]⟩) := KU.cell 1
            have y2 : v6.cell? ⟨u, 2, none⟩ = some (.slice iA 0 icap) := KU.cell 2
            have y3 : v6.cell? ⟨u, 3, none⟩ = some (.int .i64 2) := KU.cell 3
            have y4 : v6.cell? ⟨u, 4, none⟩ = some (.bool x2) := KU.cell 4
            have y5 : v6.cell? ⟨u, 5, none⟩ = some (.bool x4) := KU.cell 5
            have ht : ((⟨#[110]⟩ : ByteArray).toList == (⟨#[110]⟩ : ByteArray).toList) = true := by simp
            clear KU
            go_wp2_with fail
            go_ret
            exact ⟨rfl, B_7.out⟩
        | true =>
          have hp : ∀ c d f : Bool, rightM ⟨false, true, c, d, f⟩ = true → (stepM ⟨false, true, c, d, f⟩ 5).to = false ∧ (stepM ⟨false, true, c, d, f⟩ 5).fr = true := by decide
          obtain ⟨h0, h1⟩ := hp c d f HR.out
          clear hp
          obtain ⟨⟨x0, x1, x2, x3, x4⟩, hA⟩ : ∃ A, stepM ⟨false, true, c, d, f⟩ 5 = A := ⟨_, rfl⟩
          rw [hA] at h0 h1
          simp only at h0 h1
          obtain rfl := h0.symm
          obtain rfl := h1.symm
          have HA := Lib.hid hA
          clear hA
          have cp0 : v0.cell? ⟨p, 0, none⟩ = some (.bool false) := Kp_1.out.cell 0
          have cp1 : v0.cell? ⟨p, 1, none⟩ = some (.bool true) := Kp_1.out.cell 1
          have cp2 : v0.cell? ⟨p, 2, none⟩ = some (.bool c) := Kp_1.out.cell 2
          have cp3 : v0.cell? ⟨p, 3, none⟩ = some (.bool d) := Kp_1.out.cell 3
          have cp4 : v0.cell? ⟨p, 4, none⟩ = some (.bool f) := Kp_1.out.cell 4
          obtain ⟨r1, hr1⟩ : ∃ r, (!decide ((⟨false, true, x2, x3, x4⟩ : Mod) = ⟨false, true, c, d, f⟩)) = r := ⟨_, rfl⟩
          have HS1 := Lib.hid (step_at ⟨false, true, c, d, f⟩ ⟨false, true, x2, x3, x4⟩ (5) r1 (HA.out) hr1 v0)
          clear hr1
          go_wp2_with fail
          refine HS1.out.mono ?_
          rintro e v1 ⟨rfl, b1⟩
          clear cp0 cp1 cp2 cp3 cp4
          have Kp_2 : Hid (Bk v1 p 23 #[.bool false, .bool true, .bool c, .bool d, .bool f]) := Kp_1.out.below b1 Kp_1.out.lt
          have B_2 : Hid (Below w.heap.size w v1) := B_1.out.trans (b1.mono B_1.out.size)
          clear Kp_1 B_1
          clear b1
          obtain ⟨W3, hW3⟩ : ∃ W, v1.alloc (.cells #[.bool false, .bool true, .bool x2, .bool x3, .bool x4] 23) = W := ⟨_, rfl⟩
          obtain ⟨q, hq⟩ : ∃ g, v1.heap.size = g := ⟨_, rfl⟩
          have Kp_3 : Hid (Bk W3 p 23 #[.bool false, .bool true, .bool c, .bool d, .bool f]) := by rw [← hW3]; exact Kp_2.out.alloc _
          have HNpq : Hid (p < q) := by have := Kp_2.out.lt; unfold Hid; omega
          have Kq_3 : Hid (Bk W3 q 23 #[.bool false, .bool true, .bool x2, .bool x3, .bool x4]) := by rw [← hW3, ← hq]; exact Bk.new _ _ _
          have B_3 : Hid (Below w.heap.size w W3) := by rw [← hW3]; exact B_2.out.alloc B_2.out.size _
          have HLq : Hid (w.heap.size ≤ q) := by have := B_2.out.size; unfold Hid; omega
          have HW3 := Lib.hid hW3
          have HAq := Lib.hid hq
          clear hW3 hq
          clear Kp_2 B_2
          go_upto_region 5 with fail
          (try rw [HW3.out])
          (try rw [HAq.out])
          have cp0 : W3.cell? ⟨p, 0, none⟩ = some (.bool false) := Kp_3.out.cell 0
          have cp1 : W3.cell? ⟨p, 1, none⟩ = some (.bool true) := Kp_3.out.cell 1
          have cp2 : W3.cell? ⟨p, 2, none⟩ = some (.bool c) := Kp_3.out.cell 2
          have cp3 : W3.cell? ⟨p, 3, none⟩ = some (.bool d) := Kp_3.out.cell 3
          have cp4 : W3.cell? ⟨p, 4, none⟩ = some (.bool f) := Kp_3.out.cell 4
          go_region
          clear cp0 cp1 cp2 cp3 cp4
          obtain ⟨W4, hW4⟩ : ∃ z, W3.drew = z := ⟨_, rfl⟩
          have Kp_4 : Hid (Bk W4 p 23 #[.bool false, .bool true, .bool c, .bool d, .bool f]) := by rw [← hW4]; exact Kp_3.out.drew
          have Kq_4 : Hid (Bk W4 q 23 #[.bool false, .bool true, .bool x2, .bool x3, .bool x4]) := by rw [← hW4]; exact Kq_3.out.drew
          have B_4 : Hid (Below w.heap.size w W4) := by rw [← hW4]; exact B_3.out.drew
          rw [hW4]
          clear hW4
          clear Kp_3 Kq_3 B_3
          have HIN : Hid (∀ W, Calls Try.prog 17 #[.agg #[.string ⟨#[97, 64, 98]⟩, .string ⟨#[110]⟩, .slice none 0 0, .int .i64 0, .bool false, .bool false], .agg #[.bool false, .bool true, .bool x2, .bool x3, .bool x4]] W fun e w' => ∃ iA cap, e = .returned (.agg #[.string ⟨#[97, 64, 98]⟩, .string ⟨#[110]⟩, .slice iA 0 cap, .int .i64 2, .bool x2, .bool x4]) ∧ Below W.heap.size W w') := fun W => by
            refine (into_any ⟨[97, 64, 98], [110], [], 0, false, false⟩ (.slice none 0 0) ⟨false, true, x2, x3, x4⟩ W (ReadT.nil _ _ _) (by decide)).mono ?_
            rintro e w' ⟨gv', he, ho, hb⟩
            obtain ⟨A, cap, hv⟩ := ho.slice
            subst hv
            exact ⟨A, cap, by rw [he]; rfl, hb⟩
          have cp0 : W4.cell? ⟨p, 0, none⟩ = some (.bool false) := Kp_4.out.cell 0
          have cp1 : W4.cell? ⟨p, 1, none⟩ = some (.bool true) := Kp_4.out.cell 1
          have cp2 : W4.cell? ⟨p, 2, none⟩ = some (.bool c) := Kp_4.out.cell 2
          have cp3 : W4.cell? ⟨p, 3, none⟩ = some (.bool d) := Kp_4.out.cell 3
          have cp4 : W4.cell? ⟨p, 4, none⟩ = some (.bool f) := Kp_4.out.cell 4
          have cq0 : W4.cell? ⟨q, 0, none⟩ = some (.bool false) := Kq_4.out.cell 0
          have cq1 : W4.cell? ⟨q, 1, none⟩ = some (.bool true) := Kq_4.out.cell 1
          have cq2 : W4.cell? ⟨q, 2, none⟩ = some (.bool x2) := Kq_4.out.cell 2
          have cq3 : W4.cell? ⟨q, 3, none⟩ = some (.bool x3) := Kq_4.out.cell 3
          have cq4 : W4.cell? ⟨q, 4, none⟩ = some (.bool x4) := Kq_4.out.cell 4
          go_wp2_with fail
          refine (HIN.out _).mono ?_
          rintro e v4 ⟨iA, icap, rfl, b4⟩
          clear cp0 cp1 cp2 cp3 cp4 cq0 cq1 cq2 cq3 cq4
          have Kp_5 : Hid (Bk v4 p 23 #[.bool false, .bool true, .bool c, .bool d, .bool f]) := Kp_4.out.below b4 Kp_4.out.lt
          have Kq_5 : Hid (Bk v4 q 23 #[.bool false, .bool true, .bool x2, .bool x3, .bool x4]) := Kq_4.out.below b4 Kq_4.out.lt
          have B_5 : Hid (Below w.heap.size w v4) := B_4.out.trans (b4.mono B_4.out.size)
          clear Kp_4 Kq_4 B_4
          clear b4
          obtain ⟨W6, hW6⟩ : ∃ W, v4.alloc (.cells #[.string ⟨#[97, 64, 98]⟩, .string ⟨#[110]⟩, .slice iA 0 icap, .int .i64 2, .bool x2, .bool x4] 26) = W := ⟨_, rfl⟩
          obtain ⟨u, hu⟩ : ∃ g, v4.heap.size = g := ⟨_, rfl⟩
          have Kp_6 : Hid (Bk W6 p 23 #[.bool false, .bool true, .bool c, .bool d, .bool f]) := by rw [← hW6]; exact Kp_5.out.alloc _
          have HNpu : Hid (p < u) := by have := Kp_5.out.lt; unfold Hid; omega
          have Kq_6 : Hid (Bk W6 q 23 #[.bool false, .bool true, .bool x2, .bool x3, .bool x4]) := by rw [← hW6]; exact Kq_5.out.alloc _
          have HNqu : Hid (q < u) := by have := Kq_5.out.lt; unfold Hid; omega
          have Ku_6 : Hid (Bk W6 u 26 #[.string ⟨#[97, 64, 98]⟩, .string ⟨#[110]⟩, .slice iA 0 icap, .int .i64 2, .bool x2, .bool x4]) := by rw [← hW6, ← hu]; exact Bk.new _ _ _
          have B_6 : Hid (Below w.heap.size w W6) := by rw [← hW6]; exact B_5.out.alloc B_5.out.size _
          have HLu : Hid (w.heap.size ≤ u) := by have := B_5.out.size; unfold Hid; omega
          have HW6 := Lib.hid hW6
          have HAu := Lib.hid hu
          clear hW6 hu
          clear Kp_5 Kq_5 B_5
          go_upto_region 20 with fail
          (try rw [HW6.out])
          (try rw [HAu.out])
          go_wp2_with fail
          refine (HAW.out W6).mono ?_
          rintro e v6 ⟨rfl, b6⟩
          have KU := Ku_6.out.below b6 Ku_6.out.lt
          have Kp_7 : Hid (Bk v6 p 23 #[.bool false, .bool true, .bool c, .bool d, .bool f]) := Kp_6.out.below b6 Kp_6.out.lt
          have Kq_7 : Hid (Bk v6 q 23 #[.bool false, .bool true, .bool x2, .bool x3, .bool x4]) := Kq_6.out.below b6 Kq_6.out.lt
          have B_7 : Hid (Below w.heap.size w v6) := B_6.out.trans (b6.mono B_6.out.size)
          clear Kp_6 Kq_6 B_6
          clear b6
          have cq0 : v6.cell? ⟨q, 0, none⟩ = some (.bool false) := Kq_7.out.cell 0
          have cq1 : v6.cell? ⟨q, 1, none⟩ = some (.bool true) := Kq_7.out.cell 1
          have cq2 : v6.cell? ⟨q, 2, none⟩ = some (.bool x2) := Kq_7.out.cell 2
          have cq3 : v6.cell? ⟨q, 3, none⟩ = some (.bool x3) := Kq_7.out.cell 3
          have cq4 : v6.cell? ⟨q, 4, none⟩ = some (.bool x4) := Kq_7.out.cell 4
          have y0 : v6.cell? ⟨u, 0, none⟩ = some (.string ⟨#[97, 64, 98]⟩) := KU.cell 0
          have y1 : v6.cell? ⟨u, 1, none⟩ = some (.string ⟨#[110]⟩) := KU.cell 1
          have y2 : v6.cell? ⟨u, 2, none⟩ = some (.slice iA 0 icap) := KU.cell 2
          have y3 : v6.cell? ⟨u, 3, none⟩ = some (.int .i64 2) := KU.cell 3
          have y4 : v6.cell? ⟨u, 4, none⟩ = some (.bool x2) := KU.cell 4
          have y5 : v6.cell? ⟨u, 5, none⟩ = some (.bool x4) := KU.cell 5
          have ht : ((⟨#[110]⟩ : ByteArray).toList == (⟨#[110]⟩ : ByteArray).toList) = true := by simp
          clear KU
          go_wp2_with fail
          go_ret
          exact ⟨rfl, B_7.out⟩
      | true =>
        cases b with
        | false =>
          cases f with
          | false =>
            have hp : ∀ c d : Bool, rightM ⟨true, false, c, d, false⟩ = true → (stepM ⟨true, false, c, d, false⟩ 5).to = true ∧ (stepM ⟨true, false, c, d, false⟩ 5).fr = false := by decide
            obtain ⟨h0, h1⟩ := hp c d HR.out
            clear hp
            obtain ⟨⟨x0, x1, x2, x3, x4⟩, hA⟩ : ∃ A, stepM ⟨true, false, c, d, false⟩ 5 = A := ⟨_, rfl⟩
            rw [hA] at h0 h1
            simp only at h0 h1
            obtain rfl := h0.symm
            obtain rfl := h1.symm
            have HA := Lib.hid hA
            clear hA
            have cp0 : v0.cell? ⟨p, 0, none⟩ = some (.bool true) := Kp_1.out.cell 0
            have cp1 : v0.cell? ⟨p, 1, none⟩ = some (.bool false) := Kp_1.out.cell 1
            have cp2 : v0.cell? ⟨p, 2, none⟩ = some (.bool c) := Kp_1.out.cell 2
            have cp3 : v0.cell? ⟨p, 3, none⟩ = some (.bool d) := Kp_1.out.cell 3
            have cp4 : v0.cell? ⟨p, 4, none⟩ = some (.bool false) := Kp_1.out.cell 4
            obtain ⟨r1, hr1⟩ : ∃ r, (!decide ((⟨true, false, x2, x3, x4⟩ : Mod) = ⟨true, false, c, d, false⟩)) = r := ⟨_, rfl⟩
            have HS1 := Lib.hid (step_at ⟨true, false, c, d, false⟩ ⟨true, false, x2, x3, x4⟩ (5) r1 (HA.out) hr1 v0)
            clear hr1
            go_wp2_with fail
            refine HS1.out.mono ?_
            rintro e v1 ⟨rfl, b1⟩
            clear cp0 cp1 cp2 cp3 cp4
            have Kp_2 : Hid (Bk v1 p 23 #[.bool true, .bool false, .bool c, .bool d, .bool false]) := Kp_1.out.below b1 Kp_1.out.lt
            have B_2 : Hid (Below w.heap.size w v1) := B_1.out.trans (b1.mono B_1.out.size)
            clear Kp_1 B_1
            clear b1
            obtain ⟨W3, hW3⟩ : ∃ W, v1.alloc (.cells #[.bool true, .bool false, .bool x2, .bool x3, .bool x4] 23) = W := ⟨_, rfl⟩
            obtain ⟨q, hq⟩ : ∃ g, v1.heap.size = g := ⟨_, rfl⟩
            have Kp_3 : Hid (Bk W3 p 23 #[.bool true, .bool false, .bool c, .bool d, .bool false]) := by rw [← hW3]; exact Kp_2.out.alloc _
            have HNpq : Hid (p < q) := by have := Kp_2.out.lt; unfold Hid; omega
            have Kq_3 : Hid (Bk W3 q 23 #[.bool true, .bool false, .bool x2, .bool x3, .bool x4]) := by rw [← hW3, ← hq]; exact Bk.new _ _ _
            have B_3 : Hid (Below w.heap.size w W3) := by rw [← hW3]; exact B_2.out.alloc B_2.out.size _
            have HLq : Hid (w.heap.size ≤ q) := by have := B_2.out.size; unfold Hid; omega
            have HW3 := Lib.hid hW3
            have HAq := Lib.hid hq
            clear hW3 hq
            clear Kp_2 B_2
            go_upto_region 5 with fail
            (try rw [HW3.out])
            (try rw [HAq.out])
            have cp0 : W3.cell? ⟨p, 0, none⟩ = some (.bool true) := Kp_3.out.cell 0
            have cp1 : W3.cell? ⟨p, 1, none⟩ = some (.bool false) := Kp_3.out.cell 1
            have cp2 : W3.cell? ⟨p, 2, none⟩ = some (.bool c) := Kp_3.out.cell 2
            have cp3 : W3.cell? ⟨p, 3, none⟩ = some (.bool d) := Kp_3.out.cell 3
            have cp4 : W3.cell? ⟨p, 4, none⟩ = some (.bool false) := Kp_3.out.cell 4
            go_region
            clear cp0 cp1 cp2 cp3 cp4
            obtain ⟨W4, hW4⟩ : ∃ z, W3.drew = z := ⟨_, rfl⟩
            have Kp_4 : Hid (Bk W4 p 23 #[.bool true, .bool false, .bool c, .bool d, .bool false]) := by rw [← hW4]; exact Kp_3.out.drew
            have Kq_4 : Hid (Bk W4 q 23 #[.bool true, .bool false, .bool x2, .bool x3, .bool x4]) := by rw [← hW4]; exact Kq_3.out.drew
            have B_4 : Hid (Below w.heap.size w W4) := by rw [← hW4]; exact B_3.out.drew
            rw [hW4]
            clear hW4
            clear Kp_3 Kq_3 B_3
            have HIN : Hid (∀ W, Calls Try.prog 17 #[.agg #[.string ⟨#[97, 64, 98]⟩, .string ⟨#[110]⟩, .slice none 0 0, .int .i64 0, .bool false, .bool false], .agg #[.bool true, .bool false, .bool x2, .bool x3, .bool x4]] W fun e w' => ∃ iA cap, e = .returned (.agg #[.string ⟨#[97, 64, 98]⟩, .string ⟨#[110]⟩, .slice iA 0 cap, .int .i64 1, .bool x2, .bool x4]) ∧ Below W.heap.size W w') := fun W => by
              refine (into_any ⟨[97, 64, 98], [110], [], 0, false, false⟩ (.slice none 0 0) ⟨true, false, x2, x3, x4⟩ W (ReadT.nil _ _ _) (by decide)).mono ?_
              rintro e w' ⟨gv', he, ho, hb⟩
              obtain ⟨A, cap, hv⟩ := ho.slice
              subst hv
              exact ⟨A, cap, by rw [he]; rfl, hb⟩
            have cp0 : W4.cell? ⟨p, 0, none⟩ = some (.bool true) := Kp_4.out.cell 0
            have cp1 : W4.cell? ⟨p, 1, none⟩ = some (.bool false) := Kp_4.out.cell 1
            have cp2 : W4.cell? ⟨p, 2, none⟩ = some (.bool c) := Kp_4.out.cell 2
            have cp3 : W4.cell? ⟨p, 3, none⟩ = some (.bool d) := Kp_4.out.cell 3
            have cp4 : W4.cell? ⟨p, 4, none⟩ = some (.bool false) := Kp_4.out.cell 4
            have cq0 : W4.cell? ⟨q, 0, none⟩ = some (.bool true) := Kq_4.out.cell 0
            have cq1 : W4.cell? ⟨q, 1, none⟩ = some (.bool false) := Kq_4.out.cell 1
            have cq2 : W4.cell? ⟨q, 2, none⟩ = some (.bool x2) := Kq_4.out.cell 2
            have cq3 : W4.cell? ⟨q, 3, none⟩ = some (.bool x3) := Kq_4.out.cell 3
            have cq4 : W4.cell? ⟨q, 4, none⟩ = some (.bool x4) := Kq_4.out.cell 4
            go_wp2_with fail
            refine (HIN.out _).mono ?_
            rintro e v4 ⟨iA, icap, rfl, b4⟩
            clear cp0 cp1 cp2 cp3 cp4 cq0 cq1 cq2 cq3 cq4
            have Kp_5 : Hid (Bk v4 p 23 #[.bool true, .bool false, .bool c, .bool d, .bool false]) := Kp_4.out.below b4 Kp_4.out.lt
            have Kq_5 : Hid (Bk v4 q 23 #[.bool true, .bool false, .bool x2, .bool x3, .bool x4]) := Kq_4.out.below b4 Kq_4.out.lt
            have B_5 : Hid (Below w.heap.size w v4) := B_4.out.trans (b4.mono B_4.out.size)
            clear Kp_4 Kq_4 B_4
            clear b4
            obtain ⟨W6, hW6⟩ : ∃ W, v4.alloc (.cells #[.string ⟨#[97, 64, 98]⟩, .string ⟨#[110]⟩, .slice iA 0 icap, .int .i64 1, .bool x2, .bool x4] 26) = W := ⟨_, rfl⟩
            obtain ⟨u, hu⟩ : ∃ g, v4.heap.size = g := ⟨_, rfl⟩
            have Kp_6 : Hid (Bk W6 p 23 #[.bool true, .bool false, .bool c, .bool d, .bool false]) := by rw [← hW6]; exact Kp_5.out.alloc _
            have HNpu : Hid (p < u) := by have := Kp_5.out.lt; unfold Hid; omega
            have Kq_6 : Hid (Bk W6 q 23 #[.bool true, .bool false, .bool x2, .bool x3, .bool x4]) := by rw [← hW6]; exact Kq_5.out.alloc _
            have HNqu : Hid (q < u) := by have := Kq_5.out.lt; unfold Hid; omega
            have Ku_6 : Hid (Bk W6 u 26 #[.string ⟨#[97, 64, 98]⟩, .string ⟨#[110]⟩, .slice iA 0 icap, .int .i64 1, .bool x2, .bool x4]) := by rw [← hW6, ← hu]; exact Bk.new _ _ _
            have B_6 : Hid (Below w.heap.size w W6) := by rw [← hW6]; exact B_5.out.alloc B_5.out.size _
            have HLu : Hid (w.heap.size ≤ u) := by have := B_5.out.size; unfold Hid; omega
            have HW6 := Lib.hid hW6
            have HAu := Lib.hid hu
            clear hW6 hu
            clear Kp_5 Kq_5 B_5
            go_upto_region 20 with fail
            (try rw [HW6.out])
            (try rw [HAu.out])
            go_wp2_with fail
            refine (HAW.out W6).mono ?_
            rintro e v6 ⟨rfl, b6⟩
            have KU := Ku_6.out.below b6 Ku_6.out.lt
            have Kp_7 : Hid (Bk v6 p 23 #[.bool true, .bool false, .bool c, .bool d, .bool false]) := Kp_6.out.below b6 Kp_6.out.lt
            have Kq_7 : Hid (Bk v6 q 23 #[.bool true, .bool false, .bool x2, .bool x3, .bool x4]) := Kq_6.out.below b6 Kq_6.out.lt
            have B_7 : Hid (Below w.heap.size w v6) := B_6.out.trans (b6.mono B_6.out.size)
            clear Kp_6 Kq_6 B_6
            clear b6
            have cq0 : v6.cell? ⟨q, 0, none⟩ = some (.bool true) := Kq_7.out.cell 0
            have cq1 : v6.cell? ⟨q, 1, none⟩ = some (.bool false) := Kq_7.out.cell 1
            have cq2 : v6.cell? ⟨q, 2, none⟩ = some (.bool x2) := Kq_7.out.cell 2
            have cq3 : v6.cell? ⟨q, 3, none⟩ = some (.bool x3) := Kq_7.out.cell 3
            have cq4 : v6.cell? ⟨q, 4, none⟩ = some (.bool x4) := Kq_7.out.cell 4
            have y0 : v6.cell? ⟨u, 0, none⟩ = some (.string ⟨#[97, 64, 98]⟩) := KU.cell 0
            have y1 : v6.cell? ⟨u, 1, none⟩ = some (.string ⟨#[110]⟩) := KU.cell 1
            have y2 : v6.cell? ⟨u, 2, none⟩ = some (.slice iA 0 icap) := KU.cell 2
            have y3 : v6.cell? ⟨u, 3, none⟩ = some (.int .i64 1) := KU.cell 3
            have y4 : v6.cell? ⟨u, 4, none⟩ = some (.bool x2) := KU.cell 4
            have y5 : v6.cell? ⟨u, 5, none⟩ = some (.bool x4) := KU.cell 5
            have ht : ((⟨#[110]⟩ : ByteArray).toList == (⟨#[110]⟩ : ByteArray).toList) = true := by simp
            clear KU
            go_wp2_with fail
            go_ret
            exact ⟨rfl, B_7.out⟩
          | true =>
            have hp : ∀ c d : Bool, rightM ⟨true, false, c, d, true⟩ = true → (stepM ⟨true, false, c, d, true⟩ 5).to = true ∧ (stepM ⟨true, false, c, d, true⟩ 5).fr = true := by decide
            obtain ⟨h0, h1⟩ := hp c d HR.out
            clear hp
            obtain ⟨⟨x0, x1, x2, x3, x4⟩, hA⟩ : ∃ A, stepM ⟨true, false, c, d, true⟩ 5 = A := ⟨_, rfl⟩
            rw [hA] at h0 h1
            simp only at h0 h1
            obtain rfl := h0.symm
            obtain rfl := h1.symm
            have HA := Lib.hid hA
            clear hA
            have cp0 : v0.cell? ⟨p, 0, none⟩ = some (.bool true) := Kp_1.out.cell 0
            have cp1 : v0.cell? ⟨p, 1, none⟩ = some (.bool false) := Kp_1.out.cell 1
            have cp2 : v0.cell? ⟨p, 2, none⟩ = some (.bool c) := Kp_1.out.cell 2
            have cp3 : v0.cell? ⟨p, 3, none⟩ = some (.bool d) := Kp_1.out.cell 3
            have cp4 : v0.cell? ⟨p, 4, none⟩ = some (.bool true) := Kp_1.out.cell 4
            obtain ⟨r1, hr1⟩ : ∃ r, (!decide ((⟨true, true, x2, x3, x4⟩ : Mod) = ⟨true, false, c, d, true⟩)) = r := ⟨_, rfl⟩
            have HS1 := Lib.hid (step_at ⟨true, false, c, d, true⟩ ⟨true, true, x2, x3, x4⟩ (5) r1 (HA.out) hr1 v0)
            clear hr1
            go_wp2_with fail
            refine HS1.out.mono ?_
            rintro e v1 ⟨rfl, b1⟩
            clear cp0 cp1 cp2 cp3 cp4
            have Kp_2 : Hid (Bk v1 p 23 #[.bool true, .bool false, .bool c, .bool d, .bool true]) := Kp_1.out.below b1 Kp_1.out.lt
            have B_2 : Hid (Below w.heap.size w v1) := B_1.out.trans (b1.mono B_1.out.size)
            clear Kp_1 B_1
            clear b1
            obtain ⟨W3, hW3⟩ : ∃ W, v1.alloc (.cells #[.bool true, .bool true, .bool x2, .bool x3, .bool x4] 23) = W := ⟨_, rfl⟩
            obtain ⟨q, hq⟩ : ∃ g, v1.heap.size = g := ⟨_, rfl⟩
            have Kp_3 : Hid (Bk W3 p 23 #[.bool true, .bool false, .bool c, .bool d, .bool true]) := by rw [← hW3]; exact Kp_2.out.alloc _
            have HNpq : Hid (p < q) := by have := Kp_2.out.lt; unfold Hid; omega
            have Kq_3 : Hid (Bk W3 q 23 #[.bool true, .bool true, .bool x2, .bool x3, .bool x4]) := by rw [← hW3, ← hq]; exact Bk.new _ _ _
            have B_3 : Hid (Below w.heap.size w W3) := by rw [← hW3]; exact B_2.out.alloc B_2.out.size _
            have HLq : Hid (w.heap.size ≤ q) := by have := B_2.out.size; unfold Hid; omega
            have HW3 := Lib.hid hW3
            have HAq := Lib.hid hq
            clear hW3 hq
            clear Kp_2 B_2
            go_upto_region 5 with fail
            (try rw [HW3.out])
            (try rw [HAq.out])
            have cp0 : W3.cell? ⟨p, 0, none⟩ = some (.bool true) := Kp_3.out.cell 0
            have cp1 : W3.cell? ⟨p, 1, none⟩ = some (.bool false) := Kp_3.out.cell 1
            have cp2 : W3.cell? ⟨p, 2, none⟩ = some (.bool c) := Kp_3.out.cell 2
            have cp3 : W3.cell? ⟨p, 3, none⟩ = some (.bool d) := Kp_3.out.cell 3
            have cp4 : W3.cell? ⟨p, 4, none⟩ = some (.bool true) := Kp_3.out.cell 4
            go_region
            clear cp0 cp1 cp2 cp3 cp4
            obtain ⟨W4, hW4⟩ : ∃ z, W3.drew = z := ⟨_, rfl⟩
            have Kp_4 : Hid (Bk W4 p 23 #[.bool true, .bool false, .bool c, .bool d, .bool true]) := by rw [← hW4]; exact Kp_3.out.drew
            have Kq_4 : Hid (Bk W4 q 23 #[.bool true, .bool true, .bool x2, .bool x3, .bool x4]) := by rw [← hW4]; exact Kq_3.out.drew
            have B_4 : Hid (Below w.heap.size w W4) := by rw [← hW4]; exact B_3.out.drew
            rw [hW4]
            clear hW4
            clear Kp_3 Kq_3 B_3
            have HIN : Hid (∀ W, Calls Try.prog 17 #[.agg #[.string ⟨#[97, 64, 98]⟩, .string ⟨#[110]⟩, .slice none 0 0, .int .i64 0, .bool false, .bool false], .agg #[.bool true, .bool true, .bool x2, .bool x3, .bool x4]] W fun e w' => ∃ iA cap, e = .returned (.agg #[.string ⟨#[97, 64, 98]⟩, .string ⟨#[110]⟩, .slice iA 0 cap, .int .i64 3, .bool x2, .bool x4]) ∧ Below W.heap.size W w') := fun W => by
              refine (into_any ⟨[97, 64, 98], [110], [], 0, false, false⟩ (.slice none 0 0) ⟨true, true, x2, x3, x4⟩ W (ReadT.nil _ _ _) (by decide)).mono ?_
              rintro e w' ⟨gv', he, ho, hb⟩
              obtain ⟨A, cap, hv⟩ := ho.slice
              subst hv
              exact ⟨A, cap, by rw [he]; rfl, hb⟩
            have cp0 : W4.cell? ⟨p, 0, none⟩ = some (.bool true) := Kp_4.out.cell 0
            have cp1 : W4.cell? ⟨p, 1, none⟩ = some (.bool false) := Kp_4.out.cell 1
            have cp2 : W4.cell? ⟨p, 2, none⟩ = some (.bool c) := Kp_4.out.cell 2
            have cp3 : W4.cell? ⟨p, 3, none⟩ = some (.bool d) := Kp_4.out.cell 3
            have cp4 : W4.cell? ⟨p, 4, none⟩ = some (.bool true) := Kp_4.out.cell 4
            have cq0 : W4.cell? ⟨q, 0, none⟩ = some (.bool true) := Kq_4.out.cell 0
            have cq1 : W4.cell? ⟨q, 1, none⟩ = some (.bool true) := Kq_4.out.cell 1
            have cq2 : W4.cell? ⟨q, 2, none⟩ = some (.bool x2) := Kq_4.out.cell 2
            have cq3 : W4.cell? ⟨q, 3, none⟩ = some (.bool x3) := Kq_4.out.cell 3
            have cq4 : W4.cell? ⟨q, 4, none⟩ = some (.bool x4) := Kq_4.out.cell 4
            go_wp2_with fail
            refine (HIN.out _).mono ?_
            rintro e v4 ⟨iA, icap, rfl, b4⟩
            clear cp0 cp1 cp2 cp3 cp4 cq0 cq1 cq2 cq3 cq4
            have Kp_5 : Hid (Bk v4 p 23 #[.bool true, .bool false, .bool c, .bool d, .bool true]) := Kp_4.out.below b4 Kp_4.out.lt
            have Kq_5 : Hid (Bk v4 q 23 #[.bool true, .bool true, .bool x2, .bool x3, .bool x4]) := Kq_4.out.below b4 Kq_4.out.lt
            have B_5 : Hid (Below w.heap.size w v4) := B_4.out.trans (b4.mono B_4.out.size)
            clear Kp_4 Kq_4 B_4
            clear b4
            obtain ⟨W6, hW6⟩ : ∃ W, v4.alloc (.cells #[.string ⟨#[97, 64, 98]⟩, .string ⟨#[110]⟩, .slice iA 0 icap, .int .i64 3, .bool x2, .bool x4] 26) = W := ⟨_, rfl⟩
            obtain ⟨u, hu⟩ : ∃ g, v4.heap.size = g := ⟨_, rfl⟩
            have Kp_6 : Hid (Bk W6 p 23 #[.bool true, .bool false, .bool c, .bool d, .bool true]) := by rw [← hW6]; exact Kp_5.out.alloc _
            have HNpu : Hid (p < u) := by have := Kp_5.out.lt; unfold Hid; omega
            have Kq_6 : Hid (Bk W6 q 23 #[.bool true, .bool true, .bool x2, .bool x3, .bool x4]) := by rw [← hW6]; exact Kq_5.out.alloc _
            have HNqu : Hid (q < u) := by have := Kq_5.out.lt; unfold Hid; omega
            have Ku_6 : Hid (Bk W6 u 26 #[.string ⟨#[97, 64, 98]⟩, .string ⟨#[110]⟩, .slice iA 0 icap, .int .i64 3, .bool x2, .bool x4]) := by rw [← hW6, ← hu]; exact Bk.new _ _ _
            have B_6 : Hid (Below w.heap.size w W6) := by rw [← hW6]; exact B_5.out.alloc B_5.out.size _
            have HLu : Hid (w.heap.size ≤ u) := by have := B_5.out.size; unfold Hid; omega
            have HW6 := Lib.hid hW6
            have HAu := Lib.hid hu
            clear hW6 hu
            clear Kp_5 Kq_5 B_5
            go_upto_region 20 with fail
            (try rw [HW6.out])
            (try rw [HAu.out])
            go_wp2_with fail
            refine (HAW.out W6).mono ?_
            rintro e v6 ⟨rfl, b6⟩
            have KU := Ku_6.out.below b6 Ku_6.out.lt
            have Kp_7 : Hid (Bk v6 p 23 #[.bool true, .bool false, .bool c, .bool d, .bool true]) := Kp_6.out.below b6 Kp_6.out.lt
            have Kq_7 : Hid (Bk v6 q 23 #[.bool true, .bool true, .bool x2, .bool x3, .bool x4]) := Kq_6.out.below b6 Kq_6.out.lt
            have B_7 : Hid (Below w.heap.size w v6) := B_6.out.trans (b6.mono B_6.out.size)
            clear Kp_6 Kq_6 B_6
            clear b6
            have cq0 : v6.cell? ⟨q, 0, none⟩ = some (.bool true) := Kq_7.out.cell 0
            have cq1 : v6.cell? ⟨q, 1, none⟩ = some (.bool true) := Kq_7.out.cell 1
            have cq2 : v6.cell? ⟨q, 2, none⟩ = some (.bool x2) := Kq_7.out.cell 2
            have cq3 : v6.cell? ⟨q, 3, none⟩ = some (.bool x3) := Kq_7.out.cell 3
            have cq4 : v6.cell? ⟨q, 4, none⟩ = some (.bool x4) := Kq_7.out.cell 4
            have y0 : v6.cell? ⟨u, 0, none⟩ = some (.string ⟨#[97, 64, 98]⟩) := KU.cell 0
            have y1 : v6.cell? ⟨u, 1, none⟩ = some (.string ⟨#[110]⟩) := KU.cell 1
            have y2 : v6.cell? ⟨u, 2, none⟩ = some (.slice iA 0 icap) := KU.cell 2
            have y3 : v6.cell? ⟨u, 3, none⟩ = some (.int .i64 3) := KU.cell 3
            have y4 : v6.cell? ⟨u, 4, none⟩ = some (.bool x2) := KU.cell 4
            have y5 : v6.cell? ⟨u, 5, none⟩ = some (.bool x4) := KU.cell 5
            have ht : ((⟨#[110]⟩ : ByteArray).toList == (⟨#[110]⟩ : ByteArray).toList) = true := by simp
            clear KU
            go_wp2_with fail
            go_ret
            exact ⟨rfl, B_7.out⟩
        | true =>
          have hp : ∀ c d f : Bool, rightM ⟨true, true, c, d, f⟩ = true → (stepM ⟨true, true, c, d, f⟩ 5).to = true ∧ (stepM ⟨true, true, c, d, f⟩ 5).fr = true := by decide
          obtain ⟨h0, h1⟩ := hp c d f HR.out
          clear hp
          obtain ⟨⟨x0, x1, x2, x3, x4⟩, hA⟩ : ∃ A, stepM ⟨true, true, c, d, f⟩ 5 = A := ⟨_, rfl⟩
          rw [hA] at h0 h1
          simp only at h0 h1
          obtain rfl := h0.symm
          obtain rfl := h1.symm
          have HA := Lib.hid hA
          clear hA
          have cp0 : v0.cell? ⟨p, 0, none⟩ = some (.bool true) := Kp_1.out.cell 0
          have cp1 : v0.cell? ⟨p, 1, none⟩ = some (.bool true) := Kp_1.out.cell 1
          have cp2 : v0.cell? ⟨p, 2, none⟩ = some (.bool c) := Kp_1.out.cell 2
          have cp3 : v0.cell? ⟨p, 3, none⟩ = some (.bool d) := Kp_1.out.cell 3
          have cp4 : v0.cell? ⟨p, 4, none⟩ = some (.bool f) := Kp_1.out.cell 4
          obtain ⟨r1, hr1⟩ : ∃ r, (!decide ((⟨true, true, x2, x3, x4⟩ : Mod) = ⟨true, true, c, d, f⟩)) = r := ⟨_, rfl⟩
          have HS1 := Lib.hid (step_at ⟨true, true, c, d, f⟩ ⟨true, true, x2, x3, x4⟩ (5) r1 (HA.out) hr1 v0)
          clear hr1
          go_wp2_with fail
          refine HS1.out.mono ?_
          rintro e v1 ⟨rfl, b1⟩
          clear cp0 cp1 cp2 cp3 cp4
          have Kp_2 : Hid (Bk v1 p 23 #[.bool true, .bool true, .bool c, .bool d, .bool f]) := Kp_1.out.below b1 Kp_1.out.lt
          have B_2 : Hid (Below w.heap.size w v1) := B_1.out.trans (b1.mono B_1.out.size)
          clear Kp_1 B_1
          clear b1
          obtain ⟨W3, hW3⟩ : ∃ W, v1.alloc (.cells #[.bool true, .bool true, .bool x2, .bool x3, .bool x4] 23) = W := ⟨_, rfl⟩
          obtain ⟨q, hq⟩ : ∃ g, v1.heap.size = g := ⟨_, rfl⟩
          have Kp_3 : Hid (Bk W3 p 23 #[.bool true, .bool true, .bool c, .bool d, .bool f]) := by rw [← hW3]; exact Kp_2.out.alloc _
          have HNpq : Hid (p < q) := by have := Kp_2.out.lt; unfold Hid; omega
          have Kq_3 : Hid (Bk W3 q 23 #[.bool true, .bool true, .bool x2, .bool x3, .bool x4]) := by rw [← hW3, ← hq]; exact Bk.new _ _ _
          have B_3 : Hid (Below w.heap.size w W3) := by rw [← hW3]; exact B_2.out.alloc B_2.out.size _
          have HLq : Hid (w.heap.size ≤ q) := by have := B_2.out.size; unfold Hid; omega
          have HW3 := Lib.hid hW3
          have HAq := Lib.hid hq
          clear hW3 hq
          clear Kp_2 B_2
          go_upto_region 5 with fail
          (try rw [HW3.out])
          (try rw [HAq.out])
          have cp0 : W3.cell? ⟨p, 0, none⟩ = some (.bool true) := Kp_3.out.cell 0
          have cp1 : W3.cell? ⟨p, 1, none⟩ = some (.bool true) := Kp_3.out.cell 1
          have cp2 : W3.cell? ⟨p, 2, none⟩ = some (.bool c) := Kp_3.out.cell 2
          have cp3 : W3.cell? ⟨p, 3, none⟩ = some (.bool d) := Kp_3.out.cell 3
          have cp4 : W3.cell? ⟨p, 4, none⟩ = some (.bool f) := Kp_3.out.cell 4
          go_region
          clear cp0 cp1 cp2 cp3 cp4
          obtain ⟨W4, hW4⟩ : ∃ z, W3.drew = z := ⟨_, rfl⟩
          have Kp_4 : Hid (Bk W4 p 23 #[.bool true, .bool true, .bool c, .bool d, .bool f]) := by rw [← hW4]; exact Kp_3.out.drew
          have Kq_4 : Hid (Bk W4 q 23 #[.bool true, .bool true, .bool x2, .bool x3, .bool x4]) := by rw [← hW4]; exact Kq_3.out.drew
          have B_4 : Hid (Below w.heap.size w W4) := by rw [← hW4]; exact B_3.out.drew
          rw [hW4]
          clear hW4
          clear Kp_3 Kq_3 B_3
          have HIN : Hid (∀ W, Calls Try.prog 17 #[.agg #[.string ⟨#[97, 64, 98]⟩, .string ⟨#[110]⟩, .slice none 0 0, .int .i64 0, .bool false, .bool false], .agg #[.bool true, .bool true, .bool x2, .bool x3, .bool x4]] W fun e w' => ∃ iA cap, e = .returned (.agg #[.string ⟨#[97, 64, 98]⟩, .string ⟨#[110]⟩, .slice iA 0 cap, .int .i64 3, .bool x2, .bool x4]) ∧ Below W.heap.size W w') := fun W => by
            refine (into_any ⟨[97, 64, 98], [110], [], 0, false, false⟩ (.slice none 0 0) ⟨true, true, x2, x3, x4⟩ W (ReadT.nil _ _ _) (by decide)).mono ?_
            rintro e w' ⟨gv', he, ho, hb⟩
            obtain ⟨A, cap, hv⟩ := ho.slice
            subst hv
            exact ⟨A, cap, by rw [he]; rfl, hb⟩
          have cp0 : W4.cell? ⟨p, 0, none⟩ = some (.bool true) := Kp_4.out.cell 0
          have cp1 : W4.cell? ⟨p, 1, none⟩ = some (.bool true) := Kp_4.out.cell 1
          have cp2 : W4.cell? ⟨p, 2, none⟩ = some (.bool c) := Kp_4.out.cell 2
          have cp3 : W4.cell? ⟨p, 3, none⟩ = some (.bool d) := Kp_4.out.cell 3
          have cp4 : W4.cell? ⟨p, 4, none⟩ = some (.bool f) := Kp_4.out.cell 4
          have cq0 : W4.cell? ⟨q, 0, none⟩ = some (.bool true) := Kq_4.out.cell 0
          have cq1 : W4.cell? ⟨q, 1, none⟩ = some (.bool true) := Kq_4.out.cell 1
          have cq2 : W4.cell? ⟨q, 2, none⟩ = some (.bool x2) := Kq_4.out.cell 2
          have cq3 : W4.cell? ⟨q, 3, none⟩ = some (.bool x3) := Kq_4.out.cell 3
          have cq4 : W4.cell? ⟨q, 4, none⟩ = some (.bool x4) := Kq_4.out.cell 4
          go_wp2_with fail
          refine (HIN.out _).mono ?_
          rintro e v4 ⟨iA, icap, rfl, b4⟩
          clear cp0 cp1 cp2 cp3 cp4 cq0 cq1 cq2 cq3 cq4
          have Kp_5 : Hid (Bk v4 p 23 #[.bool true, .bool true, .bool c, .bool d, .bool f]) := Kp_4.out.below b4 Kp_4.out.lt
          have Kq_5 : Hid (Bk v4 q 23 #[.bool true, .bool true, .bool x2, .bool x3, .bool x4]) := Kq_4.out.below b4 Kq_4.out.lt
          have B_5 : Hid (Below w.heap.size w v4) := B_4.out.trans (b4.mono B_4.out.size)
          clear Kp_4 Kq_4 B_4
          clear b4
          obtain ⟨W6, hW6⟩ : ∃ W, v4.alloc (.cells #[.string ⟨#[97, 64, 98]⟩, .string ⟨#[110]⟩, .slice iA 0 icap, .int .i64 3, .bool x2, .bool x4] 26) = W := ⟨_, rfl⟩
          obtain ⟨u, hu⟩ : ∃ g, v4.heap.size = g := ⟨_, rfl⟩
          have Kp_6 : Hid (Bk W6 p 23 #[.bool true, .bool true, .bool c, .bool d, .bool f]) := by rw [← hW6]; exact Kp_5.out.alloc _
          have HNpu : Hid (p < u) := by have := Kp_5.out.lt; unfold Hid; omega
          have Kq_6 : Hid (Bk W6 q 23 #[.bool true, .bool true, .bool x2, .bool x3, .bool x4]) := by rw [← hW6]; exact Kq_5.out.alloc _
          have HNqu : Hid (q < u) := by have := Kq_5.out.lt; unfold Hid; omega
          have Ku_6 : Hid (Bk W6 u 26 #[.string ⟨#[97, 64, 98]⟩, .string ⟨#[110]⟩, .slice iA 0 icap, .int .i64 3, .bool x2, .bool x4]) := by rw [← hW6, ← hu]; exact Bk.new _ _ _
          have B_6 : Hid (Below w.heap.size w W6) := by rw [← hW6]; exact B_5.out.alloc B_5.out.size _
          have HLu : Hid (w.heap.size ≤ u) := by have := B_5.out.size; unfold Hid; omega
          have HW6 := Lib.hid hW6
          have HAu := Lib.hid hu
          clear hW6 hu
          clear Kp_5 Kq_5 B_5
          go_upto_region 20 with fail
          (try rw [HW6.out])
          (try rw [HAu.out])
          go_wp2_with fail
          refine (HAW.out W6).mono ?_
          rintro e v6 ⟨rfl, b6⟩
          have KU := Ku_6.out.below b6 Ku_6.out.lt
          have Kp_7 : Hid (Bk v6 p 23 #[.bool true, .bool true, .bool c, .bool d, .bool f]) := Kp_6.out.below b6 Kp_6.out.lt
          have Kq_7 : Hid (Bk v6 q 23 #[.bool true, .bool true, .bool x2, .bool x3, .bool x4]) := Kq_6.out.below b6 Kq_6.out.lt
          have B_7 : Hid (Below w.heap.size w v6) := B_6.out.trans (b6.mono B_6.out.size)
          clear Kp_6 Kq_6 B_6
          clear b6
          have cq0 : v6.cell? ⟨q, 0, none⟩ = some (.bool true) := Kq_7.out.cell 0
          have cq1 : v6.cell? ⟨q, 1, none⟩ = some (.bool true) := Kq_7.out.cell 1
          have cq2 : v6.cell? ⟨q, 2, none⟩ = some (.bool x2) := Kq_7.out.cell 2
          have cq3 : v6.cell? ⟨q, 3, none⟩ = some (.bool x3) := Kq_7.out.cell 3
          have cq4 : v6.cell? ⟨q, 4, none⟩ = some (.bool x4) := Kq_7.out.cell 4
          have y0 : v6.cell? ⟨u, 0, none⟩ = some (.string ⟨#[97, 64, 98]⟩) := KU.cell 0
          have y1 : v6.cell? ⟨u, 1, none⟩ = some (.string ⟨#[110]⟩) := KU.cell 1
          have y2 : v6.cell? ⟨u, 2, none⟩ = some (.slice iA 0 icap) := KU.cell 2
          have y3 : v6.cell? ⟨u, 3, none⟩ = some (.int .i64 3) := KU.cell 3
          have y4 : v6.cell? ⟨u, 4, none⟩ = some (.bool x2) := KU.cell 4
          have y5 : v6.cell? ⟨u, 5, none⟩ = some (.bool x4) := KU.cell 5
          have ht : ((⟨#[110]⟩ : ByteArray).toList == (⟨#[110]⟩ : ByteArray).toList) = true := by simp
          clear KU
          go_wp2_with fail
          go_ret
          exact ⟨rfl, B_7.out⟩
    · skip
      cases a with
      | false =>
        have hp : ∀ b c d f : Bool, rightM ⟨false, b, c, d, f⟩ = true → (stepM ⟨false, b, c, d, f⟩ 6).to = false ∧ (stepM ⟨false, b, c, d, f⟩ 6).fr = false := by decide
        obtain ⟨h0, h1⟩ := hp b c d f HR.out
        clear hp
        obtain ⟨⟨x0, x1, x2, x3, x4⟩, hA⟩ : ∃ A, stepM ⟨false, b, c, d, f⟩ 6 = A := ⟨_, rfl⟩
        rw [hA] at h0 h1
        simp only at h0 h1
        obtain rfl := h0.symm
        obtain rfl := h1.symm
        have HA := Lib.hid hA
        clear hA
        have cp0 : v0.cell? ⟨p, 0, none⟩ = some (.bool false) := Kp_1.out.cell 0
        have cp1 : v0.cell? ⟨p, 1, none⟩ = some (.bool b) := Kp_1.out.cell 1
        have cp2 : v0.cell? ⟨p, 2, none⟩ = some (.bool c) := Kp_1.out.cell 2
        have cp3 : v0.cell? ⟨p, 3, none⟩ = some (.bool d) := Kp_1.out.cell 3
        have cp4 : v0.cell? ⟨p, 4, none⟩ = some (.bool f) := Kp_1.out.cell 4
        obtain ⟨r1, hr1⟩ : ∃ r, (!decide ((⟨false, false, x2, x3, x4⟩ : Mod) = ⟨false, b, c, d, f⟩)) = r := ⟨_, rfl⟩
        have HS1 := Lib.hid (step_at ⟨false, b, c, d, f⟩ ⟨false, false, x2, x3, x4⟩ (6) r1 (HA.out) hr1 v0)
        clear hr1
        go_wp2_with fail
        refine HS1.out.mono ?_
        rintro e v1 ⟨rfl, b1⟩
        clear cp0 cp1 cp2 cp3 cp4
        have Kp_2 : Hid (Bk v1 p 23 #[.bool false, .bool b, .bool c, .bool d, .bool f]) := Kp_1.out.below b1 Kp_1.out.lt
        have B_2 : Hid (Below w.heap.size w v1) := B_1.out.trans (b1.mono B_1.out.size)
        clear Kp_1 B_1
        clear b1
        obtain ⟨W3, hW3⟩ : ∃ W, v1.alloc (.cells #[.bool false, .bool false, .bool x2, .bool x3, .bool x4] 23) = W := ⟨_, rfl⟩
        obtain ⟨q, hq⟩ : ∃ g, v1.heap.size = g := ⟨_, rfl⟩
        have Kp_3 : Hid (Bk W3 p 23 #[.bool false, .bool b, .bool c, .bool d, .bool f]) := by rw [← hW3]; exact Kp_2.out.alloc _
        have HNpq : Hid (p < q) := by have := Kp_2.out.lt; unfold Hid; omega
        have Kq_3 : Hid (Bk W3 q 23 #[.bool false, .bool false, .bool x2, .bool x3, .bool x4]) := by rw [← hW3, ← hq]; exact Bk.new _ _ _
        have B_3 : Hid (Below w.heap.size w W3) := by rw [← hW3]; exact B_2.out.alloc B_2.out.size _
        have HLq : Hid (w.heap.size ≤ q) := by have := B_2.out.size; unfold Hid; omega
        have HW3 := Lib.hid hW3
        have HAq := Lib.hid hq
        clear hW3 hq
        clear Kp_2 B_2
        go_upto_region 5 with fail
        (try rw [HW3.out])
        (try rw [HAq.out])
        have cp0 : W3.cell? ⟨p, 0, none⟩ = some (.bool false) := Kp_3.out.cell 0
        have cp1 : W3.cell? ⟨p, 1, none⟩ = some (.bool b) := Kp_3.out.cell 1
        have cp2 : W3.cell? ⟨p, 2, none⟩ = some (.bool c) := Kp_3.out.cell 2
        have cp3 : W3.cell? ⟨p, 3, none⟩ = some (.bool d) := Kp_3.out.cell 3
        have cp4 : W3.cell? ⟨p, 4, none⟩ = some (.bool f) := Kp_3.out.cell 4
        go_region
        clear cp0 cp1 cp2 cp3 cp4
        obtain ⟨W4, hW4⟩ : ∃ z, W3.drew = z := ⟨_, rfl⟩
        have Kp_4 : Hid (Bk W4 p 23 #[.bool false, .bool b, .bool c, .bool d, .bool f]) := by rw [← hW4]; exact Kp_3.out.drew
        have Kq_4 : Hid (Bk W4 q 23 #[.bool false, .bool false, .bool x2, .bool x3, .bool x4]) := by rw [← hW4]; exact Kq_3.out.drew
        have B_4 : Hid (Below w.heap.size w W4) := by rw [← hW4]; exact B_3.out.drew
        rw [hW4]
        clear hW4
        clear Kp_3 Kq_3 B_3
        have HIN : Hid (∀ W, Calls Try.prog 17 #[.agg #[.string ⟨#[97, 64, 98]⟩, .string ⟨#[110]⟩, .slice none 0 0, .int .i64 0, .bool false, .bool false], .agg #[.bool false, .bool false, .bool x2, .bool x3, .bool x4]] W fun e w' => ∃ iA cap, e = .returned (.agg #[.string ⟨#[97, 64, 98]⟩, .string ⟨#[110]⟩, .slice iA 0 cap, .int .i64 0, .bool x2, .bool x4]) ∧ Below W.heap.size W w') := fun W => by
          refine (into_any ⟨[97, 64, 98], [110], [], 0, false, false⟩ (.slice none 0 0) ⟨false, false, x2, x3, x4⟩ W (ReadT.nil _ _ _) (by decide)).mono ?_
          rintro e w' ⟨gv', he, ho, hb⟩
          obtain ⟨A, cap, hv⟩ := ho.slice
          subst hv
          exact ⟨A, cap, by rw [he]; rfl, hb⟩
        have cp0 : W4.cell? ⟨p, 0, none⟩ = some (.bool false) := Kp_4.out.cell 0
        have cp1 : W4.cell? ⟨p, 1, none⟩ = some (.bool b) := Kp_4.out.cell 1
        have cp2 : W4.cell? ⟨p, 2, none⟩ = some (.bool c) := Kp_4.out.cell 2
        have cp3 : W4.cell? ⟨p, 3, none⟩ = some (.bool d) := Kp_4.out.cell 3
        have cp4 : W4.cell? ⟨p, 4, none⟩ = some (.bool f) := Kp_4.out.cell 4
        have cq0 : W4.cell? ⟨q, 0, none⟩ = some (.bool false) := Kq_4.out.cell 0
        have cq1 : W4.cell? ⟨q, 1, none⟩ = some (.bool false) := Kq_4.out.cell 1
        have cq2 : W4.cell? ⟨q, 2, none⟩ = some (.bool x2) := Kq_4.out.cell 2
        have cq3 : W4.cell? ⟨q, 3, none⟩ = some (.bool x3) := Kq_4.out.cell 3
        have cq4 : W4.cell? ⟨q, 4, none⟩ = some (.bool x4) := Kq_4.out.cell 4
        go_wp2_with fail
        refine (HIN.out _).mono ?_
        rintro e v4 ⟨iA, icap, rfl, b4⟩
        clear cp0 cp1 cp2 cp3 cp4 cq0 cq1 cq2 cq3 cq4
        have Kp_5 : Hid (Bk v4 p 23 #[.bool false, .bool b, .bool c, .bool d, .bool f]) := Kp_4.out.below b4 Kp_4.out.lt
        have Kq_5 : Hid (Bk v4 q 23 #[.bool false, .bool false, .bool x2, .bool x3, .bool x4]) := Kq_4.out.below b4 Kq_4.out.lt
        have B_5 : Hid (Below w.heap.size w v4) := B_4.out.trans (b4.mono B_4.out.size)
        clear Kp_4 Kq_4 B_4
        clear b4
        obtain ⟨W6, hW6⟩ : ∃ W, v4.alloc (.cells #[.string ⟨#[97, 64, 98]⟩, .string ⟨#[110]⟩, .slice iA 0 icap, .int .i64 0, .bool x2, .bool x4] 26) = W := ⟨_, rfl⟩
        obtain ⟨u, hu⟩ : ∃ g, v4.heap.size = g := ⟨_, rfl⟩
        have Kp_6 : Hid (Bk W6 p 23 #[.bool false, .bool b, .bool c, .bool d, .bool f]) := by rw [← hW6]; exact Kp_5.out.alloc _
        have HNpu : Hid (p < u) := by have := Kp_5.out.lt; unfold Hid; omega
        have Kq_6 : Hid (Bk W6 q 23 #[.bool false, .bool false, .bool x2, .bool x3, .bool x4]) := by rw [← hW6]; exact Kq_5.out.alloc _
        have HNqu : Hid (q < u) := by have := Kq_5.out.lt; unfold Hid; omega
        have Ku_6 : Hid (Bk W6 u 26 #[.string ⟨#[97, 64, 98]⟩, .string ⟨#[110]⟩, .slice iA 0 icap, .int .i64 0, .bool x2, .bool x4]) := by rw [← hW6, ← hu]; exact Bk.new _ _ _
        have B_6 : Hid (Below w.heap.size w W6) := by rw [← hW6]; exact B_5.out.alloc B_5.out.size _
        have HLu : Hid (w.heap.size ≤ u) := by have := B_5.out.size; unfold Hid; omega
        have HW6 := Lib.hid hW6
        have HAu := Lib.hid hu
        clear hW6 hu
        clear Kp_5 Kq_5 B_5
        go_upto_region 20 with fail
        (try rw [HW6.out])
        (try rw [HAu.out])
        go_wp2_with fail
        refine (HAW.out W6).mono ?_
        rintro e v6 ⟨rfl, b6⟩
        have KU := Ku_6.out.below b6 Ku_6.out.lt
        have Kp_7 : Hid (Bk v6 p 23 #[.bool false, .bool b, .bool c, .bool d, .bool f]) := Kp_6.out.below b6 Kp_6.out.lt
        have Kq_7 : Hid (Bk v6 q 23 #[.bool false, .bool false, .bool x2, .bool x3, .bool x4]) := Kq_6.out.below b6 Kq_6.out.lt
        have B_7 : Hid (Below w.heap.size w v6) := B_6.out.trans (b6.mono B_6.out.size)
        clear Kp_6 Kq_6 B_6
        clear b6
        have cq0 : v6.cell? ⟨q, 0, none⟩ = some (.bool false) := Kq_7.out.cell 0
        have cq1 : v6.cell? ⟨q, 1, none⟩ = some (.bool false) := Kq_7.out.cell 1
        have cq2 : v6.cell? ⟨q, 2, none⟩ = some (.bool x2) := Kq_7.out.cell 2
        have cq3 : v6.cell? ⟨q, 3, none⟩ = some (.bool x3) := Kq_7.out.cell 3
        have cq4 : v6.cell? ⟨q, 4, none⟩ = some (.bool x4) := Kq_7.out.cell 4
        have y0 : v6.cell? ⟨u, 0, none⟩ = some (.string ⟨#[97, 64, 98]⟩) := KU.cell 0
        have y1 : v6.cell? ⟨u, 1, none⟩ = some (.string ⟨#[110]⟩) := KU.cell 1
        have y2 : v6.cell? ⟨u, 2, none⟩ = some (.slice iA 0 icap) := KU.cell 2
        have y3 : v6.cell? ⟨u, 3, none⟩ = some (.int .i64 0) := KU.cell 3
        have y4 : v6.cell? ⟨u, 4, none⟩ = some (.bool x2) := KU.cell 4
        have y5 : v6.cell? ⟨u, 5, none⟩ = some (.bool x4) := KU.cell 5
        have ht : ((⟨#[110]⟩ : ByteArray).toList == (⟨#[110]⟩ : ByteArray).toList) = true := by simp
        clear KU
        go_wp2_with fail
        go_ret
        exact ⟨rfl, B_7.out⟩
      | true =>
        have hp : ∀ b c d f : Bool, rightM ⟨true, b, c, d, f⟩ = true → (stepM ⟨true, b, c, d, f⟩ 6).to = true ∧ (stepM ⟨true, b, c, d, f⟩ 6).fr = false := by decide
        obtain ⟨h0, h1⟩ := hp b c d f HR.out
        clear hp
        obtain ⟨⟨x0, x1, x2, x3, x4⟩, hA⟩ : ∃ A, stepM ⟨true, b, c, d, f⟩ 6 = A := ⟨_, rfl⟩
        rw [hA] at h0 h1
        simp only at h0 h1
        obtain rfl := h0.symm
        obtain rfl := h1.symm
        have HA := Lib.hid hA
        clear hA
        have cp0 : v0.cell? ⟨p, 0, none⟩ = some (.bool true) := Kp_1.out.cell 0
        have cp1 : v0.cell? ⟨p, 1, none⟩ = some (.bool b) := Kp_1.out.cell 1
        have cp2 : v0.cell? ⟨p, 2, none⟩ = some (.bool c) := Kp_1.out.cell 2
        have cp3 : v0.cell? ⟨p, 3, none⟩ = some (.bool d) := Kp_1.out.cell 3
        have cp4 : v0.cell? ⟨p, 4, none⟩ = some (.bool f) := Kp_1.out.cell 4
        obtain ⟨r1, hr1⟩ : ∃ r, (!decide ((⟨true, false, x2, x3, x4⟩ : Mod) = ⟨true, b, c, d, f⟩)) = r := ⟨_, rfl⟩
        have HS1 := Lib.hid (step_at ⟨true, b, c, d, f⟩ ⟨true, false, x2, x3, x4⟩ (6) r1 (HA.out) hr1 v0)
        clear hr1
        go_wp2_with fail
        refine HS1.out.mono ?_
        rintro e v1 ⟨rfl, b1⟩
        clear cp0 cp1 cp2 cp3 cp4
        have Kp_2 : Hid (Bk v1 p 23 #[.bool true, .bool b, .bool c, .bool d, .bool f]) := Kp_1.out.below b1 Kp_1.out.lt
        have B_2 : Hid (Below w.heap.size w v1) := B_1.out.trans (b1.mono B_1.out.size)
        clear Kp_1 B_1
        clear b1
        obtain ⟨W3, hW3⟩ : ∃ W, v1.alloc (.cells #[.bool true, .bool false, .bool x2, .bool x3, .bool x4] 23) = W := ⟨_, rfl⟩
        obtain ⟨q, hq⟩ : ∃ g, v1.heap.size = g := ⟨_, rfl⟩
        have Kp_3 : Hid (Bk W3 p 23 #[.bool true, .bool b, .bool c, .bool d, .bool f]) := by rw [← hW3]; exact Kp_2.out.alloc _
        have HNpq : Hid (p < q) := by have := Kp_2.out.lt; unfold Hid; omega
        have Kq_3 : Hid (Bk W3 q 23 #[.bool true, .bool false, .bool x2, .bool x3, .bool x4]) := by rw [← hW3, ← hq]; exact Bk.new _ _ _
        have B_3 : Hid (Below w.heap.size w W3) := by rw [← hW3]; exact B_2.out.alloc B_2.out.size _
        have HLq : Hid (w.heap.size ≤ q) := by have := B_2.out.size; unfold Hid; omega
        have HW3 := Lib.hid hW3
        have HAq := Lib.hid hq
        clear hW3 hq
        clear Kp_2 B_2
        go_upto_region 5 with fail
        (try rw [HW3.out])
        (try rw [HAq.out])
        have cp0 : W3.cell? ⟨p, 0, none⟩ = some (.bool true) := Kp_3.out.cell 0
        have cp1 : W3.cell? ⟨p, 1, none⟩ = some (.bool b) := Kp_3.out.cell 1
        have cp2 : W3.cell? ⟨p, 2, none⟩ = some (.bool c) := Kp_3.out.cell 2
        have cp3 : W3.cell? ⟨p, 3, none⟩ = some (.bool d) := Kp_3.out.cell 3
        have cp4 : W3.cell? ⟨p, 4, none⟩ = some (.bool f) := Kp_3.out.cell 4
        go_region
        clear cp0 cp1 cp2 cp3 cp4
        obtain ⟨W4, hW4⟩ : ∃ z, W3.drew = z := ⟨_, rfl⟩
        have Kp_4 : Hid (Bk W4 p 23 #[.bool true, .bool b, .bool c, .bool d, .bool f]) := by rw [← hW4]; exact Kp_3.out.drew
        have Kq_4 : Hid (Bk W4 q 23 #[.bool true, .bool false, .bool x2, .bool x3, .bool x4]) := by rw [← hW4]; exact Kq_3.out.drew
        have B_4 : Hid (Below w.heap.size w W4) := by rw [← hW4]; exact B_3.out.drew
        rw [hW4]
        clear hW4
        clear Kp_3 Kq_3 B_3
        have HIN : Hid (∀ W, Calls Try.prog 17 #[.agg #[.string ⟨#[97, 64, 98]⟩, .string ⟨#[110]⟩, .slice none 0 0, .int .i64 0, .bool false, .bool false], .agg #[.bool true, .bool false, .bool x2, .bool x3, .bool x4]] W fun e w' => ∃ iA cap, e = .returned (.agg #[.string ⟨#[97, 64, 98]⟩, .string ⟨#[110]⟩, .slice iA 0 cap, .int .i64 1, .bool x2, .bool x4]) ∧ Below W.heap.size W w') := fun W => by
          refine (into_any ⟨[97, 64, 98], [110], [], 0, false, false⟩ (.slice none 0 0) ⟨true, false, x2, x3, x4⟩ W (ReadT.nil _ _ _) (by decide)).mono ?_
          rintro e w' ⟨gv', he, ho, hb⟩
          obtain ⟨A, cap, hv⟩ := ho.slice
          subst hv
          exact ⟨A, cap, by rw [he]; rfl, hb⟩
        have cp0 : W4.cell? ⟨p, 0, none⟩ = some (.bool true) := Kp_4.out.cell 0
        have cp1 : W4.cell? ⟨p, 1, none⟩ = some (.bool b) := Kp_4.out.cell 1
        have cp2 : W4.cell? ⟨p, 2, none⟩ = some (.bool c) := Kp_4.out.cell 2
        have cp3 : W4.cell? ⟨p, 3, none⟩ = some (.bool d) := Kp_4.out.cell 3
        have cp4 : W4.cell? ⟨p, 4, none⟩ = some (.bool f) := Kp_4.out.cell 4
        have cq0 : W4.cell? ⟨q, 0, none⟩ = some (.bool true) := Kq_4.out.cell 0
        have cq1 : W4.cell? ⟨q, 1, none⟩ = some (.bool false) := Kq_4.out.cell 1
        have cq2 : W4.cell? ⟨q, 2, none⟩ = some (.bool x2) := Kq_4.out.cell 2
        have cq3 : W4.cell? ⟨q, 3, none⟩ = some (.bool x3) := Kq_4.out.cell 3
        have cq4 : W4.cell? ⟨q, 4, none⟩ = some (.bool x4) := Kq_4.out.cell 4
        go_wp2_with fail
        refine (HIN.out _).mono ?_
        rintro e v4 ⟨iA, icap, rfl, b4⟩
        clear cp0 cp1 cp2 cp3 cp4 cq0 cq1 cq2 cq3 cq4
        have Kp_5 : Hid (Bk v4 p 23 #[.bool true, .bool b, .bool c, .bool d, .bool f]) := Kp_4.out.below b4 Kp_4.out.lt
        have Kq_5 : Hid (Bk v4 q 23 #[.bool true, .bool false, .bool x2, .bool x3, .bool x4]) := Kq_4.out.below b4 Kq_4.out.lt
        have B_5 : Hid (Below w.heap.size w v4) := B_4.out.trans (b4.mono B_4.out.size)
        clear Kp_4 Kq_4 B_4
        clear b4
        obtain ⟨W6, hW6⟩ : ∃ W, v4.alloc (.cells #[.string ⟨#[97, 64, 98]⟩, .string ⟨#[110]⟩, .slice iA 0 icap, .int .i64 1, .bool x2, .bool x4] 26) = W := ⟨_, rfl⟩
        obtain ⟨u, hu⟩ : ∃ g, v4.heap.size = g := ⟨_, rfl⟩
        have Kp_6 : Hid (Bk W6 p 23 #[.bool true, .bool b, .bool c, .bool d, .bool f]) := by rw [← hW6]; exact Kp_5.out.alloc _
        have HNpu : Hid (p < u) := by have := Kp_5.out.lt; unfold Hid; omega
        have Kq_6 : Hid (Bk W6 q 23 #[.bool true, .bool false, .bool x2, .bool x3, .bool x4]) := by rw [← hW6]; exact Kq_5.out.alloc _
        have HNqu : Hid (q < u) := by have := Kq_5.out.lt; unfold Hid; omega
        have Ku_6 : Hid (Bk W6 u 26 #[.string ⟨#[97, 64, 98]⟩, .string ⟨#[110]⟩, .slice iA 0 icap, .int .i64 1, .bool x2, .bool x4]) := by rw [← hW6, ← hu]; exact Bk.new _ _ _
        have B_6 : Hid (Below w.heap.size w W6) := by rw [← hW6]; exact B_5.out.alloc B_5.out.size _
        have HLu : Hid (w.heap.size ≤ u) := by have := B_5.out.size; unfold Hid; omega
        have HW6 := Lib.hid hW6
        have HAu := Lib.hid hu
        clear hW6 hu
        clear Kp_5 Kq_5 B_5
        go_upto_region 20 with fail
        (try rw [HW6.out])
        (try rw [HAu.out])
        go_wp2_with fail
        refine (HAW.out W6).mono ?_
        rintro e v6 ⟨rfl, b6⟩
        have KU := Ku_6.out.below b6 Ku_6.out.lt
        have Kp_7 : Hid (Bk v6 p 23 #[.bool true, .bool b, .bool c, .bool d, .bool f]) := Kp_6.out.below b6 Kp_6.out.lt
        have Kq_7 : Hid (Bk v6 q 23 #[.bool true, .bool false, .bool x2, .bool x3, .bool x4]) := Kq_6.out.below b6 Kq_6.out.lt
        have B_7 : Hid (Below w.heap.size w v6) := B_6.out.trans (b6.mono B_6.out.size)
        clear Kp_6 Kq_6 B_6
        clear b6
        have cq0 : v6.cell? ⟨q, 0, none⟩ = some (.bool true) := Kq_7.out.cell 0
        have cq1 : v6.cell? ⟨q, 1, none⟩ = some (.bool false) := Kq_7.out.cell 1
        have cq2 : v6.cell? ⟨q, 2, none⟩ = some (.bool x2) := Kq_7.out.cell 2
        have cq3 : v6.cell? ⟨q, 3, none⟩ = some (.bool x3) := Kq_7.out.cell 3
        have cq4 : v6.cell? ⟨q, 4, none⟩ = some (.bool x4) := Kq_7.out.cell 4
        have y0 : v6.cell? ⟨u, 0, none⟩ = some (.string ⟨#[97, 64, 98]⟩) := KU.cell 0
        have y1 : v6.cell? ⟨u, 1, none⟩ = some (.string ⟨#[110]⟩) := KU.cell 1
        have y2 : v6.cell? ⟨u, 2, none⟩ = some (.slice iA 0 icap) := KU.cell 2
        have y3 : v6.cell? ⟨u, 3, none⟩ = some (.int .i64 1) := KU.cell 3
        have y4 : v6.cell? ⟨u, 4, none⟩ = some (.bool x2) := KU.cell 4
        have y5 : v6.cell? ⟨u, 5, none⟩ = some (.bool x4) := KU.cell 5
        have ht : ((⟨#[110]⟩ : ByteArray).toList == (⟨#[110]⟩ : ByteArray).toList) = true := by simp
        clear KU
        go_wp2_with fail
        go_ret
        exact ⟨rfl, B_7.out⟩
    · skip
      cases b with
      | false =>
        cases a with
        | false =>
          cases c with
          | false =>
            have hp : ∀ d f : Bool, rightM ⟨false, false, false, d, f⟩ = true → (stepM ⟨false, false, false, d, f⟩ 7).to = false ∧ (stepM ⟨false, false, false, d, f⟩ 7).fr = false := by decide
            obtain ⟨h0, h1⟩ := hp d f HR.out
            clear hp
            obtain ⟨⟨x0, x1, x2, x3, x4⟩, hA⟩ : ∃ A, stepM ⟨false, false, false, d, f⟩ 7 = A := ⟨_, rfl⟩
            rw [hA] at h0 h1
            simp only at h0 h1
            obtain rfl := h0.symm
            obtain rfl := h1.symm
            have HA := Lib.hid hA
            clear hA
            have cp0 : v0.cell? ⟨p, 0, none⟩ = some (.bool false) := Kp_1.out.cell 0
            have cp1 : v0.cell? ⟨p, 1, none⟩ = some (.bool false) := Kp_1.out.cell 1
            have cp2 : v0.cell? ⟨p, 2, none⟩ = some (.bool false) := Kp_1.out.cell 2
            have cp3 : v0.cell? ⟨p, 3, none⟩ = some (.bool d) := Kp_1.out.cell 3
            have cp4 : v0.cell? ⟨p, 4, none⟩ = some (.bool f) := Kp_1.out.cell 4
            obtain ⟨r1, hr1⟩ : ∃ r, (!decide ((⟨false, false, x2, x3, x4⟩ : Mod) = ⟨false, false, false, d, f⟩)) = r := ⟨_, rfl⟩
            have HS1 := Lib.hid (step_at ⟨false, false, false, d, f⟩ ⟨false, false, x2, x3, x4⟩ (7) r1 (HA.out) hr1 v0)
            clear hr1
            go_wp2_with fail
            refine HS1.out.mono ?_
            rintro e v1 ⟨rfl, b1⟩
            clear cp0 cp1 cp2 cp3 cp4
            have Kp_2 : Hid (Bk v1 p 23 #[.bool false, .bool false, .bool false, .bool d, .bool f]) := Kp_1.out.below b1 Kp_1.out.lt
            have B_2 : Hid (Below w.heap.size w v1) := B_1.out.trans (b1.mono B_1.out.size)
            clear Kp_1 B_1
            clear b1
            obtain ⟨W3, hW3⟩ : ∃ W, v1.alloc (.cells #[.bool false, .bool false, .bool x2, .bool x3, .bool x4] 23) = W := ⟨_, rfl⟩
            obtain ⟨q, hq⟩ : ∃ g, v1.heap.size = g := ⟨_, rfl⟩
            have Kp_3 : Hid (Bk W3 p 23 #[.bool false, .bool false, .bool false, .bool d, .bool f]) := by rw [← hW3]; exact Kp_2.out.alloc _
            have HNpq : Hid (p < q) := by have := Kp_2.out.lt; unfold Hid; omega
            have Kq_3 : Hid (Bk W3 q 23 #[.bool false, .bool false, .bool x2, .bool x3, .bool x4]) := by rw [← hW3, ← hq]; exact Bk.new _ _ _
            have B_3 : Hid (Below w.heap.size w W3) := by rw [← hW3]; exact B_2.out.alloc B_2.out.size _
            have HLq : Hid (w.heap.size ≤ q) := by have := B_2.out.size; unfold Hid; omega
            have HW3 := Lib.hid hW3
            have HAq := Lib.hid hq
            clear hW3 hq
            clear Kp_2 B_2
            go_upto_region 5 with fail
            (try rw [HW3.out])
            (try rw [HAq.out])
            have cp0 : W3.cell? ⟨p, 0, none⟩ = some (.bool false) := Kp_3.out.cell 0
            have cp1 : W3.cell? ⟨p, 1, none⟩ = some (.bool false) := Kp_3.out.cell 1
            have cp2 : W3.cell? ⟨p, 2, none⟩ = some (.bool false) := Kp_3.out.cell 2
            have cp3 : W3.cell? ⟨p, 3, none⟩ = some (.bool d) := Kp_3.out.cell 3
            have cp4 : W3.cell? ⟨p, 4, none⟩ = some (.bool f) := Kp_3.out.cell 4
            go_region
            clear cp0 cp1 cp2 cp3 cp4
            obtain ⟨W4, hW4⟩ : ∃ z, W3.drew = z := ⟨_, rfl⟩
            have Kp_4 : Hid (Bk W4 p 23 #[.bool false, .bool false, .bool false, .bool d, .bool f]) := by rw [← hW4]; exact Kp_3.out.drew
            have Kq_4 : Hid (Bk W4 q 23 #[.bool false, .bool false, .bool x2, .bool x3, .bool x4]) := by rw [← hW4]; exact Kq_3.out.drew
            have B_4 : Hid (Below w.heap.size w W4) := by rw [← hW4]; exact B_3.out.drew
            rw [hW4]
            clear hW4
            clear Kp_3 Kq_3 B_3
            have HIN : Hid (∀ W, Calls Try.prog 17 #[.agg #[.string ⟨#[97, 64, 98]⟩, .string ⟨#[110]⟩, .slice none 0 0, .int .i64 0, .bool false, .bool false], .agg #[.bool false, .bool false, .bool x2, .bool x3, .bool x4]] W fun e w' => ∃ iA cap, e = .returned (.agg #[.string ⟨#[97, 64, 98]⟩, .string ⟨#[110]⟩, .slice iA 0 cap, .int .i64 0, .bool x2, .bool x4]) ∧ Below W.heap.size W w') := fun W => by
              refine (into_any ⟨[97, 64, 98], [110], [], 0, false, false⟩ (.slice none 0 0) ⟨false, false, x2, x3, x4⟩ W (ReadT.nil _ _ _) (by decide)).mono ?_
              rintro e w' ⟨gv', he, ho, hb⟩
              obtain ⟨A, cap, hv⟩ := ho.slice
              subst hv
              exact ⟨A, cap, by rw [he]; rfl, hb⟩
            have cp0 : W4.cell? ⟨p, 0, none⟩ = some (.bool false) := Kp_4.out.cell 0
            have cp1 : W4.cell? ⟨p, 1, none⟩ = some (.bool false) := Kp_4.out.cell 1
            have cp2 : W4.cell? ⟨p, 2, none⟩ = some (.bool false) := Kp_4.out.cell 2
            have cp3 : W4.cell? ⟨p, 3, none⟩ = some (.bool d) := Kp_4.out.cell 3
            have cp4 : W4.cell? ⟨p, 4, none⟩ = some (.bool f) := Kp_4.out.cell 4
            have cq0 : W4.cell? ⟨q, 0, none⟩ = some (.bool false) := Kq_4.out.cell 0
            have cq1 : W4.cell? ⟨q, 1, none⟩ = some (.bool false) := Kq_4.out.cell 1
            have cq2 : W4.cell? ⟨q, 2, none⟩ = some (.bool x2) := Kq_4.out.cell 2
            have cq3 : W4.cell? ⟨q, 3, none⟩ = some (.bool x3) := Kq_4.out.cell 3
            have cq4 : W4.cell? ⟨q, 4, none⟩ = some (.bool x4) := Kq_4.out.cell 4
            go_wp2_with fail
            refine (HIN.out _).mono ?_
            rintro e v4 ⟨iA, icap, rfl, b4⟩
            clear cp0 cp1 cp2 cp3 cp4 cq0 cq1 cq2 cq3 cq4
            have Kp_5 : Hid (Bk v4 p 23 #[.bool false, .bool false, .bool false, .bool d, .bool f]) := Kp_4.out.below b4 Kp_4.out.lt
            have Kq_5 : Hid (Bk v4 q 23 #[.bool false, .bool false, .bool x2, .bool x3, .bool x4]) := Kq_4.out.below b4 Kq_4.out.lt
            have B_5 : Hid (Below w.heap.size w v4) := B_4.out.trans (b4.mono B_4.out.size)
            clear Kp_4 Kq_4 B_4
            clear b4
            obtain ⟨W6, hW6⟩ : ∃ W, v4.alloc (.cells #[.string ⟨#[97, 64, 98]⟩, .string ⟨#[110]⟩, .slice iA 0 icap, .int .i64 0, .bool x2, .bool x4] 26) = W := ⟨_, rfl⟩
            obtain ⟨u, hu⟩ : ∃ g, v4.heap.size = g := ⟨_, rfl⟩
            have Kp_6 : Hid (Bk W6 p 23 #[.bool false, .bool false, .bool false, .bool d, .bool f]) := by rw [← hW6]; exact Kp_5.out.alloc _
            have HNpu : Hid (p < u) := by have := Kp_5.out.lt; unfold Hid; omega
            have Kq_6 : Hid (Bk W6 q 23 #[.bool false, .bool false, .bool x2, .bool x3, .bool x4]) := by rw [← hW6]; exact Kq_5.out.alloc _
            have HNqu : Hid (q < u) := by have := Kq_5.out.lt; unfold Hid; omega
            have Ku_6 : Hid (Bk W6 u 26 #[.string ⟨#[97, 64, 98]⟩, .string ⟨#[110]⟩, .slice iA 0 icap, .int .i64 0, .bool x2, .bool x4]) := by rw [← hW6, ← hu]; exact Bk.new _ _ _
            have B_6 : Hid (Below w.heap.size w W6) := by rw [← hW6]; exact B_5.out.alloc B_5.out.size _
            have HLu : Hid (w.heap.size ≤ u) := by have := B_5.out.size; unfold Hid; omega
            have HW6 := Lib.hid hW6
            have HAu := Lib.hid hu
            clear hW6 hu
            clear Kp_5 Kq_5 B_5
            go_upto_region 20 with fail
            (try rw [HW6.out])
            (try rw [HAu.out])
            go_wp2_with fail
            refine (HAW.out W6).mono ?_
            rintro e v6 ⟨rfl, b6⟩
            have KU := Ku_6.out.below b6 Ku_6.out.lt
            have Kp_7 : Hid (Bk v6 p 23 #[.bool false, .bool false, .bool false, .bool d, .bool f]) := Kp_6.out.below b6 Kp_6.out.lt
            have Kq_7 : Hid (Bk v6 q 23 #[.bool false, .bool false, .bool x2, .bool x3, .bool x4]) := Kq_6.out.below b6 Kq_6.out.lt
            have B_7 : Hid (Below w.heap.size w v6) := B_6.out.trans (b6.mono B_6.out.size)
            clear Kp_6 Kq_6 B_6
            clear b6
            have cq0 : v6.cell? ⟨q, 0, none⟩ = some (.bool false) := Kq_7.out.cell 0
            have cq1 : v6.cell? ⟨q, 1, none⟩ = some (.bool false) := Kq_7.out.cell 1
            have cq2 : v6.cell? ⟨q, 2, none⟩ = some (.bool x2) := Kq_7.out.cell 2
            have cq3 : v6.cell? ⟨q, 3, none⟩ = some (.bool x3) := Kq_7.out.cell 3
            have cq4 : v6.cell? ⟨q, 4, none⟩ = some (.bool x4) := Kq_7.out.cell 4
            have y0 : v6.cell? ⟨u, 0, none⟩ = some (.string ⟨#[97, 64, 98]⟩) := KU.cell 0
            have y1 : v6.cell? ⟨u, 1, none⟩ = some (.string ⟨#[110]⟩) := KU.cell 1
            have y2 : v6.cell? ⟨u, 2, none⟩ = some (.slice iA 0 icap) := KU.cell 2
            have y3 : v6.cell? ⟨u, 3, none⟩ = some (.int .i64 0) := KU.cell 3
            have y4 : v6.cell? ⟨u, 4, none⟩ = some (.bool x2) := KU.cell 4
            have y5 : v6.cell? ⟨u, 5, none⟩ = some (.bool x4) := KU.cell 5
            have ht : ((⟨#[110]⟩ : ByteArray).toList == (⟨#[110]⟩ : ByteArray).toList) = true := by simp
            clear KU
            go_wp2_with fail
            go_ret
            exact ⟨rfl, B_7.out⟩
          | true =>
            have hp : ∀ d f : Bool, rightM ⟨false, false, true, d, f⟩ = true → (stepM ⟨false, false, true, d, f⟩ 7).to = true ∧ (stepM ⟨false, false, true, d, f⟩ 7).fr = false := by decide
            obtain ⟨h0, h1⟩ := hp d f HR.out
            clear hp
            obtain ⟨⟨x0, x1, x2, x3, x4⟩, hA⟩ : ∃ A, stepM ⟨false, false, true, d, f⟩ 7 = A := ⟨_, rfl⟩
            rw [hA] at h0 h1
            simp only at h0 h1
            obtain rfl := h0.symm
            obtain rfl := h1.symm
            have HA := Lib.hid hA
            clear hA
            have cp0 : v0.cell? ⟨p, 0, none⟩ = some (.bool false) := Kp_1.out.cell 0
            have cp1 : v0.cell? ⟨p, 1, none⟩ = some (.bool false) := Kp_1.out.cell 1
            have cp2 : v0.cell? ⟨p, 2, none⟩ = some (.bool true) := Kp_1.out.cell 2
            have cp3 : v0.cell? ⟨p, 3, none⟩ = some (.bool d) := Kp_1.out.cell 3
            have cp4 : v0.cell? ⟨p, 4, none⟩ = some (.bool f) := Kp_1.out.cell 4
            obtain ⟨r1, hr1⟩ : ∃ r, (!decide ((⟨true, false, x2, x3, x4⟩ : Mod) = ⟨false, false, true, d, f⟩)) = r := ⟨_, rfl⟩
            have HS1 := Lib.hid (step_at ⟨false, false, true, d, f⟩ ⟨true, false, x2, x3, x4⟩ (7) r1 (HA.out) hr1 v0)
            clear hr1
            go_wp2_with fail
            refine HS1.out.mono ?_
            rintro e v1 ⟨rfl, b1⟩
            clear cp0 cp1 cp2 cp3 cp4
            have Kp_2 : Hid (Bk v1 p 23 #[.bool false, .bool false, .bool true, .bool d, .bool f]) := Kp_1.out.below b1 Kp_1.out.lt
            have B_2 : Hid (Below w.heap.size w v1) := B_1.out.trans (b1.mono B_1.out.size)
            clear Kp_1 B_1
            clear b1
            obtain ⟨W3, hW3⟩ : ∃ W, v1.alloc (.cells #[.bool true, .bool false, .bool x2, .bool x3, .bool x4] 23) = W := ⟨_, rfl⟩
            obtain ⟨q, hq⟩ : ∃ g, v1.heap.size = g := ⟨_, rfl⟩
            have Kp_3 : Hid (Bk W3 p 23 #[.bool false, .bool false, .bool true, .bool d, .bool f]) := by rw [← hW3]; exact Kp_2.out.alloc _
            have HNpq : Hid (p < q) := by have := Kp_2.out.lt; unfold Hid; omega
            have Kq_3 : Hid (Bk W3 q 23 #[.bool true, .bool false, .bool x2, .bool x3, .bool x4]) := by rw [← hW3, ← hq]; exact Bk.new _ _ _
            have B_3 : Hid (Below w.heap.size w W3) := by rw [← hW3]; exact B_2.out.alloc B_2.out.size _
            have HLq : Hid (w.heap.size ≤ q) := by have := B_2.out.size; unfold Hid; omega
            have HW3 := Lib.hid hW3
            have HAq := Lib.hid hq
            clear hW3 hq
            clear Kp_2 B_2
            go_upto_region 5 with fail
            (try rw [HW3.out])
            (try rw [HAq.out])
            have cp0 : W3.cell? ⟨p, 0, none⟩ = some (.bool false) := Kp_3.out.cell 0
            have cp1 : W3.cell? ⟨p, 1, none⟩ = some (.bool false) := Kp_3.out.cell 1
            have cp2 : W3.cell? ⟨p, 2, none⟩ = some (.bool true) := Kp_3.out.cell 2
            have cp3 : W3.cell? ⟨p, 3, none⟩ = some (.bool d) := Kp_3.out.cell 3
            have cp4 : W3.cell? ⟨p, 4, none⟩ = some (.bool f) := Kp_3.out.cell 4
            go_region
            clear cp0 cp1 cp2 cp3 cp4
            obtain ⟨W4, hW4⟩ : ∃ z, W3.drew = z := ⟨_, rfl⟩
            have Kp_4 : Hid (Bk W4 p 23 #[.bool false, .bool false, .bool true, .bool d, .bool f]) := by rw [← hW4]; exact Kp_3.out.drew
            have Kq_4 : Hid (Bk W4 q 23 #[.bool true, .bool false, .bool x2, .bool x3, .bool x4]) := by rw [← hW4]; exact Kq_3.out.drew
            have B_4 : Hid (Below w.heap.size w W4) := by rw [← hW4]; exact B_3.out.drew
            rw [hW4]
            clear hW4
            clear Kp_3 Kq_3 B_3
            have HIN : Hid (∀ W, Calls Try.prog 17 #[.agg #[.string ⟨#[97, 64, 98]⟩, .string ⟨#[110]⟩, .slice none 0 0, .int .i64 0, .bool false, .bool false], .agg #[.bool true, .bool false, .bool x2, .bool x3, .bool x4]] W fun e w' => ∃ iA cap, e = .returned (.agg #[.string ⟨#[97, 64, 98]⟩, .string ⟨#[110]⟩, .slice iA 0 cap, .int .i64 1, .bool x2, .bool x4]) ∧ Below W.heap.size W w') := fun W => by
              refine (into_any ⟨[97, 64, 98], [110], [], 0, false, false⟩ (.slice none 0 0) ⟨true, false, x2, x3, x4⟩ W (ReadT.nil _ _ _) (by decide)).mono ?_
              rintro e w' ⟨gv', he, ho, hb⟩
              obtain ⟨A, cap, hv⟩ := ho.slice
              subst hv
              exact ⟨A, cap, by rw [he]; rfl, hb⟩
            have cp0 : W4.cell? ⟨p, 0, none⟩ = some (.bool false) := Kp_4.out.cell 0
            have cp1 : W4.cell? ⟨p, 1, none⟩ = some (.bool false) := Kp_4.out.cell 1
            have cp2 : W4.cell? ⟨p, 2, none⟩ = some (.bool true) := Kp_4.out.cell 2
            have cp3 : W4.cell? ⟨p, 3, none⟩ = some (.bool d) := Kp_4.out.cell 3
            have cp4 : W4.cell? ⟨p, 4, none⟩ = some (.bool f) := Kp_4.out.cell 4
            have cq0 : W4.cell? ⟨q, 0, none⟩ = some (.bool true) := Kq_4.out.cell 0
            have cq1 : W4.cell? ⟨q, 1, none⟩ = some (.bool false) := Kq_4.out.cell 1
            have cq2 : W4.cell? ⟨q, 2, none⟩ = some (.bool x2) := Kq_4.out.cell 2
            have cq3 : W4.cell? ⟨q, 3, none⟩ = some (.bool x3) := Kq_4.out.cell 3
            have cq4 : W4.cell? ⟨q, 4, none⟩ = some (.bool x4) := Kq_4.out.cell 4
            go_wp2_with fail
            refine (HIN.out _).mono ?_
            rintro e v4 ⟨iA, icap, rfl, b4⟩
            clear cp0 cp1 cp2 cp3 cp4 cq0 cq1 cq2 cq3 cq4
            have Kp_5 : Hid (Bk v4 p 23 #[.bool false, .bool false, .bool true, .bool d, .bool f]) := Kp_4.out.below b4 Kp_4.out.lt
            have Kq_5 : Hid (Bk v4 q 23 #[.bool true, .bool false, .bool x2, .bool x3, .bool x4]) := Kq_4.out.below b4 Kq_4.out.lt
            have B_5 : Hid (Below w.heap.size w v4) := B_4.out.trans (b4.mono B_4.out.size)
            clear Kp_4 Kq_4 B_4
            clear b4
            obtain ⟨W6, hW6⟩ : ∃ W, v4.alloc (.cells #[.string ⟨#[97, 64, 98]⟩, .string ⟨#[110]⟩, .slice iA 0 icap, .int .i64 1, .bool x2, .bool x4] 26) = W := ⟨_, rfl⟩
            obtain ⟨u, hu⟩ : ∃ g, v4.heap.size = g := ⟨_, rfl⟩
            have Kp_6 : Hid (Bk W6 p 23 #[.bool false, .bool false, .bool true, .bool d, .bool f]) := by rw [← hW6]; exact Kp_5.out.alloc _
            have HNpu : Hid (p < u) := by have := Kp_5.out.lt; unfold Hid; omega
            have Kq_6 : Hid (Bk W6 q 23 #[.bool true, .bool false, .bool x2, .bool x3, .bool x4]) := by rw [← hW6]; exact Kq_5.out.alloc _
            have HNqu : Hid (q < u) := by have := Kq_5.out.lt; unfold Hid; omega
            have Ku_6 : Hid (Bk W6 u 26 #[.string ⟨#[97, 64, 98]⟩, .string ⟨#[110]⟩, .slice iA 0 icap, .int .i64 1, .bool x2, .bool x4]) := by rw [← hW6, ← hu]; exact Bk.new _ _ _
            have B_6 : Hid (Below w.heap.size w W6) := by rw [← hW6]; exact B_5.out.alloc B_5.out.size _
            have HLu : Hid (w.heap.size ≤ u) := by have := B_5.out.size; unfold Hid; omega
            have HW6 := Lib.hid hW6
            have HAu := Lib.hid hu
            clear hW6 hu
            clear Kp_5 Kq_5 B_5
            go_upto_region 20 with fail
            (try rw [HW6.out])
            (try rw [HAu.out])
            go_wp2_with fail
            refine (HAW.out W6).mono ?_
            rintro e v6 ⟨rfl, b6⟩
            have KU := Ku_6.out.below b6 Ku_6.out.lt
            have Kp_7 : Hid (Bk v6 p 23 #[.bool false, .bool false, .bool true, .bool d, .bool f]) := Kp_6.out.below b6 Kp_6.out.lt
            have Kq_7 : Hid (Bk v6 q 23 #[.bool true, .bool false, .bool x2, .bool x3, .bool x4]) := Kq_6.out.below b6 Kq_6.out.lt
            have B_7 : Hid (Below w.heap.size w v6) := B_6.out.trans (b6.mono B_6.out.size)
            clear Kp_6 Kq_6 B_6
            clear b6
            have cq0 : v6.cell? ⟨q, 0, none⟩ = some (.bool true) := Kq_7.out.cell 0
            have cq1 : v6.cell? ⟨q, 1, none⟩ = some (.bool false) := Kq_7.out.cell 1
            have cq2 : v6.cell? ⟨q, 2, none⟩ = some (.bool x2) := Kq_7.out.cell 2
            have cq3 : v6.cell? ⟨q, 3, none⟩ = some (.bool x3) := Kq_7.out.cell 3
            have cq4 : v6.cell? ⟨q, 4, none⟩ = some (.bool x4) := Kq_7.out.cell 4
            have y0 : v6.cell? ⟨u, 0, none⟩ = some (.string ⟨#[97, 64, 98]⟩) := KU.cell 0
            have y1 : v6.cell? ⟨u, 1, none⟩ = some (.string ⟨#[110]⟩) := KU.cell 1
            have y2 : v6.cell? ⟨u, 2, none⟩ = some (.slice iA 0 icap) := KU.cell 2
            have y3 : v6.cell? ⟨u, 3, none⟩ = some (.int .i64 1) := KU.cell 3
            have y4 : v6.cell? ⟨u, 4, none⟩ = some (.bool x2) := KU.cell 4
            have y5 : v6.cell? ⟨u, 5, none⟩ = some (.bool x4) := KU.cell 5
            have ht : ((⟨#[110]⟩ : ByteArray).toList == (⟨#[110]⟩ : ByteArray).toList) = true := by simp
            clear KU
            go_wp2_with fail
            go_ret
            exact ⟨rfl, B_7.out⟩
        | true =>
          have hp : ∀ c d f : Bool, rightM ⟨true, false, c, d, f⟩ = true → (stepM ⟨true, false, c, d, f⟩ 7).to = true ∧ (stepM ⟨true, false, c, d, f⟩ 7).fr = false := by decide
          obtain ⟨h0, h1⟩ := hp c d f HR.out
          clear hp
          obtain ⟨⟨x0, x1, x2, x3, x4⟩, hA⟩ : ∃ A, stepM ⟨true, false, c, d, f⟩ 7 = A := ⟨_, rfl⟩
          rw [hA] at h0 h1
          simp only at h0 h1
          obtain rfl := h0.symm
          obtain rfl := h1.symm
          have HA := Lib.hid hA
          clear hA
          have cp0 : v0.cell? ⟨p, 0, none⟩ = some (.bool true) := Kp_1.out.cell 0
          have cp1 : v0.cell? ⟨p, 1, none⟩ = some (.bool false) := Kp_1.out.cell 1
          have cp2 : v0.cell? ⟨p, 2, none⟩ = some (.bool c) := Kp_1.out.cell 2
          have cp3 : v0.cell? ⟨p, 3, none⟩ = some (.bool d) := Kp_1.out.cell 3
          have cp4 : v0.cell? ⟨p, 4, none⟩ = some (.bool f) := Kp_1.out.cell 4
          obtain ⟨r1, hr1⟩ : ∃ r, (!decide ((⟨true, false, x2, x3, x4⟩ : Mod) = ⟨true, false, c, d, f⟩)) = r := ⟨_, rfl⟩
          have HS1 := Lib.hid (step_at ⟨true, false, c, d, f⟩ ⟨true, false, x2, x3, x4⟩ (7) r1 (HA.out) hr1 v0)
          clear hr1
          go_wp2_with fail
          refine HS1.out.mono ?_
          rintro e v1 ⟨rfl, b1⟩
          clear cp0 cp1 cp2 cp3 cp4
          have Kp_2 : Hid (Bk v1 p 23 #[.bool true, .bool false, .bool c, .bool d, .bool f]) := Kp_1.out.below b1 Kp_1.out.lt
          have B_2 : Hid (Below w.heap.size w v1) := B_1.out.trans (b1.mono B_1.out.size)
          clear Kp_1 B_1
          clear b1
          obtain ⟨W3, hW3⟩ : ∃ W, v1.alloc (.cells #[.bool true, .bool false, .bool x2, .bool x3, .bool x4] 23) = W := ⟨_, rfl⟩
          obtain ⟨q, hq⟩ : ∃ g, v1.heap.size = g := ⟨_, rfl⟩
          have Kp_3 : Hid (Bk W3 p 23 #[.bool true, .bool false, .bool c, .bool d, .bool f]) := by rw [← hW3]; exact Kp_2.out.alloc _
          have HNpq : Hid (p < q) := by have := Kp_2.out.lt; unfold Hid; omega
          have Kq_3 : Hid (Bk W3 q 23 #[.bool true, .bool false, .bool x2, .bool x3, .bool x4]) := by rw [← hW3, ← hq]; exact Bk.new _ _ _
          have B_3 : Hid (Below w.heap.size w W3) := by rw [← hW3]; exact B_2.out.alloc B_2.out.size _
          have HLq : Hid (w.heap.size ≤ q) := by have := B_2.out.size; unfold Hid; omega
          have HW3 := Lib.hid hW3
          have HAq := Lib.hid hq
          clear hW3 hq
          clear Kp_2 B_2
          go_upto_region 5 with fail
          (try rw [HW3.out])
          (try rw [HAq.out])
          have cp0 : W3.cell? ⟨p, 0, none⟩ = some (.bool true) := Kp_3.out.cell 0
          have cp1 : W3.cell? ⟨p, 1, none⟩ = some (.bool false) := Kp_3.out.cell 1
          have cp2 : W3.cell? ⟨p, 2, none⟩ = some (.bool c) := Kp_3.out.cell 2
          have cp3 : W3.cell? ⟨p, 3, none⟩ = some (.bool d) := Kp_3.out.cell 3
          have cp4 : W3.cell? ⟨p, 4, none⟩ = some (.bool f) := Kp_3.out.cell 4
          go_region
          clear cp0 cp1 cp2 cp3 cp4
          obtain ⟨W4, hW4⟩ : ∃ z, W3.drew = z := ⟨_, rfl⟩
          have Kp_4 : Hid (Bk W4 p 23 #[.bool true, .bool false, .bool c, .bool d, .bool f]) := by rw [← hW4]; exact Kp_3.out.drew
          have Kq_4 : Hid (Bk W4 q 23 #[.bool true, .bool false, .bool x2, .bool x3, .bool x4]) := by rw [← hW4]; exact Kq_3.out.drew
          have B_4 : Hid (Below w.heap.size w W4) := by rw [← hW4]; exact B_3.out.drew
          rw [hW4]
          clear hW4
          clear Kp_3 Kq_3 B_3
          have HIN : Hid (∀ W, Calls Try.prog 17 #[.agg #[.string ⟨#[97, 64, 98]⟩, .string ⟨#[110]⟩, .slice none 0 0, .int .i64 0, .bool false, .bool false], .agg #[.bool true, .bool false, .bool x2, .bool x3, .bool x4]] W fun e w' => ∃ iA cap, e = .returned (.agg #[.string ⟨#[97, 64, 98]⟩, .string ⟨#[110]⟩, .slice iA 0 cap, .int .i64 1, .bool x2, .bool x4]) ∧ Below W.heap.size W w') := fun W => by
            refine (into_any ⟨[97, 64, 98], [110], [], 0, false, false⟩ (.slice none 0 0) ⟨true, false, x2, x3, x4⟩ W (ReadT.nil _ _ _) (by decide)).mono ?_
            rintro e w' ⟨gv', he, ho, hb⟩
            obtain ⟨A, cap, hv⟩ := ho.slice
            subst hv
            exact ⟨A, cap, by rw [he]; rfl, hb⟩
          have cp0 : W4.cell? ⟨p, 0, none⟩ = some (.bool true) := Kp_4.out.cell 0
          have cp1 : W4.cell? ⟨p, 1, none⟩ = some (.bool false) := Kp_4.out.cell 1
          have cp2 : W4.cell? ⟨p, 2, none⟩ = some (.bool c) := Kp_4.out.cell 2
          have cp3 : W4.cell? ⟨p, 3, none⟩ = some (.bool d) := Kp_4.out.cell 3
          have cp4 : W4.cell? ⟨p, 4, none⟩ = some (.bool f) := Kp_4.out.cell 4
          have cq0 : W4.cell? ⟨q, 0, none⟩ = some (.bool true) := Kq_4.out.cell 0
          have cq1 : W4.cell? ⟨q, 1, none⟩ = some (.bool false) := Kq_4.out.cell 1
          have cq2 : W4.cell? ⟨q, 2, none⟩ = some (.bool x2) := Kq_4.out.cell 2
          have cq3 : W4.cell? ⟨q, 3, none⟩ = some (.bool x3) := Kq_4.out.cell 3
          have cq4 : W4.cell? ⟨q, 4, none⟩ = some (.bool x4) := Kq_4.out.cell 4
          go_wp2_with fail
          refine (HIN.out _).mono ?_
          rintro e v4 ⟨iA, icap, rfl, b4⟩
          clear cp0 cp1 cp2 cp3 cp4 cq0 cq1 cq2 cq3 cq4
          have Kp_5 : Hid (Bk v4 p 23 #[.bool true, .bool false, .bool c, .bool d, .bool f]) := Kp_4.out.below b4 Kp_4.out.lt
          have Kq_5 : Hid (Bk v4 q 23 #[.bool true, .bool false, .bool x2, .bool x3, .bool x4]) := Kq_4.out.below b4 Kq_4.out.lt
          have B_5 : Hid (Below w.heap.size w v4) := B_4.out.trans (b4.mono B_4.out.size)
          clear Kp_4 Kq_4 B_4
          clear b4
          obtain ⟨W6, hW6⟩ : ∃ W, v4.alloc (.cells #[.string ⟨#[97, 64, 98]⟩, .string ⟨#[110]⟩, .slice iA 0 icap, .int .i64 1, .bool x2, .bool x4] 26) = W := ⟨_, rfl⟩
          obtain ⟨u, hu⟩ : ∃ g, v4.heap.size = g := ⟨_, rfl⟩
          have Kp_6 : Hid (Bk W6 p 23 #[.bool true, .bool false, .bool c, .bool d, .bool f]) := by rw [← hW6]; exact Kp_5.out.alloc _
          have HNpu : Hid (p < u) := by have := Kp_5.out.lt; unfold Hid; omega
          have Kq_6 : Hid (Bk W6 q 23 #[.bool true, .bool false, .bool x2, .bool x3, .bool x4]) := by rw [← hW6]; exact Kq_5.out.alloc _
          have HNqu : Hid (q < u) := by have := Kq_5.out.lt; unfold Hid; omega
          have Ku_6 : Hid (Bk W6 u 26 #[.string ⟨#[97, 64, 98]⟩, .string ⟨#[110]⟩, .slice iA 0 icap, .int .i64 1, .bool x2, .bool x4]) := by rw [← hW6, ← hu]; exact Bk.new _ _ _
          have B_6 : Hid (Below w.heap.size w W6) := by rw [← hW6]; exact B_5.out.alloc B_5.out.size _
          have HLu : Hid (w.heap.size ≤ u) := by have := B_5.out.size; unfold Hid; omega
          have HW6 := Lib.hid hW6
          have HAu := Lib.hid hu
          clear hW6 hu
          clear Kp_5 Kq_5 B_5
          go_upto_region 20 with fail
          (try rw [HW6.out])
          (try rw [HAu.out])
          go_wp2_with fail
          refine (HAW.out W6).mono ?_
          rintro e v6 ⟨rfl, b6⟩
          have KU := Ku_6.out.below b6 Ku_6.out.lt
          have Kp_7 : Hid (Bk v6 p 23 #[.bool true, .bool false, .bool c, .bool d, .bool f]) := Kp_6.out.below b6 Kp_6.out.lt
          have Kq_7 : Hid (Bk v6 q 23 #[.bool true, .bool false, .bool x2, .bool x3, .bool x4]) := Kq_6.out.below b6 Kq_6.out.lt
          have B_7 : Hid (Below w.heap.size w v6) := B_6.out.trans (b6.mono B_6.out.size)
          clear Kp_6 Kq_6 B_6
          clear b6
          have cq0 : v6.cell? ⟨q, 0, none⟩ = some (.bool true) := Kq_7.out.cell 0
          have cq1 : v6.cell? ⟨q, 1, none⟩ = some (.bool false) := Kq_7.out.cell 1
          have cq2 : v6.cell? ⟨q, 2, none⟩ = some (.bool x2) := Kq_7.out.cell 2
          have cq3 : v6.cell? ⟨q, 3, none⟩ = some (.bool x3) := Kq_7.out.cell 3
          have cq4 : v6.cell? ⟨q, 4, none⟩ = some (.bool x4) := Kq_7.out.cell 4
          have y0 : v6.cell? ⟨u, 0, none⟩ = some (.string ⟨#[97, 64, 98]⟩) := KU.cell 0
          have y1 : v6.cell? ⟨u, 1, none⟩ = some (.string ⟨#[110]⟩) := KU.cell 1
          have y2 : v6.cell? ⟨u, 2, none⟩ = some (.slice iA 0 icap) := KU.cell 2
          have y3 : v6.cell? ⟨u, 3, none⟩ = some (.int .i64 1) := KU.cell 3
          have y4 : v6.cell? ⟨u, 4, none⟩ = some (.bool x2) := KU.cell 4
          have y5 : v6.cell? ⟨u, 5, none⟩ = some (.bool x4) := KU.cell 5
          have ht : ((⟨#[110]⟩ : ByteArray).toList == (⟨#[110]⟩ : ByteArray).toList) = true := by simp
          clear KU
          go_wp2_with fail
          go_ret
          exact ⟨rfl, B_7.out⟩
      | true =>
        cases a with
        | false =>
          cases c with
          | false =>
            have hp : ∀ d f : Bool, rightM ⟨false, true, false, d, f⟩ = true → (stepM ⟨false, true, false, d, f⟩ 7).to = false ∧ (stepM ⟨false, true, false, d, f⟩ 7).fr = true := by decide
            obtain ⟨h0, h1⟩ := hp d f HR.out
            clear hp
            obtain ⟨⟨x0, x1, x2, x3, x4⟩, hA⟩ : ∃ A, stepM ⟨false, true, false, d, f⟩ 7 = A := ⟨_, rfl⟩
            rw [hA] at h0 h1
            simp only at h0 h1
            obtain rfl := h0.symm
            obtain rfl := h1.symm
            have HA := Lib.hid hA
            clear hA
            have cp0 : v0.cell? ⟨p, 0, none⟩ = some (.bool false) := Kp_1.out.cell 0
            have cp1 : v0.cell? ⟨p, 1, none⟩ = some (.bool true) := Kp_1.out.cell 1
            have cp2 : v0.cell? ⟨p, 2, none⟩ = some (.bool false) := Kp_1.out.cell 2
            have cp3 : v0.cell? ⟨p, 3, none⟩ = some (.bool d) := Kp_1.out.cell 3
            have cp4 : v0.cell? ⟨p, 4, none⟩ = some (.bool f) := Kp_1.out.cell 4
            obtain ⟨r1, hr1⟩ : ∃ r, (!decide ((⟨false, true, x2, x3, x4⟩ : Mod) = ⟨false, true, false, d, f⟩)) = r := ⟨_, rfl⟩
            have HS1 := Lib.hid (step_at ⟨false, true, false, d, f⟩ ⟨false, true, x2, x3, x4⟩ (7) r1 (HA.out) hr1 v0)
            clear hr1
            go_wp2_with fail
            refine HS1.out.mono ?_
            rintro e v1 ⟨rfl, b1⟩
            clear cp0 cp1 cp2 cp3 cp4
            have Kp_2 : Hid (Bk v1 p 23 #[.bool false, .bool true, .bool false, .bool d, .bool f]) := Kp_1.out.below b1 Kp_1.out.lt
            have B_2 : Hid (Below w.heap.size w v1) := B_1.out.trans (b1.mono B_1.out.size)
            clear Kp_1 B_1
            clear b1
            obtain ⟨W3, hW3⟩ : ∃ W, v1.alloc (.cells #[.bool false, .bool true, .bool x2, .bool x3, .bool x4] 23) = W := ⟨_, rfl⟩
            obtain ⟨q, hq⟩ : ∃ g, v1.heap.size = g := ⟨_, rfl⟩
            have Kp_3 : Hid (Bk W3 p 23 #[.bool false, .bool true, .bool false, .bool d, .bool f]) := by rw [← hW3]; exact Kp_2.out.alloc _
            have HNpq : Hid (p < q) := by have := Kp_2.out.lt; unfold Hid; omega
            have Kq_3 : Hid (Bk W3 q 23 #[.bool false, .bool true, .bool x2, .bool x3, .bool x4]) := by rw [← hW3, ← hq]; exact Bk.new _ _ _
            have B_3 : Hid (Below w.heap.size w W3) := by rw [← hW3]; exact B_2.out.alloc B_2.out.size _
            have HLq : Hid (w.heap.size ≤ q) := by have := B_2.out.size; unfold Hid; omega
            have HW3 := Lib.hid hW3
            have HAq := Lib.hid hq
            clear hW3 hq
            clear Kp_2 B_2
            go_upto_region 5 with fail
            (try rw [HW3.out])
            (try rw [HAq.out])
            have cp0 : W3.cell? ⟨p, 0, none⟩ = some (.bool false) := Kp_3.out.cell 0
            have cp1 : W3.cell? ⟨p, 1, none⟩ = some (.bool true) := Kp_3.out.cell 1
            have cp2 : W3.cell? ⟨p, 2, none⟩ = some (.bool false) := Kp_3.out.cell 2
            have cp3 : W3.cell? ⟨p, 3, none⟩ = some (.bool d) := Kp_3.out.cell 3
            have cp4 : W3.cell? ⟨p, 4, none⟩ = some (.bool f) := Kp_3.out.cell 4
            go_region
            clear cp0 cp1 cp2 cp3 cp4
            obtain ⟨W4, hW4⟩ : ∃ z, W3.drew = z := ⟨_, rfl⟩
            have Kp_4 : Hid (Bk W4 p 23 #[.bool false, .bool true, .bool false, .bool d, .bool f]) := by rw [← hW4]; exact Kp_3.out.drew
            have Kq_4 : Hid (Bk W4 q 23 #[.bool false, .bool true, .bool x2, .bool x3, .bool x4]) := by rw [← hW4]; exact Kq_3.out.drew
            have B_4 : Hid (Below w.heap.size w W4) := by rw [← hW4]; exact B_3.out.drew
            rw [hW4]
            clear hW4
            clear Kp_3 Kq_3 B_3
            have HIN : Hid (∀ W, Calls Try.prog 17 #[.agg #[.string ⟨#[97, 64, 98]⟩, .string ⟨#[110]⟩, .slice none 0 0, .int .i64 0, .bool false, .bool false], .agg #[.bool false, .bool true, .bool x2, .bool x3, .bool x4]] W fun e w' => ∃ iA cap, e = .returned (.agg #[.string ⟨#[97, 64, 98]⟩, .string ⟨#[110]⟩, .slice iA 0 cap, .int .i64 2, .bool x2, .bool x4]) ∧ Below W.heap.size W w') := fun W => by
              refine (into_any ⟨[97, 64, 98], [110], [], 0, false, false⟩ (.slice none 0 0) ⟨false, true, x2, x3, x4⟩ W (ReadT.nil _ _ _) (by decide)).mono ?_
              rintro e w' ⟨gv', he, ho, hb⟩
              obtain ⟨A, cap, hv⟩ := ho.slice
              subst hv
              exact ⟨A, cap, by rw [he]; rfl, hb⟩
            have cp0 : W4.cell? ⟨p, 0, none⟩ = some (.bool false) := Kp_4.out.cell 0
            have cp1 : W4.cell? ⟨p, 1, none⟩ = some (.bool true) := Kp_4.out.cell 1
            have cp2 : W4.cell? ⟨p, 2, none⟩ = some (.bool false) := Kp_4.out.cell 2
            have cp3 : W4.cell? ⟨p, 3, none⟩ = some (.bool d) := Kp_4.out.cell 3
            have cp4 : W4.cell? ⟨p, 4, none⟩ = some (.bool f) := Kp_4.out.cell 4
            have cq0 : W4.cell? ⟨q, 0, none⟩ = some (.bool false) := Kq_4.out.cell 0
            have cq1 : W4.cell? ⟨q, 1, none⟩ = some (.bool true) := Kq_4.out.cell 1
            have cq2 : W4.cell? ⟨q, 2, none⟩ = some (.bool x2) := Kq_4.out.cell 2
            have cq3 : W4.cell? ⟨q, 3, none⟩ = some (.bool x3) := Kq_4.out.cell 3
            have cq4 : W4.cell? ⟨q, 4, none⟩ = some (.bool x4) := Kq_4.out.cell 4
            go_wp2_with fail
            refine (HIN.out _).mono ?_
            rintro e v4 ⟨iA, icap, rfl, b4⟩
            clear cp0 cp1 cp2 cp3 cp4 cq0 cq1 cq2 cq3 cq4
            have Kp_5 : Hid (Bk v4 p 23 #[.bool false, .bool true, .bool false, .bool d, .bool f]) := Kp_4.out.below b4 Kp_4.out.lt
            have Kq_5 : Hid (Bk v4 q 23 #[.bool false, .bool true, .bool x2, .bool x3, .bool x4]) := Kq_4.out.below b4 Kq_4.out.lt
            have B_5 : Hid (Below w.heap.size w v4) := B_4.out.trans (b4.mono B_4.out.size)
            clear Kp_4 Kq_4 B_4
            clear b4
            obtain ⟨W6, hW6⟩ : ∃ W, v4.alloc (.cells #[.string ⟨#[97, 64, 98]⟩, .string ⟨#[110]⟩, .slice iA 0 icap, .int .i64 2, .bool x2, .bool x4] 26) = W := ⟨_, rfl⟩
            obtain ⟨u, hu⟩ : ∃ g, v4.heap.size = g := ⟨_, rfl⟩
            have Kp_6 : Hid (Bk W6 p 23 #[.bool false, .bool true, .bool false, .bool d, .bool f]) := by rw [← hW6]; exact Kp_5.out.alloc _
            have HNpu : Hid (p < u) := by have := Kp_5.out.lt; unfold Hid; omega
            have Kq_6 : Hid (Bk W6 q 23 #[.bool false, .bool true, .bool x2, .bool x3, .bool x4]) := by rw [← hW6]; exact Kq_5.out.alloc _
            have HNqu : Hid (q < u) := by have := Kq_5.out.lt; unfold Hid; omega
            have Ku_6 : Hid (Bk W6 u 26 #[.string ⟨#[97, 64, 98]⟩, .string ⟨#[110]⟩, .slice iA 0 icap, .int .i64 2, .bool x2, .bool x4]) := by rw [← hW6, ← hu]; exact Bk.new _ _ _
            have B_6 : Hid (Below w.heap.size w W6) := by rw [← hW6]; exact B_5.out.alloc B_5.out.size _
            have HLu : Hid (w.heap.size ≤ u) := by have := B_5.out.size; unfold Hid; omega
            have HW6 := Lib.hid hW6
            have HAu := Lib.hid hu
            clear hW6 hu
            clear Kp_5 Kq_5 B_5
            go_upto_region 20 with fail
            (try rw [HW6.out])
            (try rw [HAu.out])
            go_wp2_with fail
            refine (HAW.out W6).mono ?_
            rintro e v6 ⟨rfl, b6⟩
            have KU := Ku_6.out.below b6 Ku_6.out.lt
            have Kp_7 : Hid (Bk v6 p 23 #[.bool false, .bool true, .bool false, .bool d, .bool f]) := Kp_6.out.below b6 Kp_6.out.lt
            have Kq_7 : Hid (Bk v6 q 23 #[.bool false, .bool true, .bool x2, .bool x3, .bool x4]) := Kq_6.out.below b6 Kq_6.out.lt
            have B_7 : Hid (Below w.heap.size w v6) := B_6.out.trans (b6.mono B_6.out.size)
            clear Kp_6 Kq_6 B_6
            clear b6
            have cq0 : v6.cell? ⟨q, 0, none⟩ = some (.bool false) := Kq_7.out.cell 0
            have cq1 : v6.cell? ⟨q, 1, none⟩ = some (.bool true) := Kq_7.out.cell 1
            have cq2 : v6.cell? ⟨q, 2, none⟩ = some (.bool x2) := Kq_7.out.cell 2
            have cq3 : v6.cell? ⟨q, 3, none⟩ = some (.bool x3) := Kq_7.out.cell 3
            have cq4 : v6.cell? ⟨q, 4, none⟩ = some (.bool x4) := Kq_7.out.cell 4
            have y0 : v6.cell? ⟨u, 0, none⟩ = some (.string ⟨#[97, 64, 98]⟩) := KU.cell 0
            have y1 : v6.cell? ⟨u, 1, none⟩ = some (.string ⟨#[110]⟩) := KU.cell 1
            have y2 : v6.cell? ⟨u, 2, none⟩ = some (.slice iA 0 icap) := KU.cell 2
            have y3 : v6.cell? ⟨u, 3, none⟩ = some (.int .i64 2) := KU.cell 3
            have y4 : v6.cell? ⟨u, 4, none⟩ = some (.bool x2) := KU.cell 4
            have y5 : v6.cell? ⟨u, 5, none⟩ = some (.bool x4) := KU.cell 5
            have ht : ((⟨#[110]⟩ : ByteArray).toList == (⟨#[110]⟩ : ByteArray).toList) = true := by simp
            clear KU
            go_wp2_with fail
            go_ret
            exact ⟨rfl, B_7.out⟩
          | true =>
            have hp : ∀ d f : Bool, rightM ⟨false, true, true, d, f⟩ = true → (stepM ⟨false, true, true, d, f⟩ 7).to = true ∧ (stepM ⟨false, true, true, d, f⟩ 7).fr = true := by decide
            obtain ⟨h0, h1⟩ := hp d f HR.out
            clear hp
            obtain ⟨⟨x0, x1, x2, x3, x4⟩, hA⟩ : ∃ A, stepM ⟨false, true, true, d, f⟩ 7 = A := ⟨_, rfl⟩
            rw [hA] at h0 h1
            simp only at h0 h1
            obtain rfl := h0.symm
            obtain rfl := h1.symm
            have HA := Lib.hid hA
            clear hA
            have cp0 : v0.cell? ⟨p, 0, none⟩ = some (.bool false) := Kp_1.out.cell 0
            have cp1 : v0.cell? ⟨p, 1, none⟩ = some (.bool true) := Kp_1.out.cell 1
            have cp2 : v0.cell? ⟨p, 2, none⟩ = some (.bool true) := Kp_1.out.cell 2
            have cp3 : v0.cell? ⟨p, 3, none⟩ = some (.bool d) := Kp_1.out.cell 3
            have cp4 : v0.cell? ⟨p, 4, none⟩ = some (.bool f) := Kp_1.out.cell 4
            obtain ⟨r1, hr1⟩ : ∃ r, (!decide ((⟨true, true, x2, x3, x4⟩ : Mod) = ⟨false, true, true, d, f⟩)) = r := ⟨_, rfl⟩
            have HS1 := Lib.hid (step_at ⟨false, true, true, d, f⟩ ⟨true, true, x2, x3, x4⟩ (7) r1 (HA.out) hr1 v0)
            clear hr1
            go_wp2_with fail
            refine HS1.out.mono ?_
            rintro e v1 ⟨rfl, b1⟩
            clear cp0 cp1 cp2 cp3 cp4
            have Kp_2 : Hid (Bk v1 p 23 #[.bool false, .bool true, .bool true, .bool d, .bool f]) := Kp_1.out.below b1 Kp_1.out.lt
            have B_2 : Hid (Below w.heap.size w v1) := B_1.out.trans (b1.mono B_1.out.size)
            clear Kp_1 B_1
            clear b1
            obtain ⟨W3, hW3⟩ : ∃ W, v1.alloc (.cells #[.bool true, .bool true, .bool x2, .bool x3, .bool x4] 23) = W := ⟨_, rfl⟩
            obtain ⟨q, hq⟩ : ∃ g, v1.heap.size = g := ⟨_, rfl⟩
            have Kp_3 : Hid (Bk W3 p 23 #[.bool false, .bool true, .bool true, .bool d, .bool f]) := by rw [← hW3]; exact Kp_2.out.alloc _
            have HNpq : Hid (p < q) := by have := Kp_2.out.lt; unfold Hid; omega
            have Kq_3 : Hid (Bk W3 q 23 #[.bool true, .bool true, .bool x2, .bool x3, .bool x4]) := by rw [← hW3, ← hq]; exact Bk.new _ _ _
            have B_3 : Hid (Below w.heap.size w W3) := by rw [← hW3]; exact B_2.out.alloc B_2.out.size _
            have HLq : Hid (w.heap.size ≤ q) := by have := B_2.out.size; unfold Hid; omega
            have HW3 := Lib.hid hW3
            have HAq := Lib.hid hq
            clear hW3 hq
            clear Kp_2 B_2
            go_upto_region 5 with fail
            (try rw [HW3.out])
            (try rw [HAq.out])
            have cp0 : W3.cell? ⟨p, 0, none⟩ = some (.bool false) := Kp_3.out.cell 0
            have cp1 : W3.cell? ⟨p, 1, none⟩ = some (.bool true) := Kp_3.out.cell 1
            have cp2 : W3.cell? ⟨p, 2, none⟩ = some (.bool true) := Kp_3.out.cell 2
            have cp3 : W3.cell? ⟨p, 3, none⟩ = some (.bool d) := Kp_3.out.cell 3
            have cp4 : W3.cell? ⟨p, 4, none⟩ = some (.bool f) := Kp_3.out.cell 4
            go_region
            clear cp0 cp1 cp2 cp3 cp4
            obtain ⟨W4, hW4⟩ : ∃ z, W3.drew = z := ⟨_, rfl⟩
            have Kp_4 : Hid (Bk W4 p 23 #[.bool false, .bool true, .bool true, .bool d, .bool f]) := by rw [← hW4]; exact Kp_3.out.drew
            have Kq_4 : Hid (Bk W4 q 23 #[.bool true, .bool true, .bool x2, .bool x3, .bool x4]) := by rw [← hW4]; exact Kq_3.out.drew
            have B_4 : Hid (Below w.heap.size w W4) := by rw [← hW4]; exact B_3.out.drew
            rw [hW4]
            clear hW4
            clear Kp_3 Kq_3 B_3
            have HIN : Hid (∀ W, Calls Try.prog 17 #[.agg #[.string ⟨#[97, 64, 98]⟩, .string ⟨#[110]⟩, .slice none 0 0, .int .i64 0, .bool false, .bool false], .agg #[.bool true, .bool true, .bool x2, .bool x3, .bool x4]] W fun e w' => ∃ iA cap, e = .returned (.agg #[.string ⟨#[97, 64, 98]⟩, .string ⟨#[110]⟩, .slice iA 0 cap, .int .i64 3, .bool x2, .bool x4]) ∧ Below W.heap.size W w') := fun W => by
              refine (into_any ⟨[97, 64, 98], [110], [], 0, false, false⟩ (.slice none 0 0) ⟨true, true, x2, x3, x4⟩ W (ReadT.nil _ _ _) (by decide)).mono ?_
              rintro e w' ⟨gv', he, ho, hb⟩
              obtain ⟨A, cap, hv⟩ := ho.slice
              subst hv
              exact ⟨A, cap, by rw [he]; rfl, hb⟩
            have cp0 : W4.cell? ⟨p, 0, none⟩ = some (.bool false) := Kp_4.out.cell 0
            have cp1 : W4.cell? ⟨p, 1, none⟩ = some (.bool true) := Kp_4.out.cell 1
            have cp2 : W4.cell? ⟨p, 2, none⟩ = some (.bool true) := Kp_4.out.cell 2
            have cp3 : W4.cell? ⟨p, 3, none⟩ = some (.bool d) := Kp_4.out.cell 3
            have cp4 : W4.cell? ⟨p, 4, none⟩ = some (.bool f) := Kp_4.out.cell 4
            have cq0 : W4.cell? ⟨q, 0, none⟩ = some (.bool true) := Kq_4.out.cell 0
            have cq1 : W4.cell? ⟨q, 1, none⟩ = some (.bool true) := Kq_4.out.cell 1
            have cq2 : W4.cell? ⟨q, 2, none⟩ = some (.bool x2) := Kq_4.out.cell 2
            have cq3 : W4.cell? ⟨q, 3, none⟩ = some (.bool x3) := Kq_4.out.cell 3
            have cq4 : W4.cell? ⟨q, 4, none⟩ = some (.bool x4) := Kq_4.out.cell 4
            go_wp2_with fail
            refine (HIN.out _).mono ?_
            rintro e v4 ⟨iA, icap, rfl, b4⟩
            clear cp0 cp1 cp2 cp3 cp4 cq0 cq1 cq2 cq3 cq4
            have Kp_5 : Hid (Bk v4 p 23 #[.bool false, .bool true, .bool true, .bool d, .bool f]) := Kp_4.out.below b4 Kp_4.out.lt
            have Kq_5 : Hid (Bk v4 q 23 #[.bool true, .bool true, .bool x2, .bool x3, .bool x4]) := Kq_4.out.below b4 Kq_4.out.lt
            have B_5 : Hid (Below w.heap.size w v4) := B_4.out.trans (b4.mono B_4.out.size)
            clear Kp_4 Kq_4 B_4
            clear b4
            obtain ⟨W6, hW6⟩ : ∃ W, v4.alloc (.cells #[.string ⟨#[97, 64, 98]⟩, .string ⟨#[110]⟩, .slice iA 0 icap, .int .i64 3, .bool x2, .bool x4] 26) = W := ⟨_, rfl⟩
            obtain ⟨u, hu⟩ : ∃ g, v4.heap.size = g := ⟨_, rfl⟩
            have Kp_6 : Hid (Bk W6 p 23 #[.bool false, .bool true, .bool true, .bool d, .bool f]) := by rw [← hW6]; exact Kp_5.out.alloc _
            have HNpu : Hid (p < u) := by have := Kp_5.out.lt; unfold Hid; omega
            have Kq_6 : Hid (Bk W6 q 23 #[.bool true, .bool true, .bool x2, .bool x3, .bool x4]) := by rw [← hW6]; exact Kq_5.out.alloc _
            have HNqu : Hid (q < u) := by have := Kq_5.out.lt; unfold Hid; omega
            have Ku_6 : Hid (Bk W6 u 26 #[.string ⟨#[97, 64, 98]⟩, .string ⟨#[110]⟩, .slice iA 0 icap, .int .i64 3, .bool x2, .bool x4]) := by rw [← hW6, ← hu]; exact Bk.new _ _ _
            have B_6 : Hid (Below w.heap.size w W6) := by rw [← hW6]; exact B_5.out.alloc B_5.out.size _
            have HLu : Hid (w.heap.size ≤ u) := by have := B_5.out.size; unfold Hid; omega
            have HW6 := Lib.hid hW6
            have HAu := Lib.hid hu
            clear hW6 hu
            clear Kp_5 Kq_5 B_5
            go_upto_region 20 with fail
            (try rw [HW6.out])
            (try rw [HAu.out])
            go_wp2_with fail
            refine (HAW.out W6).mono ?_
            rintro e v6 ⟨rfl, b6⟩
            have KU := Ku_6.out.below b6 Ku_6.out.lt
            have Kp_7 : Hid (Bk v6 p 23 #[.bool false, .bool true, .bool true, .bool d, .bool f]) := Kp_6.out.below b6 Kp_6.out.lt
            have Kq_7 : Hid (Bk v6 q 23 #[.bool true, .bool true, .bool x2, .bool x3, .bool x4]) := Kq_6.out.below b6 Kq_6.out.lt
            have B_7 : Hid (Below w.heap.size w v6) := B_6.out.trans (b6.mono B_6.out.size)
            clear Kp_6 Kq_6 B_6
            clear b6
            have cq0 : v6.cell? ⟨q, 0, none⟩ = some (.bool true) := Kq_7.out.cell 0
            have cq1 : v6.cell? ⟨q, 1, none⟩ = some (.bool true) := Kq_7.out.cell 1
            have cq2 : v6.cell? ⟨q, 2, none⟩ = some (.bool x2) := Kq_7.out.cell 2
            have cq3 : v6.cell? ⟨q, 3, none⟩ = some (.bool x3) := Kq_7.out.cell 3
            have cq4 : v6.cell? ⟨q, 4, none⟩ = some (.bool x4) := Kq_7.out.cell 4
            have y0 : v6.cell? ⟨u, 0, none⟩ = some (.string ⟨#[97, 64, 98]⟩) := KU.cell 0
            have y1 : v6.cell? ⟨u, 1, none⟩ = some (.string ⟨#[110]⟩) := KU.cell 1
            have y2 : v6.cell? ⟨u, 2, none⟩ = some (.slice iA 0 icap) := KU.cell 2
            have y3 : v6.cell? ⟨u, 3, none⟩ = some (.int .i64 3) := KU.cell 3
            have y4 : v6.cell? ⟨u, 4, none⟩ = some (.bool x2) := KU.cell 4
            have y5 : v6.cell? ⟨u, 5, none⟩ = some (.bool x4) := KU.cell 5
            have ht : ((⟨#[110]⟩ : ByteArray).toList == (⟨#[110]⟩ : ByteArray).toList) = true := by simp
            clear KU
            go_wp2_with fail
            go_ret
            exact ⟨rfl, B_7.out⟩
        | true =>
          have hp : ∀ c d f : Bool, rightM ⟨true, true, c, d, f⟩ = true → (stepM ⟨true, true, c, d, f⟩ 7).to = true ∧ (stepM ⟨true, true, c, d, f⟩ 7).fr = true := by decide
          obtain ⟨h0, h1⟩ := hp c d f HR.out
          clear hp
          obtain ⟨⟨x0, x1, x2, x3, x4⟩, hA⟩ : ∃ A, stepM ⟨true, true, c, d, f⟩ 7 = A := ⟨_, rfl⟩
          rw [hA] at h0 h1
          simp only at h0 h1
          obtain rfl := h0.symm
          obtain rfl := h1.symm
          have HA := Lib.hid hA
          clear hA
          have cp0 : v0.cell? ⟨p, 0, none⟩ = some (.bool true) := Kp_1.out.cell 0
          have cp1 : v0.cell? ⟨p, 1, none⟩ = some (.bool true) := Kp_1.out.cell 1
          have cp2 : v0.cell? ⟨p, 2, none⟩ = some (.bool c) := Kp_1.out.cell 2
          have cp3 : v0.cell? ⟨p, 3, none⟩ = some (.bool d) := Kp_1.out.cell 3
          have cp4 : v0.cell? ⟨p, 4, none⟩ = some (.bool f) := Kp_1.out.cell 4
          obtain ⟨r1, hr1⟩ : ∃ r, (!decide ((⟨true, true, x2, x3, x4⟩ : Mod) = ⟨true, true, c, d, f⟩)) = r := ⟨_, rfl⟩
          have HS1 := Lib.hid (step_at ⟨true, true, c, d, f⟩ ⟨true, true, x2, x3, x4⟩ (7) r1 (HA.out) hr1 v0)
          clear hr1
          go_wp2_with fail
          refine HS1.out.mono ?_
          rintro e v1 ⟨rfl, b1⟩
          clear cp0 cp1 cp2 cp3 cp4
          have Kp_2 : Hid (Bk v1 p 23 #[.bool true, .bool true, .bool c, .bool d, .bool f]) := Kp_1.out.below b1 Kp_1.out.lt
          have B_2 : Hid (Below w.heap.size w v1) := B_1.out.trans (b1.mono B_1.out.size)
          clear Kp_1 B_1
          clear b1
          obtain ⟨W3, hW3⟩ : ∃ W, v1.alloc (.cells #[.bool true, .bool true, .bool x2, .bool x3, .bool x4] 23) = W := ⟨_, rfl⟩
          obtain ⟨q, hq⟩ : ∃ g, v1.heap.size = g := ⟨_, rfl⟩
          have Kp_3 : Hid (Bk W3 p 23 #[.bool true, .bool true, .bool c, .bool d, .bool f]) := by rw [← hW3]; exact Kp_2.out.alloc _
          have HNpq : Hid (p < q) := by have := Kp_2.out.lt; unfold Hid; omega
          have Kq_3 : Hid (Bk W3 q 23 #[.bool true, .bool true, .bool x2, .bool x3, .bool x4]) := by rw [← hW3, ← hq]; exact Bk.new _ _ _
          have B_3 : Hid (Below w.heap.size w W3) := by rw [← hW3]; exact B_2.out.alloc B_2.out.size _
          have HLq : Hid (w.heap.size ≤ q) := by have := B_2.out.size; unfold Hid; omega
          have HW3 := Lib.hid hW3
          have HAq := Lib.hid hq
          clear hW3 hq
          clear Kp_2 B_2
          go_upto_region 5 with fail
          (try rw [HW3.out])
          (try rw [HAq.out])
          have cp0 : W3.cell? ⟨p, 0, none⟩ = some (.bool true) := Kp_3.out.cell 0
          have cp1 : W3.cell? ⟨p, 1, none⟩ = some (.bool true) := Kp_3.out.cell 1
          have cp2 : W3.cell? ⟨p, 2, none⟩ = some (.bool c) := Kp_3.out.cell 2
          have cp3 : W3.cell? ⟨p, 3, none⟩ = some (.bool d) := Kp_3.out.cell 3
          have cp4 : W3.cell? ⟨p, 4, none⟩ = some (.bool f) := Kp_3.out.cell 4
          go_region
          clear cp0 cp1 cp2 cp3 cp4
          obtain ⟨W4, hW4⟩ : ∃ z, W3.drew = z := ⟨_, rfl⟩
          have Kp_4 : Hid (Bk W4 p 23 #[.bool true, .bool true, .bool c, .bool d, .bool f]) := by rw [← hW4]; exact Kp_3.out.drew
          have Kq_4 : Hid (Bk W4 q 23 #[.bool true, .bool true, .bool x2, .bool x3, .bool x4]) := by rw [← hW4]; exact Kq_3.out.drew
          have B_4 : Hid (Below w.heap.size w W4) := by rw [← hW4]; exact B_3.out.drew
          rw [hW4]
          clear hW4
          clear Kp_3 Kq_3 B_3
          have HIN : Hid (∀ W, Calls Try.prog 17 #[.agg #[.string ⟨#[97, 64, 98]⟩, .string ⟨#[110]⟩, .slice none 0 0, .int .i64 0, .bool false, .bool false], .agg #[.bool true, .bool true, .bool x2, .bool x3, .bool x4]] W fun e w' => ∃ iA cap, e = .returned (.agg #[.string ⟨#[97, 64, 98]⟩, .string ⟨#[110]⟩, .slice iA 0 cap, .int .i64 3, .bool x2, .bool x4]) ∧ Below W.heap.size W w') := fun W => by
            refine (into_any ⟨[97, 64, 98], [110], [], 0, false, false⟩ (.slice none 0 0) ⟨true, true, x2, x3, x4⟩ W (ReadT.nil _ _ _) (by decide)).mono ?_
            rintro e w' ⟨gv', he, ho, hb⟩
            obtain ⟨A, cap, hv⟩ := ho.slice
            subst hv
            exact ⟨A, cap, by rw [he]; rfl, hb⟩
          have cp0 : W4.cell? ⟨p, 0, none⟩ = some (.bool true) := Kp_4.out.cell 0
          have cp1 : W4.cell? ⟨p, 1, none⟩ = some (.bool true) := Kp_4.out.cell 1
          have cp2 : W4.cell? ⟨p, 2, none⟩ = some (.bool c) := Kp_4.out.cell 2
          have cp3 : W4.cell? ⟨p, 3, none⟩ = some (.bool d) := Kp_4.out.cell 3
          have cp4 : W4.cell? ⟨p, 4, none⟩ = some (.bool f) := Kp_4.out.cell 4
          have cq0 : W4.cell? ⟨q, 0, none⟩ = some (.bool true) := Kq_4.out.cell 0
          have cq1 : W4.cell? ⟨q, 1, none⟩ = some (.bool true) := Kq_4.out.cell 1
          have cq2 : W4.cell? ⟨q, 2, none⟩ = some (.bool x2) := Kq_4.out.cell 2
          have cq3 : W4.cell? ⟨q, 3, none⟩ = some (.bool x3) := Kq_4.out.cell 3
          have cq4 : W4.cell? ⟨q, 4, none⟩ = some (.bool x4) := Kq_4.out.cell 4
          go_wp2_with fail
          refine (HIN.out _).mono ?_
          rintro e v4 ⟨iA, icap, rfl, b4⟩
          clear cp0 cp1 cp2 cp3 cp4 cq0 cq1 cq2 cq3 cq4
          have Kp_5 : Hid (Bk v4 p 23 #[.bool true, .bool true, .bool c, .bool d, .bool f]) := Kp_4.out.below b4 Kp_4.out.lt
          have Kq_5 : Hid (Bk v4 q 23 #[.bool true, .bool true, .bool x2, .bool x3, .bool x4]) := Kq_4.out.below b4 Kq_4.out.lt
          have B_5 : Hid (Below w.heap.size w v4) := B_4.out.trans (b4.mono B_4.out.size)
          clear Kp_4 Kq_4 B_4
          clear b4
          obtain ⟨W6, hW6⟩ : ∃ W, v4.alloc (.cells #[.string ⟨#[97, 64, 98]⟩, .string ⟨#[110]⟩, .slice iA 0 icap, .int .i64 3, .bool x2, .bool x4] 26) = W := ⟨_, rfl⟩
          obtain ⟨u, hu⟩ : ∃ g, v4.heap.size = g := ⟨_, rfl⟩
          have Kp_6 : Hid (Bk W6 p 23 #[.bool true, .bool true, .bool c, .bool d, .bool f]) := by rw [← hW6]; exact Kp_5.out.alloc _
          have HNpu : Hid (p < u) := by have := Kp_5.out.lt; unfold Hid; omega
          have Kq_6 : Hid (Bk W6 q 23 #[.bool true, .bool true, .bool x2, .bool x3, .bool x4]) := by rw [← hW6]; exact Kq_5.out.alloc _
          have HNqu : Hid (q < u) := by have := Kq_5.out.lt; unfold Hid; omega
          have Ku_6 : Hid (Bk W6 u 26 #[.string ⟨#[97, 64, 98]⟩, .string ⟨#[110]⟩, .slice iA 0 icap, .int .i64 3, .bool x2, .bool x4]) := by rw [← hW6, ← hu]; exact Bk.new _ _ _
          have B_6 : Hid (Below w.heap.size w W6) := by rw [← hW6]; exact B_5.out.alloc B_5.out.size _
          have HLu : Hid (w.heap.size ≤ u) := by have := B_5.out.size; unfold Hid; omega
          have HW6 := Lib.hid hW6
          have HAu := Lib.hid hu
          clear hW6 hu
          clear Kp_5 Kq_5 B_5
          go_upto_region 20 with fail
          (try rw [HW6.out])
          (try rw [HAu.out])
          go_wp2_with fail
          refine (HAW.out W6).mono ?_
          rintro e v6 ⟨rfl, b6⟩
          have KU := Ku_6.out.below b6 Ku_6.out.lt
          have Kp_7 : Hid (Bk v6 p 23 #[.bool true, .bool true, .bool c, .bool d, .bool f]) := Kp_6.out.below b6 Kp_6.out.lt
          have Kq_7 : Hid (Bk v6 q 23 #[.bool true, .bool true, .bool x2, .bool x3, .bool x4]) := Kq_6.out.below b6 Kq_6.out.lt
          have B_7 : Hid (Below w.heap.size w v6) := B_6.out.trans (b6.mono B_6.out.size)
          clear Kp_6 Kq_6 B_6
          clear b6
          have cq0 : v6.cell? ⟨q, 0, none⟩ = some (.bool true) := Kq_7.out.cell 0
          have cq1 : v6.cell? ⟨q, 1, none⟩ = some (.bool true) := Kq_7.out.cell 1
          have cq2 : v6.cell? ⟨q, 2, none⟩ = some (.bool x2) := Kq_7.out.cell 2
          have cq3 : v6.cell? ⟨q, 3, none⟩ = some (.bool x3) := Kq_7.out.cell 3
          have cq4 : v6.cell? ⟨q, 4, none⟩ = some (.bool x4) := Kq_7.out.cell 4
          have y0 : v6.cell? ⟨u, 0, none⟩ = some (.string ⟨#[97, 64, 98]⟩) := KU.cell 0
          have y1 : v6.cell? ⟨u, 1, none⟩ = some (.string ⟨#[110]⟩) := KU.cell 1
          have y2 : v6.cell? ⟨u, 2, none⟩ = some (.slice iA 0 icap) := KU.cell 2
          have y3 : v6.cell? ⟨u, 3, none⟩ = some (.int .i64 3) := KU.cell 3
          have y4 : v6.cell? ⟨u, 4, none⟩ = some (.bool x2) := KU.cell 4
          have y5 : v6.cell? ⟨u, 5, none⟩ = some (.bool x4) := KU.cell 5
          have ht : ((⟨#[110]⟩ : ByteArray).toList == (⟨#[110]⟩ : ByteArray).toList) = true := by simp
          clear KU
          go_wp2_with fail
          go_ret
          exact ⟨rfl, B_7.out⟩
    · skip
      cases b with
      | false =>
        have hp : ∀ a c d f : Bool, rightM ⟨a, false, c, d, f⟩ = true → (stepM ⟨a, false, c, d, f⟩ 8).to = false ∧ (stepM ⟨a, false, c, d, f⟩ 8).fr = false := by decide
        obtain ⟨h0, h1⟩ := hp a c d f HR.out
        clear hp
        obtain ⟨⟨x0, x1, x2, x3, x4⟩, hA⟩ : ∃ A, stepM ⟨a, false, c, d, f⟩ 8 = A := ⟨_, rfl⟩
        rw [hA] at h0 h1
        simp only at h0 h1
        obtain rfl := h0.symm
        obtain rfl := h1.symm
        have HA := Lib.hid hA
        clear hA
        have cp0 : v0.cell? ⟨p, 0, none⟩ = some (.bool a) := Kp_1.out.cell 0
        have cp1 : v0.cell? ⟨p, 1, none⟩ = some (.bool false) := Kp_1.out.cell 1
        have cp2 : v0.cell? ⟨p, 2, none⟩ = some (.bool c) := Kp_1.out.cell 2
        have cp3 : v0.cell? ⟨p, 3, none⟩ = some (.bool d) := Kp_1.out.cell 3
        have cp4 : v0.cell? ⟨p, 4, none⟩ = some (.bool f) := Kp_1.out.cell 4
        obtain ⟨r1, hr1⟩ : ∃ r, (!decide ((⟨false, false, x2, x3, x4⟩ : Mod) = ⟨a, false, c, d, f⟩)) = r := ⟨_, rfl⟩
        have HS1 := Lib.hid (step_at ⟨a, false, c, d, f⟩ ⟨false, false, x2, x3, x4⟩ (8) r1 (HA.out) hr1 v0)
        clear hr1
        go_wp2_with fail
        refine HS1.out.mono ?_
        rintro e v1 ⟨rfl, b1⟩
        clear cp0 cp1 cp2 cp3 cp4
        have Kp_2 : Hid (Bk v1 p 23 #[.bool a, .bool false, .bool c, .bool d, .bool f]) := Kp_1.out.below b1 Kp_1.out.lt
        have B_2 : Hid (Below w.heap.size w v1) := B_1.out.trans (b1.mono B_1.out.size)
        clear Kp_1 B_1
        clear b1
        obtain ⟨W3, hW3⟩ : ∃ W, v1.alloc (.cells #[.bool false, .bool false, .bool x2, .bool x3, .bool x4] 23) = W := ⟨_, rfl⟩
        obtain ⟨q, hq⟩ : ∃ g, v1.heap.size = g := ⟨_, rfl⟩
        have Kp_3 : Hid (Bk W3 p 23 #[.bool a, .bool false, .bool c, .bool d, .bool f]) := by rw [← hW3]; exact Kp_2.out.alloc _
        have HNpq : Hid (p < q) := by have := Kp_2.out.lt; unfold Hid; omega
        have Kq_3 : Hid (Bk W3 q 23 #[.bool false, .bool false, .bool x2, .bool x3, .bool x4]) := by rw [← hW3, ← hq]; exact Bk.new _ _ _
        have B_3 : Hid (Below w.heap.size w W3) := by rw [← hW3]; exact B_2.out.alloc B_2.out.size _
        have HLq : Hid (w.heap.size ≤ q) := by have := B_2.out.size; unfold Hid; omega
        have HW3 := Lib.hid hW3
        have HAq := Lib.hid hq
        clear hW3 hq
        clear Kp_2 B_2
        go_upto_region 5 with fail
        (try rw [HW3.out])
        (try rw [HAq.out])
        have cp0 : W3.cell? ⟨p, 0, none⟩ = some (.bool a) := Kp_3.out.cell 0
        have cp1 : W3.cell? ⟨p, 1, none⟩ = some (.bool false) := Kp_3.out.cell 1
        have cp2 : W3.cell? ⟨p, 2, none⟩ = some (.bool c) := Kp_3.out.cell 2
        have cp3 : W3.cell? ⟨p, 3, none⟩ = some (.bool d) := Kp_3.out.cell 3
        have cp4 : W3.cell? ⟨p, 4, none⟩ = some (.bool f) := Kp_3.out.cell 4
        go_region
        clear cp0 cp1 cp2 cp3 cp4
        obtain ⟨W4, hW4⟩ : ∃ z, W3.drew = z := ⟨_, rfl⟩
        have Kp_4 : Hid (Bk W4 p 23 #[.bool a, .bool false, .bool c, .bool d, .bool f]) := by rw [← hW4]; exact Kp_3.out.drew
        have Kq_4 : Hid (Bk W4 q 23 #[.bool false, .bool false, .bool x2, .bool x3, .bool x4]) := by rw [← hW4]; exact Kq_3.out.drew
        have B_4 : Hid (Below w.heap.size w W4) := by rw [← hW4]; exact B_3.out.drew
        rw [hW4]
        clear hW4
        clear Kp_3 Kq_3 B_3
        have HIN : Hid (∀ W, Calls Try.prog 17 #[.agg #[.string ⟨#[97, 64, 98]⟩, .string ⟨#[110]⟩, .slice none 0 0, .int .i64 0, .bool false, .bool false], .agg #[.bool false, .bool false, .bool x2, .bool x3, .bool x4]] W fun e w' => ∃ iA cap, e = .returned (.agg #[.string ⟨#[97, 64, 98]⟩, .string ⟨#[110]⟩, .slice iA 0 cap, .int .i64 0, .bool x2, .bool x4]) ∧ Below W.heap.size W w') := fun W => by
          refine (into_any ⟨[97, 64, 98], [110], [], 0, false, false⟩ (.slice none 0 0) ⟨false, false, x2, x3, x4⟩ W (ReadT.nil _ _ _) (by decide)).mono ?_
          rintro e w' ⟨gv', he, ho, hb⟩
          obtain ⟨A, cap, hv⟩ := ho.slice
          subst hv
          exact ⟨A, cap, by rw [he]; rfl, hb⟩
        have cp0 : W4.cell? ⟨p, 0, none⟩ = some (.bool a) := Kp_4.out.cell 0
        have cp1 : W4.cell? ⟨p, 1, none⟩ = some (.bool false) := Kp_4.out.cell 1
        have cp2 : W4.cell? ⟨p, 2, none⟩ = some (.bool c) := Kp_4.out.cell 2
        have cp3 : W4.cell? ⟨p, 3, none⟩ = some (.bool d) := Kp_4.out.cell 3
        have cp4 : W4.cell? ⟨p, 4, none⟩ = some (.bool f) := Kp_4.out.cell 4
        have cq0 : W4.cell? ⟨q, 0, none⟩ = some (.bool false) := Kq_4.out.cell 0
        have cq1 : W4.cell? ⟨q, 1, none⟩ = some (.bool false) := Kq_4.out.cell 1
        have cq2 : W4.cell? ⟨q, 2, none⟩ = some (.bool x2) := Kq_4.out.cell 2
        have cq3 : W4.cell? ⟨q, 3, none⟩ = some (.bool x3) := Kq_4.out.cell 3
        have cq4 : W4.cell? ⟨q, 4, none⟩ = some (.bool x4) := Kq_4.out.cell 4
        go_wp2_with fail
        refine (HIN.out _).mono ?_
        rintro e v4 ⟨iA, icap, rfl, b4⟩
        clear cp0 cp1 cp2 cp3 cp4 cq0 cq1 cq2 cq3 cq4
        have Kp_5 : Hid (Bk v4 p 23 #[.bool a, .bool false, .bool c, .bool d, .bool f]) := Kp_4.out.below b4 Kp_4.out.lt
        have Kq_5 : Hid (Bk v4 q 23 #[.bool false, .bool false, .bool x2, .bool x3, .bool x4]) := Kq_4.out.below b4 Kq_4.out.lt
        have B_5 : Hid (Below w.heap.size w v4) := B_4.out.trans (b4.mono B_4.out.size)
        clear Kp_4 Kq_4 B_4
        clear b4
        obtain ⟨W6, hW6⟩ : ∃ W, v4.alloc (.cells #[.string ⟨#[97, 64, 98]⟩, .string ⟨#[110]⟩, .slice iA 0 icap, .int .i64 0, .bool x2, .bool x4] 26) = W := ⟨_, rfl⟩
        obtain ⟨u, hu⟩ : ∃ g, v4.heap.size = g := ⟨_, rfl⟩
        have Kp_6 : Hid (Bk W6 p 23 #[.bool a, .bool false, .bool c, .bool d, .bool f]) := by rw [← hW6]; exact Kp_5.out.alloc _
        have HNpu : Hid (p < u) := by have := Kp_5.out.lt; unfold Hid; omega
        have Kq_6 : Hid (Bk W6 q 23 #[.bool false, .bool false, .bool x2, .bool x3, .bool x4]) := by rw [← hW6]; exact Kq_5.out.alloc _
        have HNqu : Hid (q < u) := by have := Kq_5.out.lt; unfold Hid; omega
        have Ku_6 : Hid (Bk W6 u 26 #[.string ⟨#[97, 64, 98]⟩, .string ⟨#[110]⟩, .slice iA 0 icap, .int .i64 0, .bool x2, .bool x4]) := by rw [← hW6, ← hu]; exact Bk.new _ _ _
        have B_6 : Hid (Below w.heap.size w W6) := by rw [← hW6]; exact B_5.out.alloc B_5.out.size _
        have HLu : Hid (w.heap.size ≤ u) := by have := B_5.out.size; unfold Hid; omega
        have HW6 := Lib.hid hW6
        have HAu := Lib.hid hu
        clear hW6 hu
        clear Kp_5 Kq_5 B_5
        go_upto_region 20 with fail
        (try rw [HW6.out])
        (try rw [HAu.out])
        go_wp2_with fail
        refine (HAW.out W6).mono ?_
        rintro e v6 ⟨rfl, b6⟩
        have KU := Ku_6.out.below b6 Ku_6.out.lt
        have Kp_7 : Hid (Bk v6 p 23 #[.bool a, .bool false, .bool c, .bool d, .bool f]) := Kp_6.out.below b6 Kp_6.out.lt
        have Kq_7 : Hid (Bk v6 q 23 #[.bool false, .bool false, .bool x2, .bool x3, .bool x4]) := Kq_6.out.below b6 Kq_6.out.lt
        have B_7 : Hid (Below w.heap.size w v6) := B_6.out.trans (b6.mono B_6.out.size)
        clear Kp_6 Kq_6 B_6
        clear b6
        have cq0 : v6.cell? ⟨q, 0, none⟩ = some (.bool false) := Kq_7.out.cell 0
        have cq1 : v6.cell? ⟨q, 1, none⟩ = some (.bool false) := Kq_7.out.cell 1
        have cq2 : v6.cell? ⟨q, 2, none⟩ = some (.bool x2) := Kq_7.out.cell 2
        have cq3 : v6.cell? ⟨q, 3, none⟩ = some (.bool x3) := Kq_7.out.cell 3
        have cq4 : v6.cell? ⟨q, 4, none⟩ = some (.bool x4) := Kq_7.out.cell 4
        have y0 : v6.cell? ⟨u, 0, none⟩ = some (.string ⟨#[97, 64, 98]⟩) := KU.cell 0
        have y1 : v6.cell? ⟨u, 1, none⟩ = some (.string ⟨#[110]⟩) := KU.cell 1
        have y2 : v6.cell? ⟨u, 2, none⟩ = some (.slice iA 0 icap) := KU.cell 2
        have y3 : v6.cell? ⟨u, 3, none⟩ = some (.int .i64 0) := KU.cell 3
        have y4 : v6.cell? ⟨u, 4, none⟩ = some (.bool x2) := KU.cell 4
        have y5 : v6.cell? ⟨u, 5, none⟩ = some (.bool x4) := KU.cell 5
        have ht : ((⟨#[110]⟩ : ByteArray).toList == (⟨#[110]⟩ : ByteArray).toList) = true := by simp
        clear KU
        go_wp2_with fail
        go_ret
        exact ⟨rfl, B_7.out⟩
      | true =>
        have hp : ∀ a c d f : Bool, rightM ⟨a, true, c, d, f⟩ = true → (stepM ⟨a, true, c, d, f⟩ 8).to = false ∧ (stepM ⟨a, true, c, d, f⟩ 8).fr = true := by decide
        obtain ⟨h0, h1⟩ := hp a c d f HR.out
        clear hp
        obtain ⟨⟨x0, x1, x2, x3, x4⟩, hA⟩ : ∃ A, stepM ⟨a, true, c, d, f⟩ 8 = A := ⟨_, rfl⟩
        rw [hA] at h0 h1
        simp only at h0 h1
        obtain rfl := h0.symm
        obtain rfl := h1.symm
        have HA := Lib.hid hA
        clear hA
        have cp0 : v0.cell? ⟨p, 0, none⟩ = some (.bool a) := Kp_1.out.cell 0
        have cp1 : v0.cell? ⟨p, 1, none⟩ = some (.bool true) := Kp_1.out.cell 1
        have cp2 : v0.cell? ⟨p, 2, none⟩ = some (.bool c) := Kp_1.out.cell 2
        have cp3 : v0.cell? ⟨p, 3, none⟩ = some (.bool d) := Kp_1.out.cell 3
        have cp4 : v0.cell? ⟨p, 4, none⟩ = some (.bool f) := Kp_1.out.cell 4
        obtain ⟨r1, hr1⟩ : ∃ r, (!decide ((⟨false, true, x2, x3, x4⟩ : Mod) = ⟨a, true, c, d, f⟩)) = r := ⟨_, rfl⟩
        have HS1 := Lib.hid (step_at ⟨a, true, c, d, f⟩ ⟨false, true, x2, x3, x4⟩ (8) r1 (HA.out) hr1 v0)
        clear hr1
        go_wp2_with fail
        refine HS1.out.mono ?_
        rintro e v1 ⟨rfl, b1⟩
        clear cp0 cp1 cp2 cp3 cp4
        have Kp_2 : Hid (Bk v1 p 23 #[.bool a, .bool true, .bool c, .bool d, .bool f]) := Kp_1.out.below b1 Kp_1.out.lt
        have B_2 : Hid (Below w.heap.size w v1) := B_1.out.trans (b1.mono B_1.out.size)
        clear Kp_1 B_1
        clear b1
        obtain ⟨W3, hW3⟩ : ∃ W, v1.alloc (.cells #[.bool false, .bool true, .bool x2, .bool x3, .bool x4] 23) = W := ⟨_, rfl⟩
        obtain ⟨q, hq⟩ : ∃ g, v1.heap.size = g := ⟨_, rfl⟩
        have Kp_3 : Hid (Bk W3 p 23 #[.bool a, .bool true, .bool c, .bool d, .bool f]) := by rw [← hW3]; exact Kp_2.out.alloc _
        have HNpq : Hid (p < q) := by have := Kp_2.out.lt; unfold Hid; omega
        have Kq_3 : Hid (Bk W3 q 23 #[.bool false, .bool true, .bool x2, .bool x3, .bool x4]) := by rw [← hW3, ← hq]; exact Bk.new _ _ _
        have B_3 : Hid (Below w.heap.size w W3) := by rw [← hW3]; exact B_2.out.alloc B_2.out.size _
        have HLq : Hid (w.heap.size ≤ q) := by have := B_2.out.size; unfold Hid; omega
        have HW3 := Lib.hid hW3
        have HAq := Lib.hid hq
        clear hW3 hq
        clear Kp_2 B_2
        go_upto_region 5 with fail
        (try rw [HW3.out])
        (try rw [HAq.out])
        have cp0 : W3.cell? ⟨p, 0, none⟩ = some (.bool a) := Kp_3.out.cell 0
        have cp1 : W3.cell? ⟨p, 1, none⟩ = some (.bool true) := Kp_3.out.cell 1
        have cp2 : W3.cell? ⟨p, 2, none⟩ = some (.bool c) := Kp_3.out.cell 2
        have cp3 : W3.cell? ⟨p, 3, none⟩ = some (.bool d) := Kp_3.out.cell 3
        have cp4 : W3.cell? ⟨p, 4, none⟩ = some (.bool f) := Kp_3.out.cell 4
        go_region
        clear cp0 cp1 cp2 cp3 cp4
        obtain ⟨W4, hW4⟩ : ∃ z, W3.drew = z := ⟨_, rfl⟩
        have Kp_4 : Hid (Bk W4 p 23 #[.bool a, .bool true, .bool c, .bool d, .bool f]) := by rw [← hW4]; exact Kp_3.out.drew
        have Kq_4 : Hid (Bk W4 q 23 #[.bool false, .bool true, .bool x2, .bool x3, .bool x4]) := by rw [← hW4]; exact Kq_3.out.drew
        have B_4 : Hid (Below w.heap.size w W4) := by rw [← hW4]; exact B_3.out.drew
        rw [hW4]
        clear hW4
        clear Kp_3 Kq_3 B_3
        have HIN : Hid (∀ W, Calls Try.prog 17 #[.agg #[.string ⟨#[97, 64, 98]⟩, .string ⟨#[110]⟩, .slice none 0 0, .int .i64 0, .bool false, .bool false], .agg #[.bool false, .bool true, .bool x2, .bool x3, .bool x4]] W fun e w' => ∃ iA cap, e = .returned (.agg #[.string ⟨#[97, 64, 98]⟩, .string ⟨#[110]⟩, .slice iA 0 cap, .int .i64 2, .bool x2, .bool x4]) ∧ Below W.heap.size W w') := fun W => by
          refine (into_any ⟨[97, 64, 98], [110], [], 0, false, false⟩ (.slice none 0 0) ⟨false, true, x2, x3, x4⟩ W (ReadT.nil _ _ _) (by decide)).mono ?_
          rintro e w' ⟨gv', he, ho, hb⟩
          obtain ⟨A, cap, hv⟩ := ho.slice
          subst hv
          exact ⟨A, cap, by rw [he]; rfl, hb⟩
        have cp0 : W4.cell? ⟨p, 0, none⟩ = some (.bool a) := Kp_4.out.cell 0
        have cp1 : W4.cell? ⟨p, 1, none⟩ = some (.bool true) := Kp_4.out.cell 1
        have cp2 : W4.cell? ⟨p, 2, none⟩ = some (.bool c) := Kp_4.out.cell 2
        have cp3 : W4.cell? ⟨p, 3, none⟩ = some (.bool d) := Kp_4.out.cell 3
        have cp4 : W4.cell? ⟨p, 4, none⟩ = some (.bool f) := Kp_4.out.cell 4
        have cq0 : W4.cell? ⟨q, 0, none⟩ = some (.bool false) := Kq_4.out.cell 0
        have cq1 : W4.cell? ⟨q, 1, none⟩ = some (.bool true) := Kq_4.out.cell 1
        have cq2 : W4.cell? ⟨q, 2, none⟩ = some (.bool x2) := Kq_4.out.cell 2
        have cq3 : W4.cell? ⟨q, 3, none⟩ = some (.bool x3) := Kq_4.out.cell 3
        have cq4 : W4.cell? ⟨q, 4, none⟩ = some (.bool x4) := Kq_4.out.cell 4
        go_wp2_with fail
        refine (HIN.out _).mono ?_
        rintro e v4 ⟨iA, icap, rfl, b4⟩
        clear cp0 cp1 cp2 cp3 cp4 cq0 cq1 cq2 cq3 cq4
        have Kp_5 : Hid (Bk v4 p 23 #[.bool a, .bool true, .bool c, .bool d, .bool f]) := Kp_4.out.below b4 Kp_4.out.lt
        have Kq_5 : Hid (Bk v4 q 23 #[.bool false, .bool true, .bool x2, .bool x3, .bool x4]) := Kq_4.out.below b4 Kq_4.out.lt
        have B_5 : Hid (Below w.heap.size w v4) := B_4.out.trans (b4.mono B_4.out.size)
        clear Kp_4 Kq_4 B_4
        clear b4
        obtain ⟨W6, hW6⟩ : ∃ W, v4.alloc (.cells #[.string ⟨#[97, 64, 98]⟩, .string ⟨#[110]⟩, .slice iA 0 icap, .int .i64 2, .bool x2, .bool x4] 26) = W := ⟨_, rfl⟩
        obtain ⟨u, hu⟩ : ∃ g, v4.heap.size = g := ⟨_, rfl⟩
        have Kp_6 : Hid (Bk W6 p 23 #[.bool a, .bool true, .bool c, .bool d, .bool f]) := by rw [← hW6]; exact Kp_5.out.alloc _
        have HNpu : Hid (p < u) := by have := Kp_5.out.lt; unfold Hid; omega
        have Kq_6 : Hid (Bk W6 q 23 #[.bool false, .bool true, .bool x2, .bool x3, .bool x4]) := by rw [← hW6]; exact Kq_5.out.alloc _
        have HNqu : Hid (q < u) := by have := Kq_5.out.lt; unfold Hid; omega
        have Ku_6 : Hid (Bk W6 u 26 #[.string ⟨#[97, 64, 98]⟩, .string ⟨#[110]⟩, .slice iA 0 icap, .int .i64 2, .bool x2, .bool x4]) := by rw [← hW6, ← hu]; exact Bk.new _ _ _
        have B_6 : Hid (Below w.heap.size w W6) := by rw [← hW6]; exact B_5.out.alloc B_5.out.size _
        have HLu : Hid (w.heap.size ≤ u) := by have := B_5.out.size; unfold Hid; omega
        have HW6 := Lib.hid hW6
        have HAu := Lib.hid hu
        clear hW6 hu
        clear Kp_5 Kq_5 B_5
        go_upto_region 20 with fail
        (try rw [HW6.out])
        (try rw [HAu.out])
        go_wp2_with fail
        refine (HAW.out W6).mono ?_
        rintro e v6 ⟨rfl, b6⟩
        have KU := Ku_6.out.below b6 Ku_6.out.lt
        have Kp_7 : Hid (Bk v6 p 23 #[.bool a, .bool true, .bool c, .bool d, .bool f]) := Kp_6.out.below b6 Kp_6.out.lt
        have Kq_7 : Hid (Bk v6 q 23 #[.bool false, .bool true, .bool x2, .bool x3, .bool x4]) := Kq_6.out.below b6 Kq_6.out.lt
        have B_7 : Hid (Below w.heap.size w v6) := B_6.out.trans (b6.mono B_6.out.size)
        clear Kp_6 Kq_6 B_6
        clear b6
        have cq0 : v6.cell? ⟨q, 0, none⟩ = some (.bool false) := Kq_7.out.cell 0
        have cq1 : v6.cell? ⟨q, 1, none⟩ = some (.bool true) := Kq_7.out.cell 1
        have cq2 : v6.cell? ⟨q, 2, none⟩ = some (.bool x2) := Kq_7.out.cell 2
        have cq3 : v6.cell? ⟨q, 3, none⟩ = some (.bool x3) := Kq_7.out.cell 3
        have cq4 : v6.cell? ⟨q, 4, none⟩ = some (.bool x4) := Kq_7.out.cell 4
        have y0 : v6.cell? ⟨u, 0, none⟩ = some (.string ⟨#[97, 64, 98]⟩) := KU.cell 0
        have y1 : v6.cell? ⟨u, 1, none⟩ = some (.string ⟨#[110]⟩) := KU.cell 1
        have y2 : v6.cell? ⟨u, 2, none⟩ = some (.slice iA 0 icap) := KU.cell 2
        have y3 : v6.cell? ⟨u, 3, none⟩ = some (.int .i64 2) := KU.cell 3
        have y4 : v6.cell? ⟨u, 4, none⟩ = some (.bool x2) := KU.cell 4
        have y5 : v6.cell? ⟨u, 5, none⟩ = some (.bool x4) := KU.cell 5
        have ht : ((⟨#[110]⟩ : ByteArray).toList == (⟨#[110]⟩ : ByteArray).toList) = true := by simp
        clear KU
        go_wp2_with fail
        go_ret
        exact ⟨rfl, B_7.out⟩
end Go.Proofs.Ytpaehhlhngilcaa
