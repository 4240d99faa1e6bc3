/-
  JidTells.
-/
import Derived.Test.YtjclfpeccdlaoaaGreatDoorJdW
import Derived.Deep.RegionHeld3
namespace Go.Proofs.YtjclfpeccdlaoaaGreatDoor
open Go.RowKit Rg Tx

set_option maxHeartbeats 16000000 in
set_option maxRecDepth 100000 in
theorem jidTells_any (s t l d r : ByteArray) (w : World) (hO : Okw w) (hs : s.size ≤ 140737488355328) (ht : t.size ≤ 140737488355328) (hl : l.size ≤ 140737488355328) (hd : d.size ≤ 140737488355328) (hr : r.size ≤ 140737488355328) :
    Calls Tryz.prog 3 #[.string s, .string t, .agg #[.string l, .string d, .string r]] w (Holds w) := by
  have HA := Lib.hid (fun W (h : Below w.heap.size w W) => awake_any W (hO.below h))
  obtain ⟨w0, hw0⟩ : ∃ w0, w.alloc (.cells #[.string l, .string d, .string r] 23) = w0 := ⟨_, rfl⟩
  have K0 : Hid (Bk w0 w.heap.size 23 #[.string l, .string d, .string r]) := by unfold Hid; rw [← hw0]; exact Bk.new w _ _
  have B0 : Hid (Below w.heap.size w w0) := by unfold Hid; rw [← hw0]; exact (Below.refl _ w).alloc (Nat.le_refl _) _
  obtain ⟨g5, hg5⟩ : ∃ g, w.heap.size = g := ⟨_, rfl⟩
  rw [hg5] at K0
  have HQ := Lib.hid hg5
  have c0 : w0.cell? ⟨g5, 0, none⟩ = some (.string l) := K0.out.cell 0
  have c1 : w0.cell? ⟨g5, 1, none⟩ = some (.string d) := K0.out.cell 1
  have c2 : w0.cell? ⟨g5, 2, none⟩ = some (.string r) := K0.out.cell 2
  by_cases h1 : s.size ≤ 500
  · by_cases h2 : t.size ≤ 500
    · by_cases h3 : l.size + d.size + r.size ≤ 500
      · have P1 := Lib.hid (fun W (h : Below w.heap.size w W) => parse_any s W (hO.below h) (by omega))
        have P2 := Lib.hid (fun W => rparse_any s W (by omega))
        have Q1 := Lib.hid (fun W (h : Below w.heap.size w W) => bare_any s W (hO.below h) (by omega))
        have Q2 := Lib.hid (fun W => rbare_any s W (by omega))
        have D1 := Lib.hid (fun W (h : Below w.heap.size w W) => domain_any s W (hO.below h) (by omega))
        have D2 := Lib.hid (fun W => rdomain_any s W (by omega))
        have T1 := Lib.hid (fun W => text_any l d r W (by omega) (by omega) (by omega))
        have T2 := Lib.hid (fun W => rtext_any l d r W (by omega) (by omega) (by omega))
        have L1 := Lib.hid (fun W (h : Below w.heap.size w W) => less2_any s t W (hO.below h) (by omega) (by omega))
        have L2 := Lib.hid (fun W => rless_any s t W (by omega) (by omega))
        obtain ⟨p, hp⟩ : ∃ p, Jd.parseL s.data.toList = p := ⟨_, rfl⟩
        rw [hp, jidnV_of] at P1 P2
        obtain ⟨a1, ha1⟩ : ∃ x, bts p.1.1 = x := ⟨_, rfl⟩
        obtain ⟨a2, ha2⟩ : ∃ x, bts p.1.2.1 = x := ⟨_, rfl⟩
        obtain ⟨a3, ha3⟩ : ∃ x, bts p.1.2.2 = x := ⟨_, rfl⟩
        obtain ⟨a4, ha4⟩ : ∃ x : Int, ((p.2 : Nat) : Int) = x := ⟨_, rfl⟩
        rw [ha1, ha2, ha3, ha4] at P1 P2
        rw [twoV_er] at Q1 Q2 D1 D2
        obtain ⟨b1, hb1⟩ : ∃ x, bts (Jd.bareL s.data.toList).1 = x := ⟨_, rfl⟩
        obtain ⟨b2, hb2⟩ : ∃ x : Int, (((Jd.bareL s.data.toList).2 : Nat) : Int) = x := ⟨_, rfl⟩
        rw [hb1, hb2] at Q1 Q2
        obtain ⟨d1, hd1⟩ : ∃ x, bts (Jd.domL s.data.toList).1 = x := ⟨_, rfl⟩
        obtain ⟨d2, hd2⟩ : ∃ x : Int, (((Jd.domL s.data.toList).2 : Nat) : Int) = x := ⟨_, rfl⟩
        rw [hd1, hd2] at D1 D2
        obtain ⟨x1, hx1⟩ : ∃ x, bts (Jd.textL (l.data.toList, d.data.toList, r.data.toList)) = x := ⟨_, rfl⟩
        rw [hx1] at T1 T2
        obtain ⟨v, hv⟩ : ∃ v, Jd.lessL s.data.toList t.data.toList = v := ⟨_, rfl⟩
        rw [hv] at L1 L2
        have s1 := same_self a1
        have s2 := same_self a2
        have s3 := same_self a3
        have s4 := same_self b1
        have s5 := same_self d1
        have s6 := same_self x1
        have s7 : (v == v) = true := by cases v <;> rfl
        clear hp ha1 ha2 ha3 ha4 hb1 hb2 hd1 hd2 hx1 hv hO
        go_enter Tryz.func3, Tryz.ntmps3
        go_wp2_with fail
        refine (P1.out w0 B0.out).mono ?_
        rintro e w1 ⟨rfl, n1⟩
        have B1 := Lib.hid (B0.out.trans (n1.mono B0.out.size))
        have K1 := Lib.hid (K0.out.below n1 K0.out.lt)
        clear n1 c0 c1 c2
        go_wp2_with fail
        obtain ⟨w2, hw2⟩ : ∃ w2, w1.alloc (.cells #[.string a1, .string a2, .string a3] 23) = w2 := ⟨_, rfl⟩
        have M2 : Hid (Bk w2 w1.heap.size 23 #[.string a1, .string a2, .string a3]) := by unfold Hid; rw [← hw2]; exact Bk.new w1 _ _
        have K2 : Hid (Bk w2 g5 23 #[.string l, .string d, .string r]) := by unfold Hid; rw [← hw2]; exact K1.out.alloc _
        have B2 : Hid (Below w.heap.size w w2) := by unfold Hid; rw [← hw2]; exact B1.out.alloc B1.out.size _
        rw [hw2]
        obtain ⟨g7, hg7⟩ : ∃ g, w1.heap.size = g := ⟨_, rfl⟩
        rw [hg7] at M2
        simp only [hg7]
        clear hw2 hg7
        refine (P2.out w2).mono ?_
        rintro e w3 ⟨rfl, n3⟩
        have B3 := Lib.hid (B2.out.trans (n3.mono B2.out.size))
        have K3 := Lib.hid (K2.out.below n3 K2.out.lt)
        have M3 := Lib.hid (M2.out.below n3 M2.out.lt)
        clear n3
        go_wp2_with fail
        obtain ⟨w4, hw4⟩ : ∃ w4, w3.alloc (.cells #[.string a1, .string a2, .string a3] 23) = w4 := ⟨_, rfl⟩
        have N4 : Hid (Bk w4 w3.heap.size 23 #[.string a1, .string a2, .string a3]) := by unfold Hid; rw [← hw4]; exact Bk.new w3 _ _
        have M4 : Hid (Bk w4 g7 23 #[.string a1, .string a2, .string a3]) := by unfold Hid; rw [← hw4]; exact M3.out.alloc _
        have K4 : Hid (Bk w4 g5 23 #[.string l, .string d, .string r]) := by unfold Hid; rw [← hw4]; exact K3.out.alloc _
        have B4 : Hid (Below w.heap.size w w4) := by unfold Hid; rw [← hw4]; exact B3.out.alloc B3.out.size _
        rw [hw4]
        obtain ⟨g9, hg9⟩ : ∃ g, w3.heap.size = g := ⟨_, rfl⟩
        rw [hg9] at N4
        simp only [hg9]
        clear hw4 hg9
        refine (Q1.out w4 B4.out).mono ?_
        rintro e w5 ⟨rfl, n5⟩
        have B5 := Lib.hid (B4.out.trans (n5.mono B4.out.size))
        have K5 := Lib.hid (K4.out.below n5 K4.out.lt)
        have M5 := Lib.hid (M4.out.below n5 M4.out.lt)
        have N5 := Lib.hid (N4.out.below n5 N4.out.lt)
        clear n5
        go_wp2_with fail
        refine (Q2.out w5).mono ?_
        rintro e w6 ⟨rfl, n6⟩
        have B6 := Lib.hid (B5.out.trans (n6.mono B5.out.size))
        have K6 := Lib.hid (K5.out.below n6 K5.out.lt)
        have M6 := Lib.hid (M5.out.below n6 M5.out.lt)
        have N6 := Lib.hid (N5.out.below n6 N5.out.lt)
        clear n6
        go_wp2_with fail
        refine (D1.out w6 B6.out).mono ?_
        rintro e w7 ⟨rfl, n7⟩
        have B7 := Lib.hid (B6.out.trans (n7.mono B6.out.size))
        have K7 := Lib.hid (K6.out.below n7 K6.out.lt)
        have M7 := Lib.hid (M6.out.below n7 M6.out.lt)
        have N7 := Lib.hid (N6.out.below n7 N6.out.lt)
        clear n7
        go_wp2_with fail
        refine (D2.out w7).mono ?_
        rintro e w8 ⟨rfl, n8⟩
        have B8 := Lib.hid (B7.out.trans (n8.mono B7.out.size))
        have K8 := Lib.hid (K7.out.below n8 K7.out.lt)
        have M8 := Lib.hid (M7.out.below n8 M7.out.lt)
        have N8 := Lib.hid (N7.out.below n8 N7.out.lt)
        clear n8
        obtain ⟨q8, hq8⟩ : ∃ q, w8.heap.size = q := ⟨_, rfl⟩
        have HS : Hid (∀ W, Below q8 w8 W → (Below q8 w8 W ∧ W.cell? ⟨g5, 0, none⟩ = some (.string l) ∧ W.cell? ⟨g5, 1, none⟩ = some (.string d) ∧ W.cell? ⟨g5, 2, none⟩ = some (.string r) ∧ W.cell? ⟨g7, 0, none⟩ = some (.string a1) ∧ W.cell? ⟨g7, 1, none⟩ = some (.string a2) ∧ W.cell? ⟨g7, 2, none⟩ = some (.string a3) ∧ W.cell? ⟨g9, 0, none⟩ = some (.string a1) ∧ W.cell? ⟨g9, 1, none⟩ = some (.string a2) ∧ W.cell? ⟨g9, 2, none⟩ = some (.string a3))) := fun W h => by
          rw [← hq8] at h
          refine ⟨by rw [← hq8]; exact h, ?_⟩
          have k := K8.out.below h K8.out.lt
          have m := M8.out.below h M8.out.lt
          have n := N8.out.below h N8.out.lt
          exact ⟨k.cell 0, k.cell 1, k.cell 2, m.cell 0, m.cell 1, m.cell 2, n.cell 0, n.cell 1, n.cell 2⟩
        have A1 : Hid (∀ W, Below q8 w8 W → Calls Tryz.prog 8 #[] W fun e w' => e = .returned (.bool true) ∧ Below q8 w8 w') := fun W h => by
          rw [← hq8] at h ⊢
          exact (HA.out W (B8.out.trans (h.mono B8.out.size))).mono fun e w' h2 => ⟨h2.1, h.trans (h2.2.mono h.size)⟩
        have A2 : Hid (∀ W, Below q8 w8 W → Calls Tryz.prog 15 #[.agg #[.string l, .string d, .string r]] W fun e w' => e = .returned (.string x1) ∧ Below q8 w8 w') := fun W h => by
          rw [← hq8] at h ⊢
          exact (T1.out W).mono fun e w' h2 => ⟨h2.1, h.trans (h2.2.mono h.size)⟩
        have A3 : Hid (∀ W, Below q8 w8 W → Calls Tryz.prog 16 #[.agg #[.string l, .string d, .string r]] W fun e w' => e = .returned (.string x1) ∧ Below q8 w8 w') := fun W h => by
          rw [← hq8] at h ⊢
          exact (T2.out W).mono fun e w' h2 => ⟨h2.1, h.trans (h2.2.mono h.size)⟩
        have A4 : Hid (∀ W, Below q8 w8 W → Calls Tryz.prog 17 #[.string s, .string t] W fun e w' => e = .returned (.bool v) ∧ Below q8 w8 w') := fun W h => by
          rw [← hq8] at h ⊢
          exact (L1.out W (B8.out.trans (h.mono B8.out.size))).mono fun e w' h2 => ⟨h2.1, h.trans (h2.2.mono h.size)⟩
        have A5 : Hid (∀ W, Below q8 w8 W → Calls Tryz.prog 18 #[.string s, .string t] W fun e w' => e = .returned (.bool v) ∧ Below q8 w8 w') := fun W h => by
          rw [← hq8] at h ⊢
          exact (L2.out W).mono fun e w' h2 => ⟨h2.1, h.trans (h2.2.mono h.size)⟩
        have Z8 : Hid (∀ W, Below q8 w8 W → Below w.heap.size w W) := fun W h => by
          rw [← hq8] at h
          exact B8.out.trans (h.mono B8.out.size)
        have R8 : Hid (Below q8 w8 w8.drew) := (Below.refl _ w8).drew
        clear hq8 P1 P2 Q1 Q2 D1 D2 T1 T2 L1 L2 HA K0 K1 K2 K3 K4 K5 K6 K7 K8 M2 M3 M4 M5 M6 M7 M8 N4 N5 N6 N7 N8 B0 B1 B2 B3 B4 B5 B6 B7 B8
        go_wp2_with fail
        go_region_held3 (fun w' => Below q8 w8 w' ∧ w'.cell? ⟨g5, 0, none⟩ = some (.string l) ∧ w'.cell? ⟨g5, 1, none⟩ = some (.string d) ∧ w'.cell? ⟨g5, 2, none⟩ = some (.string r) ∧ w'.cell? ⟨g7, 0, none⟩ = some (.string a1) ∧ w'.cell? ⟨g7, 1, none⟩ = some (.string a2) ∧ w'.cell? ⟨g7, 2, none⟩ = some (.string a3) ∧ w'.cell? ⟨g9, 0, none⟩ = some (.string a1) ∧ w'.cell? ⟨g9, 1, none⟩ = some (.string a2) ∧ w'.cell? ⟨g9, 2, none⟩ = some (.string a3))
          (first | exact HS.out _ R8.out | exact HS.out _ n9 | exact HS.out _ n10 | exact HS.out _ n11 | exact HS.out _ n12 | exact HS.out _ n13)
          (first
          | (go_at_call 8; refine (A1.out _ ?_).mono ?_; exact R8.out; rintro e w9 ⟨rfl, n9⟩)
          | (go_at_call 15; refine (A2.out _ ?_).mono ?_; exact n9; rintro e w10 ⟨rfl, n10⟩)
          | (go_at_call 16; refine (A3.out _ ?_).mono ?_; exact n10; rintro e w11 ⟨rfl, n11⟩)
          | (go_at_call 17; refine (A4.out _ ?_).mono ?_; exact n11; rintro e w12 ⟨rfl, n12⟩)
          | (go_at_call 18; refine (A5.out _ ?_).mono ?_; exact n12; rintro e w13 ⟨rfl, n13⟩))
        all_goals
          have z := Z8.out _ n13
          go_wp2_with fail
          go_ret
          exact ⟨rfl, z⟩
      · clear hO K0
        go_enter Tryz.func3, Tryz.ntmps3
        go_wp2_with fail
        refine (HA.out w0 B0.out).mono ?_
        rintro e w1 ⟨rfl, n1⟩
        have B1 := Lib.hid (B0.out.trans (n1.mono B0.out.size))
        clear n1
        go_wp2_with fail
        go_ret
        exact ⟨rfl, by have h := B1.out; rw [HQ.out] at h ⊢; exact h⟩
    · clear hO K0
      go_enter Tryz.func3, Tryz.ntmps3
      go_wp2_with fail
      refine (HA.out w0 B0.out).mono ?_
      rintro e w1 ⟨rfl, n1⟩
      have B1 := Lib.hid (B0.out.trans (n1.mono B0.out.size))
      clear n1
      go_wp2_with fail
      go_ret
      exact ⟨rfl, by have h := B1.out; rw [HQ.out] at h ⊢; exact h⟩
  · clear hO K0
    go_enter Tryz.func3, Tryz.ntmps3
    go_wp2_with fail
    refine (HA.out w0 B0.out).mono ?_
    rintro e w1 ⟨rfl, n1⟩
    have B1 := Lib.hid (B0.out.trans (n1.mono B0.out.size))
    clear n1
    go_wp2_with fail
    go_ret
    exact ⟨rfl, by have h := B1.out; rw [HQ.out] at h ⊢; exact h⟩
end Go.Proofs.YtjclfpeccdlaoaaGreatDoor
