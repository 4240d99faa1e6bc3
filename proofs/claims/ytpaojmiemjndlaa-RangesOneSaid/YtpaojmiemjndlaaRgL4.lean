/-
  RangesOne.
-/
import Derived.Test.YtpaojmiemjndlaaRgA
import Derived.Test.YtpaojmiemjndlaaUint
namespace Go.Proofs.Ytpaojmiemjndlaa
open Go.RowKit Rg

theorem four_made (a b c d : Int) (w : World) : OwnR w.heap.size (w.alloc (.cells #[.int .i64 a, .int .i64 b, .int .i64 c, .int .i64 d] 26)) (.slice (some ⟨w.heap.size, 0, none⟩) 2 2) [(a, b), (c, d)] := two_made a b c d w
set_option maxHeartbeats 8000000 in
theorem rangesOne_any (p q : Int) (w : World) : Calls Try.prog 6 #[.int .i64 p, .int .i64 q] w (Holds w) := by
  obtain ⟨x, hx, hxb⟩ := uintMod p 1000 (by omega) (by omega)
  obtain ⟨y, hy, hyb⟩ := uintMod q 50 (by omega) (by omega)
  obtain ⟨X, hX⟩ : ∃ X : Int, (x : Int) = X := ⟨_, rfl⟩
  obtain ⟨Y, hY⟩ : ∃ Y : Int, (y : Int) = Y := ⟨_, rfl⟩
  have hX0 : 0 ≤ X := by omega
  have hY0 : 0 ≤ Y := by omega
  rw [hX] at hx hxb
  rw [hY] at hy hyb
  clear hX hY
  obtain ⟨Z, hZ⟩ : ∃ Z, X + Y = Z := ⟨_, rfl⟩
  have hZX : X ≤ Z := by omega
  have hZb : Z < 1050 := by omega
  have HAW := Lib.hid awake_any
  have F1 : inL [(X, Z)] X = true := by simp [inL]; omega
  have F2 : inL [(X, Z)] Z = true := by simp [inL]; omega
  have F3 : inL [(X, Z)] (X - 1) = false := by simp [inL]; omega
  have F4 : inL [(X, Z)] (Z + 1) = false := by simp [inL]; omega
  have C1 : Canon [(X, Z)] := ⟨by simpa using hZX, by simp⟩
  have J1 := joinL_nil C1
  have J2 := joinL_self C1
  have R1 : rightB [(X + 1, X)] = false := by simp [rightB]; omega
  have R2 : rightB [(X, Z), (Z, Z)] = false := by simp [rightB]
  have J3 : joinL [(X, Z)] [(X + 1, X)] = [] := joinL_wrong (by rw [R1]; simp)
  have J4 : joinL [(X, Z), (Z, Z)] [] = [] := joinL_wrong (by rw [R2]; simp)
  have fX : Fit X := by unfold Fit; omega
  have fX1 : Fit (X + 1) := by unfold Fit; omega
  have fZ : Fit Z := by unfold Fit; omega
  have G1 : Fits [(X, Z)] := fits_1 fX fZ
  have G2 : Fits [(X + 1, X)] := fits_1 fX1 fX
  have G3 : Fits [(X, Z), (Z, Z)] := fun r hr => by
    rcases List.mem_cons.1 hr with rfl | hr
    · exact ⟨fX, fZ⟩
    · obtain rfl := List.mem_singleton.1 hr
      exact ⟨fZ, fZ⟩
  have G0 : Fits ([] : List R) := fun r hr => by simp at hr
  obtain ⟨w3, hw3⟩ : ∃ w3, ((w.alloc (.cells #[.int .i64 X, .int .i64 Z] 26)).alloc (.cells #[.int .i64 (X + 1), .int .i64 X] 26)).alloc (.cells #[.int .i64 X, .int .i64 Z, .int .i64 Z, .int .i64 Z] 26) = w3 := ⟨_, rfl⟩
  have s1 := World.size_alloc w (.cells #[.int .i64 X, .int .i64 Z] 26)
  have s2 := World.size_alloc (w.alloc (.cells #[.int .i64 X, .int .i64 Z] 26)) (.cells #[.int .i64 (X + 1), .int .i64 X] 26)
  have b3 : Below w.heap.size w w3 := by rw [← hw3]; exact (((Below.refl _ w).alloc (Nat.le_refl _) _).alloc (by simp) _).alloc (by simp; omega) _
  have O1 := one_made X Z w
  have O2 := one_made (X + 1) X (w.alloc (.cells #[.int .i64 X, .int .i64 Z] 26))
  have O3 := two_made X Z Z Z ((w.alloc (.cells #[.int .i64 X, .int .i64 Z] 26)).alloc (.cells #[.int .i64 (X + 1), .int .i64 X] 26))
  have U1 : Hid (∀ W, Below w3.heap.size w3 W → ReadR W.heap.size W (.slice (some ⟨w.heap.size, 0, none⟩) 1 1) [(X, Z)]) := fun W h => by
    have := (O1.below ((Below.refl _ _).alloc (Nat.le_refl _) (.cells #[.int .i64 (X + 1), .int .i64 X] 26))).below ((Below.refl _ _).alloc (Nat.le_refl _) (.cells #[.int .i64 X, .int .i64 Z, .int .i64 Z, .int .i64 Z] 26))
    rw [hw3] at this
    exact (this.below h).reads
  have U2 : Hid (∀ W, Below w3.heap.size w3 W → ReadR W.heap.size W (.slice (some ⟨w.heap.size + 1, 0, none⟩) 1 1) [(X + 1, X)]) := fun W h => by
    have := O2.below ((Below.refl _ _).alloc (Nat.le_refl _) (.cells #[.int .i64 X, .int .i64 Z, .int .i64 Z, .int .i64 Z] 26))
    rw [hw3, s1] at this
    exact (this.below h).reads
  have U3 : Hid (∀ W, Below w3.heap.size w3 W → ReadR W.heap.size W (.slice (some ⟨w.heap.size + 1 + 1, 0, none⟩) 2 2) [(X, Z), (Z, Z)]) := fun W h => by
    rw [hw3, s2, s1] at O3
    exact (O3.below h).reads
  have hs3 := b3.size
  have I1 := Lib.hid (fun W (h : Below w3.heap.size w3 W) => in_any _ _ X W (U1.out W h) (by simp))
  have I2 := Lib.hid (fun W (h : Below w3.heap.size w3 W) => in_any _ _ Z W (U1.out W h) (by simp))
  have I3 := Lib.hid (fun W (h : Below w3.heap.size w3 W) => in_any _ _ (X - 1) W (U1.out W h) (by simp))
  have I4 := Lib.hid (fun W (h : Below w3.heap.size w3 W) => in_any _ _ (Z + 1) W (U1.out W h) (by simp))
  have K1 := Lib.hid (fun W (h : Below w3.heap.size w3 W) => join_any _ _ _ _ W (U1.out W h) (ReadR.nil _ _) G1 G0 (by simp) (by simp))
  have K2 := Lib.hid (fun W (h : Below w3.heap.size w3 W) => join_any _ _ _ _ W (U1.out W h) (U1.out W h) G1 G1 (by simp) (by simp))
  have K3 := Lib.hid (fun W (h : Below w3.heap.size w3 W) => join_any _ _ _ _ W (U1.out W h) (U2.out W h) G1 G2 (by simp) (by simp))
  have K4 := Lib.hid (fun W (h : Below w3.heap.size w3 W) => join_any _ _ _ _ W (U3.out W h) (ReadR.nil _ _) G3 G0 (by simp) (by simp))
  have P1 := Lib.hid (fun (B : Nat) v W (h : Below w3.heap.size w3 W) (o : OwnR B W v [(X, Z)]) => plainR_any v _ _ _ W o.reads (U1.out W h) (by simp) (by simp))
  have T1 := Lib.hid (fun W (h : Below w3.heap.size w3 W) => right_any _ _ W (U2.out W h) (by simp))
  have T2 := Lib.hid (fun W (h : Below w3.heap.size w3 W) => right_any _ _ W (U3.out W h) (by simp))
  rw [F1] at I1
  rw [F2] at I2
  rw [F3] at I3
  rw [F4] at I4
  rw [J1] at K1
  rw [J2] at K2
  rw [J3] at K3
  rw [J4] at K4
  rw [decide_eq_true rfl] at P1
  rw [R1] at T1
  rw [R2] at T2
  have H3 := Lib.hid hw3
  clear F1 F2 F3 F4 C1 J1 J2 J3 J4 R1 R2 fX fX1 fZ G0 G1 G2 G3 s1 s2 O1 O2 O3 hw3
  go_enter Try.func6, Try.ntmps6
  go_wp2_with fail
  rw [H3.out]
  refine (HAW.out w3).mono ?_
  rintro e w4 ⟨rfl, b4⟩
  go_wp2_with fail
  refine (I1.out w4 b4).mono ?_
  rintro e w5 ⟨rfl, c⟩
  have b5 := b4.trans (c.mono b4.size)
  clear c
  go_wp2_with fail
  refine (I2.out w5 b5).mono ?_
  rintro e w6 ⟨rfl, c⟩
  have b6 := b5.trans (c.mono b5.size)
  clear c
  go_wp2_with fail
  refine (I3.out w6 b6).mono ?_
  rintro e w7 ⟨rfl, c⟩
  have b7 := b6.trans (c.mono b6.size)
  clear c
  go_wp2_with fail
  refine (I4.out w7 b7).mono ?_
  rintro e w8 ⟨rfl, c⟩
  have b8 := b7.trans (c.mono b7.size)
  clear c
  go_wp2_with fail
  refine (K1.out w8 b8).mono ?_
  rintro e w9 ⟨v1, rfl, o1, c⟩
  have b9 := b8.trans (c.mono b8.size)
  clear c
  have Q1 := Lib.hid o1
  clear o1
  go_wp2_with fail
  refine (P1.out _ v1 w9 b9 Q1.out).mono ?_
  rintro e w10 ⟨rfl, c⟩
  have b10 := b9.trans (c.mono b9.size)
  clear c
  clear Q1
  go_wp2_with fail
  refine (K2.out w10 b10).mono ?_
  rintro e w11 ⟨v2, rfl, o1, c⟩
  have b11 := b10.trans (c.mono b10.size)
  clear c
  have Q1 := Lib.hid o1
  clear o1
  go_wp2_with fail
  refine (P1.out _ v2 w11 b11 Q1.out).mono ?_
  rintro e w12 ⟨rfl, c⟩
  have b12 := b11.trans (c.mono b11.size)
  clear c
  clear Q1
  go_wp2_with fail
  refine (T1.out w12 b12).mono ?_
  rintro e w13 ⟨rfl, c⟩
  have b13 := b12.trans (c.mono b12.size)
  clear c
  go_wp2_with fail
  refine (T2.out w13 b13).mono ?_
  rintro e w14 ⟨rfl, c⟩
  have b14 := b13.trans (c.mono b13.size)
  clear c
  go_wp2_with fail
  refine (K3.out w14 b14).mono ?_
  rintro e w15 ⟨v3, rfl, o1, c⟩
  have b15 := b14.trans (c.mono b14.size)
  clear c
  obtain ⟨A3, c3, rfl⟩ := o1.slice
  clear o1
  go_wp2_with fail
  refine (K4.out w15 b15).mono ?_
  rintro e w16 ⟨v4, rfl, o1, c⟩
  have b16 := b15.trans (c.mono b15.size)
  clear c
  obtain ⟨A4, c4, rfl⟩ := o1.slice
  clear o1
  have bz := b3.trans (b16.mono hs3)
  go_wp2_with fail
  go_ret
  exact ⟨rfl, bz⟩
end Go.Proofs.Ytpaojmiemjndlaa
