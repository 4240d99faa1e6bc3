/-
  THE DOCUMENT's OWN ANSWER, package cardexref01: allowed.
-/
import Derived.Test.YtjclfpeccdlaoaaGreatDoorPrF
namespace Go.Proofs.YtjclfpeccdlaoaaGreatDoor
open Go.RowKit Rg Tx

theorem wrong1_in (c : Nat) : Pr.wrong 1 c = (inL bannedL c || ([32, 34, 38, 39, 47, 58, 60, 62, 64] : List Nat).any fun d => (d : Int) == (c : Int)) := by
  have h : inL Pr.besideBL c = ([32, 34, 38, 39, 47, 58, 60, 62, 64] : List Nat).any fun d => (d : Int) == (c : Int) := by
    rw [Bool.eq_iff_iff]
    simp [inL, Pr.besideBL]
    omega
  rw [← h]
  rfl
theorem wrong2_in (c : Nat) : (!Pr.wrong 2 c) = (decide ((48 : Int) ≤ c) && decide ((c : Int) ≤ 57) || (c : Int) == 45 || (c : Int) == 46 || inL lettersL c || inL rightLeftL c) := by
  have h : inL Pr.besideLL c = (decide ((48 : Int) ≤ c) && decide ((c : Int) ≤ 57) || (c : Int) == 45 || (c : Int) == 46) := by
    rw [Bool.eq_iff_iff]
    simp [inL, Pr.besideLL]
    omega
  rw [← h]
  show (!(!(inL lettersL c || inL rightLeftL c || inL Pr.besideLL c))) = _
  cases inL lettersL c <;> cases inL rightLeftL c <;> cases inL Pr.besideLL c <;> rfl
theorem nine : (ints [32, 34, 38, 39, 47, 58, 60, 62, 64]).toArray = #[.int .i64 32, .int .i64 34, .int .i64 38, .int .i64 39, .int .i64 47, .int .i64 58, .int .i64 60, .int .i64 62, .int .i64 64] := by
  unfold ints
  rfl

set_option maxHeartbeats 4000000 in
theorem rallowed1_any (c : Nat) (w : World) : Calls Tryz.prog 78 #[.int .i64 1, .int .i64 c] w fun e w' => e = .returned (.bool (!Pr.wrong 1 c)) ∧ Below w.heap.size w w' := by
  have HB := Lib.hid refBanned_any
  have HI := Lib.hid (fun (B : Nat) v W (h : OwnR B W v bannedL) => refIn_any v bannedL c W h.reads (by simp [bannedL]))
  have hn := nine
  obtain ⟨x, hx⟩ : ∃ x : List Nat, x = [32, 34, 38, 39, 47, 58, 60, 62, 64] := ⟨_, rfl⟩
  have hxl : x.length = 9 := by rw [hx]; rfl
  have hw := wrong1_in c
  rw [← hx] at hw hn
  have HH := Lib.hid (fun (W : World) => hin_any (.slice (some ⟨W.heap.size, 0, none⟩) 9 9) x c (W.alloc (.cells (ints x).toArray 3)) ((Reads.made W 3 x _ 9 9 rfl hxl).more (by simp)) (by omega))
  rw [hn] at HH
  obtain ⟨g1, h1⟩ : ∃ g, inL bannedL c = g := ⟨_, rfl⟩
  obtain ⟨g2, h2⟩ : ∃ g, (x.any fun d => (d : Int) == (c : Int)) = g := ⟨_, rfl⟩
  rw [h1, h2] at hw
  rw [h1] at HI
  rw [h2] at HH
  rw [hw]
  obtain ⟨z, hz⟩ : ∃ z : Int, (c : Int) = z := ⟨_, rfl⟩
  rw [hz] at HI HH ⊢
  clear hn hx hxl hw h1 h2 hz
  cases g1 <;> cases g2
  all_goals
    go_enter Tryz.func78, Tryz.ntmps78
    go_wp2_with fail
    refine (HB.out w).mono ?_
    rintro e w1 ⟨v1, rfl, o1, b1⟩
    have O1 := Lib.hid o1
    obtain ⟨A1, c1, rfl⟩ := o1.slice
    clear o1
    go_wp2_with fail
    refine (HI.out _ _ w1 O1.out).mono ?_
    rintro e w2 ⟨rfl, b2⟩
    have B2 := Lib.hid (b1.trans (b2.mono b1.size))
    have H2 := Lib.hid (HH.out w2)
    have B3 := Lib.hid (B2.out.alloc B2.out.size (.cells #[.int .i64 32, .int .i64 34, .int .i64 38, .int .i64 39, .int .i64 47, .int .i64 58, .int .i64 60, .int .i64 62, .int .i64 64] 3))
    clear b1 b2
    (go_wp2_with (go_at_call 116; refine H2.out.mono ?_; rintro e w4 ⟨rfl, rfl⟩))
    go_ret
    first | exact ⟨rfl, B3.out⟩ | exact ⟨rfl, B2.out⟩
set_option maxHeartbeats 4000000 in
theorem rallowed3_any (c : Nat) (w : World) : Calls Tryz.prog 78 #[.int .i64 3, .int .i64 c] w fun e w' => e = .returned (.bool (!Pr.wrong 3 c)) ∧ Below w.heap.size w w' := by
  have HB := Lib.hid refBanned_any
  have HI := Lib.hid (fun (B : Nat) v W (h : OwnR B W v bannedL) => refIn_any v bannedL c W h.reads (by simp [bannedL]))
  have hw : Pr.wrong 3 c = inL bannedL c := rfl
  obtain ⟨g1, h1⟩ : ∃ g, inL bannedL c = g := ⟨_, rfl⟩
  rw [h1] at hw HI
  rw [hw]
  obtain ⟨z, hz⟩ : ∃ z : Int, (c : Int) = z := ⟨_, rfl⟩
  rw [hz] at HI ⊢
  clear hw h1 hz
  cases g1
  all_goals
    go_enter Tryz.func78, Tryz.ntmps78
    go_wp2_with fail
    refine (HB.out w).mono ?_
    rintro e w1 ⟨v1, rfl, o1, b1⟩
    have O1 := Lib.hid o1
    obtain ⟨A1, c1, rfl⟩ := o1.slice
    clear o1
    go_wp2_with fail
    refine (HI.out _ _ w1 O1.out).mono ?_
    rintro e w2 ⟨rfl, b2⟩
    have B2 := Lib.hid (b1.trans (b2.mono b1.size))
    clear b1 b2
    go_wp2_with fail
    go_ret
    exact ⟨rfl, B2.out⟩
set_option maxHeartbeats 8000000 in
theorem rallowed2_any (c : Nat) (w : World) : Calls Tryz.prog 78 #[.int .i64 2, .int .i64 c] w fun e w' => e = .returned (.bool (!Pr.wrong 2 c)) ∧ Below w.heap.size w w' := by
  have HL := Lib.hid refLetters_any
  have HR := Lib.hid refRightLeft_any
  have HI := Lib.hid (fun (B : Nat) v W (h : OwnR B W v lettersL) => refIn_any v lettersL c W h.reads (by simp [lettersL]))
  have HJ := Lib.hid (fun (B : Nat) v W (h : OwnR B W v rightLeftL) => refIn_any v rightLeftL c W h.reads (by simp [rightLeftL]))
  have hw := wrong2_in c
  obtain ⟨g1, h1⟩ : ∃ g, inL lettersL c = g := ⟨_, rfl⟩
  obtain ⟨g2, h2⟩ : ∃ g, inL rightLeftL c = g := ⟨_, rfl⟩
  rw [h1, h2] at hw
  rw [h1] at HI
  rw [h2] at HJ
  rw [hw]
  obtain ⟨z, hz⟩ : ∃ z : Int, (c : Int) = z := ⟨_, rfl⟩
  rw [hz] at HI HJ ⊢
  clear hw h1 h2 hz
  obtain ⟨d, hd⟩ : ∃ d, (decide ((48 : Int) ≤ z) && decide (z ≤ 57) || z == 45 || z == 46) = d := ⟨_, rfl⟩
  rw [hd]
  cases d with
  | true =>
    rcases (show (decide (48 ≤ z) = true ∧ decide (z ≤ 57) = true) ∨ (decide (48 ≤ z) = false ∧ (z == 45) = true) ∨ (decide (48 ≤ z) = false ∧ (z == 45) = false ∧ (z == 46) = true) by
      simp only [Bool.or_eq_true, Bool.and_eq_true, decide_eq_true_eq, decide_eq_false_iff_not, beq_iff_eq, beq_eq_false_iff_ne] at hd ⊢; omega) with ⟨k1, k2⟩ | ⟨k1, k2⟩ | ⟨k1, k2, k3⟩
    all_goals
      clear hd
      go_enter Tryz.func78, Tryz.ntmps78
      go_wp2_with fail
      go_ret
      exact ⟨rfl, Below.refl _ _⟩
  | false =>
    rcases (show (decide (48 ≤ z) = true ∧ decide (z ≤ 57) = false ∧ (z == 45) = false ∧ (z == 46) = false) ∨ (decide (48 ≤ z) = false ∧ (z == 45) = false ∧ (z == 46) = false) by
      simp only [Bool.or_eq_false_iff, Bool.and_eq_false_iff, decide_eq_true_eq, decide_eq_false_iff_not, beq_eq_false_iff_ne] at hd ⊢; omega) with ⟨k1, k2, k3, k4⟩ | ⟨k1, k2, k3⟩
    all_goals
      clear hd
      cases g1 with
      | true =>
        go_enter Tryz.func78, Tryz.ntmps78
        go_wp2_with fail
        refine (HL.out w).mono ?_
        rintro e w1 ⟨v1, rfl, o1, b1⟩
        have O1 := Lib.hid o1
        obtain ⟨A1, c1, rfl⟩ := o1.slice
        clear o1
        go_wp2_with fail
        refine (HI.out _ _ w1 O1.out).mono ?_
        rintro e w2 ⟨rfl, b2⟩
        have B2 := Lib.hid (b1.trans (b2.mono b1.size))
        clear b1 b2
        go_wp2_with fail
        go_ret
        exact ⟨rfl, B2.out⟩
      | false =>
        cases g2
        all_goals
          go_enter Tryz.func78, Tryz.ntmps78
          go_wp2_with fail
          refine (HL.out w).mono ?_
          rintro e w1 ⟨v1, rfl, o1, b1⟩
          have O1 := Lib.hid o1
          obtain ⟨A1, c1, rfl⟩ := o1.slice
          clear o1
          go_wp2_with fail
          refine (HI.out _ _ w1 O1.out).mono ?_
          rintro e w2 ⟨rfl, b2⟩
          have B2 := Lib.hid (b1.trans (b2.mono b1.size))
          clear b1 b2
          go_wp2_with fail
          refine (HR.out w2).mono ?_
          rintro e w3 ⟨v3, rfl, o3, b3⟩
          have B3 := Lib.hid (B2.out.trans (b3.mono B2.out.size))
          have O3 := Lib.hid o3
          obtain ⟨A3, c3, rfl⟩ := o3.slice
          clear o3 b3
          go_wp2_with fail
          refine (HJ.out _ _ w3 O3.out).mono ?_
          rintro e w4 ⟨rfl, b4⟩
          have B4 := Lib.hid (B3.out.trans (b4.mono B3.out.size))
          clear b4
          go_wp2_with fail
          go_ret
          exact ⟨rfl, B4.out⟩
/-- allowed, of each of the three -/
theorem rallowed_any (k c : Nat) (w : World) (hk : k = 1 ∨ k = 2 ∨ k = 3) : Calls Tryz.prog 78 #[.int .i64 k, .int .i64 c] w fun e w' => e = .returned (.bool (!Pr.wrong k c)) ∧ Below w.heap.size w w' := by
  rcases hk with rfl | rfl | rfl
  · exact rallowed1_any c w
  · exact rallowed2_any c w
  · exact rallowed3_any c w
end Go.Proofs.YtjclfpeccdlaoaaGreatDoor
