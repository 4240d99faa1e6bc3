/-
  cardexlaw05.awake.
-/
import Derived.Test.YtpaojmiemjndlaaRgT
import Derived.Test.YtpaojmiemjndlaaRgJ
import Derived.Test.YtpaojmiemjndlaaRgH
import Derived.Test.YtpaojmiemjndlaaHolds
namespace Go.Proofs.Ytpaojmiemjndlaa
open Go.RowKit Rg

theorem one_made (a b : Int) (w : World) : OwnR w.heap.size (w.alloc (.cells #[.int .i64 a, .int .i64 b] 26)) (.slice (some ⟨w.heap.size, 0, none⟩) 1 1) [(a, b)] := (made_of (l := [(a, b)]) rfl (by rw [prs_one]) (by unfold maxLen; simp)).1
theorem two_made (a b c d : Int) (w : World) : OwnR w.heap.size (w.alloc (.cells #[.int .i64 a, .int .i64 b, .int .i64 c, .int .i64 d] 26)) (.slice (some ⟨w.heap.size, 0, none⟩) 2 2) [(a, b), (c, d)] := (made_of (l := [(a, b), (c, d)]) rfl (by rw [prs_cons, prs_one]) (by unfold maxLen; simp)).1
theorem joint_1234 : joinL [(1, 2)] [(3, 4)] = [(1, 4)] := (joinL_of (.inl ⟨rfl, rfl, ⟨by simp, by simp⟩, fun c => by
  rw [Bool.eq_iff_iff]
  simp [inL]
  omega⟩)).symm
theorem fits_1 {a b : Int} (ha : Fit a) (hb : Fit b) : Fits [(a, b)] := fun r hr => by
  obtain rfl := List.mem_singleton.1 hr
  exact ⟨ha, hb⟩

set_option maxHeartbeats 2000000 in
theorem awake_any (w : World) : Calls Try.prog 7 #[] w (Holds w) := by
  have HL := Lib.hid letters_any
  have e1 : inL lettersL 65 = true := by decide
  have e2 : rightB [(1, 2)] = true := by decide
  have HI := Lib.hid (fun (B : Nat) v W (h : OwnR B W v lettersL) => in_any v lettersL 65 W h.reads (by simp [lettersL]))
  have HR := Lib.hid (fun W => right_any (.slice (some ⟨World.heap W |>.size, 0, none⟩) 1 1) [(1, 2)] (W.alloc (.cells #[.int .i64 1, .int .i64 2] 26)) (one_made 1 2 W).reads (by simp))
  have f1 : Fit 1 := by unfold Fit; omega
  have f2 : Fit 2 := by unfold Fit; omega
  have f3 : Fit 3 := by unfold Fit; omega
  have f4 : Fit 4 := by unfold Fit; omega
  have HJ : Hid (∀ W : World, Calls Try.prog 14 #[.slice (some ⟨W.heap.size, 0, none⟩) 1 1, .slice (some ⟨W.heap.size + 1, 0, none⟩) 1 1] ((W.alloc (.cells #[.int .i64 1, .int .i64 2] 26)).alloc (.cells #[.int .i64 3, .int .i64 4] 26)) fun e w' => ∃ v, e = .returned v ∧ OwnR W.heap.size w' v (joinL [(1, 2)] [(3, 4)]) ∧ Below W.heap.size W w') := by
    intro W
    have e := World.size_alloc W (.cells #[.int .i64 1, .int .i64 2] 26)
    have h := join_any (.slice (some ⟨W.heap.size, 0, none⟩) 1 1) (.slice (some ⟨(W.alloc (.cells #[.int .i64 1, .int .i64 2] 26)).heap.size, 0, none⟩) 1 1) [(1, 2)] [(3, 4)] ((W.alloc (.cells #[.int .i64 1, .int .i64 2] 26)).alloc (.cells #[.int .i64 3, .int .i64 4] 26))
      ((one_made 1 2 W).below ((Below.refl _ _).alloc (Nat.le_refl _) _)).reads (one_made 3 4 _).reads (fits_1 f1 f2) (fits_1 f3 f4) (by simp) (by simp)
    rw [e] at h
    refine h.mono ?_
    rintro e w' ⟨v, rfl, h1, h2⟩
    exact ⟨v, rfl, h1.weak (by simp; omega), (((Below.refl _ W).alloc (Nat.le_refl _) _).alloc (by simp) _).trans (h2.mono (by simp; omega))⟩
  rw [joint_1234] at HJ
  rw [e1] at HI
  rw [e2] at HR
  have HP := Lib.hid (fun (B : Nat) v (W : World) (h : OwnR B W v [(1, 4)]) => plainR_any v (.slice (some ⟨W.heap.size, 0, none⟩) 1 1) [(1, 4)] [(1, 4)] (W.alloc (.cells #[.int .i64 1, .int .i64 4] 26))
    (h.below ((Below.refl _ _).alloc (Nat.le_refl _) _)).reads (one_made 1 4 W).reads (by simp) (by simp))
  rw [decide_eq_true rfl] at HP
  clear e1 e2 f1 f2 f3 f4
  go_enter Try.func7, Try.ntmps7
  go_wp2_with fail
  refine (HL.out _).mono ?_
  rintro e w1 ⟨v1, rfl, o1, b1⟩
  go_wp2_with fail
  refine (HI.out _ _ _ o1).mono ?_
  rintro e w2 ⟨rfl, b2⟩
  have b3 := b1.trans (b2.mono b1.size)
  clear o1 b1 b2
  go_wp2_with fail
  refine (HR.out w2).mono ?_
  rintro e w4 ⟨rfl, b4⟩
  have b5 := (b3.alloc b3.size (.cells #[.int .i64 1, .int .i64 2] 26)).trans (b4.mono (by simp; have := b3.size; omega))
  clear b3 b4
  go_wp2_with fail
  refine (HJ.out w4).mono ?_
  rintro e w6 ⟨v6, rfl, o6, b6⟩
  have b7 := b5.trans (b6.mono b5.size)
  clear b5 b6
  go_wp2_with fail
  refine (HP.out _ _ _ o6).mono ?_
  rintro e w8 ⟨rfl, b8⟩
  have b9 : Below w.heap.size w w8 := (b7.alloc b7.size (.cells #[.int .i64 1, .int .i64 4] 26)).trans (b8.mono (by simp; have := b7.size; omega))
  clear b7 b8 o6
  go_wp2_with fail
  go_ret
  exact ⟨rfl, b9⟩
end Go.Proofs.Ytpaojmiemjndlaa
