/-
  THE LAW UtfEach: each character, written as Go writes it.
-/
import Derived.Test.YtnlphbejlgnhnaaDoorUtfLaws
import Derived.Test.YtnlphbejlgnhnaaDoorEnc
namespace Go.Proofs.YtnlphbejlgnhnaaDoor
open Go.RowKit Tx

theorem uintMod (c : Int) (k : Int) (hk : 0 < k) (hk2 : k < 2000000) : ∃ n : Nat, wrap64 ((IntKind.u64.wrap c).tmod k) = (n : Int) ∧ (n : Int) < k := by
  have e : IntKind.u64.wrap c = c % 18446744073709551616 := by simp [IntKind.wrap, IntKind.bits, IntKind.signed]
  have h0 : 0 ≤ IntKind.u64.wrap c := by rw [e]; exact Int.emod_nonneg _ (by decide)
  rw [Int.tmod_eq_emod_of_nonneg h0]
  have h1 := Int.emod_nonneg (IntKind.u64.wrap c) (show k ≠ 0 by omega)
  have h2 := Int.emod_lt_of_pos (IntKind.u64.wrap c) hk
  refine ⟨(IntKind.u64.wrap c % k).toNat, ?_, by omega⟩
  unfold wrap64
  omega

set_option maxRecDepth 100000 in
set_option maxHeartbeats 4000000 in
theorem utfEach_any (c cut : Int) (w : World) (hT : Tabs w) : Calls Tryd.prog 4 #[.int .i64 c, .int .i64 cut] w (Holds w) := by
  obtain ⟨n, hn, hn2⟩ := uintMod c 1200000 (by omega) (by omega)
  obtain ⟨m, hm, hm2⟩ := uintMod cut 3 (by omega) (by omega)
  obtain ⟨S, hS⟩ : ∃ S, Utf8.encode (n : Int) = S := ⟨_, rfl⟩
  have hSl : Hid (S.data.toList = enc n) := by unfold Hid; rw [← hS]; exact enc_model n
  have hsz : S.size = (enc n).length := by rw [Lib.size_eq, hSl.out]
  have hl := enc_len (n := n)
  rw [← hsz] at hl
  obtain ⟨hl1, hl2⟩ := hl
  have HSZ := Lib.hid hsz
  clear hsz
  have HA := Lib.hid (fun W h => awake_any W h)
  by_cases hs : sane n
  · have hs' : n < 55296 ∨ (57343 < n ∧ n ≤ 1114111) := hs
    have hle : (n : Int) ≤ 1114111 := by omega
    have hsur : (n : Int) < 55296 ∨ (57343 : Int) < (n : Int) := by omega
    have hci := charI_nat n (by omega) (by omega)
    obtain ⟨z, hz⟩ : ∃ z : Int, (n : Int) = z := ⟨_, rfl⟩
    rw [hz] at hci hn hn2 hS hle hsur
    have hz0 : 0 ≤ z := by omega
    have HCI := Lib.hid hci
    have HS := Lib.hid hs
    have HZ := Lib.hid hz
    obtain ⟨T, hTx⟩ : ∃ T, S.extract 0 (max 0 ((S.size : Int) - 1 - (m : Int))).toNat = T := ⟨_, rfl⟩
    have hTl : T.data.toList = (enc n).take (S.size - 1 - m) := by
      rw [← hTx, Lib.extract_data, hSl.out, List.drop_zero]
      congr 1
      omega
    have hV : Hid (∀ W, Tabs W → Calls Tryd.prog 8 #[.string S] W fun e w' => e = .returned (.bool (okc n)) ∧ Below W.heap.size W w') := fun W h => by
      have h1 := valid_any S W h (by omega)
      rw [hSl.out] at h1
      cases hk : okc n with
      | true => rwa [valid_some (ch_enc hs hk)] at h1
      | false => rwa [valid_none (ch_enc_not hs hk)] at h1
    have hL0 : Hid (∀ W, Tabs W → Calls Tryd.prog 14 #[.string S, .int .i64 0] W fun e w' => e = .returned (.bool false) ∧ Below W.heap.size W w') := fun W h => by
      have h1 := line_any S 0 W h (by omega)
      rw [hSl.out] at h1
      cases hk : okc n with
      | true => rw [line_some (ch_enc hs hk)] at h1; simpa using h1
      | false => rwa [line_none (ch_enc_not hs hk)] at h1
    have hL1 : Hid (∀ W, Tabs W → Calls Tryd.prog 14 #[.string S, .int .i64 1] W fun e w' => e = .returned (.bool (okc n && decide (32 ≤ z))) ∧ Below W.heap.size W w') := fun W h => by
      have h1 := line_any S 1 W h (by omega)
      rw [hSl.out] at h1
      cases hk : okc n with
      | true =>
        rw [line_some (ch_enc hs hk), low_one] at h1
        have e : ((if n < 32 then 1 else 0) == 0 && decide (((([n] : List Nat).length : Nat) : Int) ≤ 1)) = (true && decide (32 ≤ z)) := by
          by_cases h32 : n < 32
          · rw [if_pos h32]; simp; omega
          · rw [if_neg h32]; simp; omega
        rwa [e] at h1
      | false => rwa [line_none (ch_enc_not hs hk)] at h1
    have hR : Hid (okc n = true → ∀ W, Tabs W → Calls Tryd.prog 11 #[.string S] W fun e w' => ∃ v, e = .returned v ∧ Owned W.heap.size w' v [n] ∧ Below W.heap.size W w') := fun hk W h => by
      have h1 := runes_any S W h (by omega)
      unfold RunesGives at h1
      rwa [hSl.out, runes_some (ch_enc hs hk)] at h1
    have hVT : Hid (1 ≤ S.size - 1 - m → ∀ W, Tabs W → Calls Tryd.prog 8 #[.string T] W fun e w' => e = .returned (.bool false) ∧ Below W.heap.size W w') := fun he W h => by
      have h1 := valid_any T W h (by rw [Lib.size_eq, hTl, List.length_take, ← HSZ.out]; omega)
      rwa [hTl, valid_none (ch_cut hs _ he (by rw [← HSZ.out]; omega))] at h1
    have hTe : Hid (T.toList.isEmpty = decide (S.size - 1 - m = 0)) := by
      unfold Hid
      rw [Lib.toList_data, hTl]
      by_cases h0 : S.size - 1 - m = 0
      · rw [h0]; simp
      · have h1 := enc_len (n := n)
        rw [List.isEmpty_eq_false_iff.2]
        · simp [h0]
        · intro e
          have := congrArg List.length e
          rw [List.length_take, ← HSZ.out, List.length_nil] at this
          omega
    clear hs' hci hs hz hTl
    cases hk : okc n with
    | true =>
      rw [hk] at hV hL1 HCI
      have hRk := Lib.hid (hR.out hk)
      clear hk hR
      rcases (show z < 32 ∨ 32 ≤ z by omega) with h32 | h32
      · by_cases he : S.size - 1 - m = 0
        · have te : T.toList.isEmpty = true := by rw [hTe.out]; simpa using he
          clear he hVT
          replace hsur : z < 55296 := by omega
          all_goals
            go_enter Tryd.func4, Tryd.ntmps4
            go_wp2_with fail
            refine (char_any _ _).mono ?_
            rintro e w0 ⟨rfl, rfl⟩
            rw [HCI.out]
            go_wp2_with fail
            refine (HA.out _ hT).mono ?_
            rintro e w1 ⟨rfl, b1⟩
            have t1 := hT.below b1
            go_wp2_with fail
            refine (hV.out _ t1).mono ?_
            rintro e w2 ⟨rfl, b2⟩
            have c2 := b1.trans (b2.mono b1.size)
            have t2 := hT.below c2
            go_wp2_with fail
            refine (hRk.out _ t2).mono ?_
            rintro e w3 ⟨v3, rfl, o3, b3⟩
            have c3 := c2.trans (b3.mono c2.size)
            have r3 := (o3.reads.below ((Below.refl _ w3).alloc (Nat.le_refl _) (.cells #[.int .i64 z] 3))).more (C := w3.heap.size + 1) (by omega)
            go_wp2_with fail
            refine (plain_any (w3.heap.size + 1) _ _ [n] [n] _ r3 (Reads.made _ _ _ _ _ _ (by rw [ints_one, HZ.out]) rfl) (by simp) (by simp)).mono ?_
            rintro e w4 ⟨rfl, b4⟩
            have s3 := c3.size
            have c4 := (c3.alloc s3 (.cells #[.int .i64 z] 3)).trans (b4.mono (by simp; omega))
            have t4 := hT.below c4
            rw [beq_self_eq_true]
            go_wp2_with fail
            refine (hL1.out _ t4).mono ?_
            rintro e w6 ⟨rfl, b6⟩
            have c6 := c4.trans (b6.mono c4.size)
            have t6 := hT.below c6
            rw [Bool.true_and]
            go_wp2_with fail
            refine (hL0.out _ t6).mono ?_
            rintro e w7 ⟨rfl, b7⟩
            have c7 := c6.trans (b7.mono c6.size)
            go_wp2_with fail
            go_ret
            exact ⟨rfl, c7⟩
        · have te : T.toList.isEmpty = false := by rw [hTe.out]; simpa using he
          have hVk := Lib.hid (hVT.out (by omega))
          clear he hVT
          replace hsur : z < 55296 := by omega
          all_goals
            go_enter Tryd.func4, Tryd.ntmps4
            go_wp2_with fail
            refine (char_any _ _).mono ?_
            rintro e w0 ⟨rfl, rfl⟩
            rw [HCI.out]
            go_wp2_with fail
            refine (HA.out _ hT).mono ?_
            rintro e w1 ⟨rfl, b1⟩
            have t1 := hT.below b1
            go_wp2_with fail
            refine (hV.out _ t1).mono ?_
            rintro e w2 ⟨rfl, b2⟩
            have c2 := b1.trans (b2.mono b1.size)
            have t2 := hT.below c2
            go_wp2_with fail
            refine (hRk.out _ t2).mono ?_
            rintro e w3 ⟨v3, rfl, o3, b3⟩
            have c3 := c2.trans (b3.mono c2.size)
            have r3 := (o3.reads.below ((Below.refl _ w3).alloc (Nat.le_refl _) (.cells #[.int .i64 z] 3))).more (C := w3.heap.size + 1) (by omega)
            go_wp2_with fail
            refine (plain_any (w3.heap.size + 1) _ _ [n] [n] _ r3 (Reads.made _ _ _ _ _ _ (by rw [ints_one, HZ.out]) rfl) (by simp) (by simp)).mono ?_
            rintro e w4 ⟨rfl, b4⟩
            have s3 := c3.size
            have c4 := (c3.alloc s3 (.cells #[.int .i64 z] 3)).trans (b4.mono (by simp; omega))
            have t4 := hT.below c4
            rw [beq_self_eq_true]
            go_wp2_with fail
            refine (hVk.out _ t4).mono ?_
            rintro e w5 ⟨rfl, b5⟩
            have c5 := c4.trans (b5.mono c4.size)
            have t5 := hT.below c5
            go_wp2_with fail
            refine (hL1.out _ t5).mono ?_
            rintro e w6 ⟨rfl, b6⟩
            have c6 := c5.trans (b6.mono c5.size)
            have t6 := hT.below c6
            rw [Bool.true_and]
            go_wp2_with fail
            refine (hL0.out _ t6).mono ?_
            rintro e w7 ⟨rfl, b7⟩
            have c7 := c6.trans (b7.mono c6.size)
            go_wp2_with fail
            go_ret
            exact ⟨rfl, c7⟩
      · by_cases he : S.size - 1 - m = 0
        · have te : T.toList.isEmpty = true := by rw [hTe.out]; simpa using he
          clear he hVT
          rcases hsur with hsur | hsur
          all_goals
            go_enter Tryd.func4, Tryd.ntmps4
            go_wp2_with fail
            refine (char_any _ _).mono ?_
            rintro e w0 ⟨rfl, rfl⟩
            rw [HCI.out]
            go_wp2_with fail
            refine (HA.out _ hT).mono ?_
            rintro e w1 ⟨rfl, b1⟩
            have t1 := hT.below b1
            go_wp2_with fail
            refine (hV.out _ t1).mono ?_
            rintro e w2 ⟨rfl, b2⟩
            have c2 := b1.trans (b2.mono b1.size)
            have t2 := hT.below c2
            go_wp2_with fail
            refine (hRk.out _ t2).mono ?_
            rintro e w3 ⟨v3, rfl, o3, b3⟩
            have c3 := c2.trans (b3.mono c2.size)
            have r3 := (o3.reads.below ((Below.refl _ w3).alloc (Nat.le_refl _) (.cells #[.int .i64 z] 3))).more (C := w3.heap.size + 1) (by omega)
            go_wp2_with fail
            refine (plain_any (w3.heap.size + 1) _ _ [n] [n] _ r3 (Reads.made _ _ _ _ _ _ (by rw [ints_one, HZ.out]) rfl) (by simp) (by simp)).mono ?_
            rintro e w4 ⟨rfl, b4⟩
            have s3 := c3.size
            have c4 := (c3.alloc s3 (.cells #[.int .i64 z] 3)).trans (b4.mono (by simp; omega))
            have t4 := hT.below c4
            rw [beq_self_eq_true]
            go_wp2_with fail
            refine (hL1.out _ t4).mono ?_
            rintro e w6 ⟨rfl, b6⟩
            have c6 := c4.trans (b6.mono c4.size)
            have t6 := hT.below c6
            rw [Bool.true_and]
            go_wp2_with fail
            refine (hL0.out _ t6).mono ?_
            rintro e w7 ⟨rfl, b7⟩
            have c7 := c6.trans (b7.mono c6.size)
            go_wp2_with fail
            go_ret
            exact ⟨rfl, c7⟩
        · have te : T.toList.isEmpty = false := by rw [hTe.out]; simpa using he
          have hVk := Lib.hid (hVT.out (by omega))
          clear he hVT
          rcases hsur with hsur | hsur
          all_goals
            go_enter Tryd.func4, Tryd.ntmps4
            go_wp2_with fail
            refine (char_any _ _).mono ?_
            rintro e w0 ⟨rfl, rfl⟩
            rw [HCI.out]
            go_wp2_with fail
            refine (HA.out _ hT).mono ?_
            rintro e w1 ⟨rfl, b1⟩
            have t1 := hT.below b1
            go_wp2_with fail
            refine (hV.out _ t1).mono ?_
            rintro e w2 ⟨rfl, b2⟩
            have c2 := b1.trans (b2.mono b1.size)
            have t2 := hT.below c2
            go_wp2_with fail
            refine (hRk.out _ t2).mono ?_
            rintro e w3 ⟨v3, rfl, o3, b3⟩
            have c3 := c2.trans (b3.mono c2.size)
            have r3 := (o3.reads.below ((Below.refl _ w3).alloc (Nat.le_refl _) (.cells #[.int .i64 z] 3))).more (C := w3.heap.size + 1) (by omega)
            go_wp2_with fail
            refine (plain_any (w3.heap.size + 1) _ _ [n] [n] _ r3 (Reads.made _ _ _ _ _ _ (by rw [ints_one, HZ.out]) rfl) (by simp) (by simp)).mono ?_
            rintro e w4 ⟨rfl, b4⟩
            have s3 := c3.size
            have c4 := (c3.alloc s3 (.cells #[.int .i64 z] 3)).trans (b4.mono (by simp; omega))
            have t4 := hT.below c4
            rw [beq_self_eq_true]
            go_wp2_with fail
            refine (hVk.out _ t4).mono ?_
            rintro e w5 ⟨rfl, b5⟩
            have c5 := c4.trans (b5.mono c4.size)
            have t5 := hT.below c5
            go_wp2_with fail
            refine (hL1.out _ t5).mono ?_
            rintro e w6 ⟨rfl, b6⟩
            have c6 := c5.trans (b6.mono c5.size)
            have t6 := hT.below c6
            rw [Bool.true_and]
            go_wp2_with fail
            refine (hL0.out _ t6).mono ?_
            rintro e w7 ⟨rfl, b7⟩
            have c7 := c6.trans (b7.mono c6.size)
            go_wp2_with fail
            go_ret
            exact ⟨rfl, c7⟩
    | false =>
      rw [hk] at hV hL1 HCI
      clear hk hR
      by_cases he : S.size - 1 - m = 0
      · have te : T.toList.isEmpty = true := by rw [hTe.out]; simpa using he
        clear he hVT
        rcases hsur with hsur | hsur
        all_goals
          go_enter Tryd.func4, Tryd.ntmps4
          go_wp2_with fail
          refine (char_any _ _).mono ?_
          rintro e w0 ⟨rfl, rfl⟩
          rw [HCI.out]
          go_wp2_with fail
          refine (HA.out _ hT).mono ?_
          rintro e w1 ⟨rfl, b1⟩
          have t1 := hT.below b1
          go_wp2_with fail
          refine (hV.out _ t1).mono ?_
          rintro e w2 ⟨rfl, b2⟩
          have c2 := b1.trans (b2.mono b1.size)
          have t2 := hT.below c2
          go_wp2_with fail
          refine (hL1.out _ t2).mono ?_
          rintro e w6 ⟨rfl, b6⟩
          have c6 := c2.trans (b6.mono c2.size)
          have t6 := hT.below c6
          rw [Bool.false_and]
          go_wp2_with fail
          refine (hL0.out _ t6).mono ?_
          rintro e w7 ⟨rfl, b7⟩
          have c7 := c6.trans (b7.mono c6.size)
          go_wp2_with fail
          go_ret
          exact ⟨rfl, c7⟩
      · have te : T.toList.isEmpty = false := by rw [hTe.out]; simpa using he
        have hVk := Lib.hid (hVT.out (by omega))
        clear he hVT
        rcases hsur with hsur | hsur
        all_goals
          go_enter Tryd.func4, Tryd.ntmps4
          go_wp2_with fail
          refine (char_any _ _).mono ?_
          rintro e w0 ⟨rfl, rfl⟩
          rw [HCI.out]
          go_wp2_with fail
          refine (HA.out _ hT).mono ?_
          rintro e w1 ⟨rfl, b1⟩
          have t1 := hT.below b1
          go_wp2_with fail
          refine (hV.out _ t1).mono ?_
          rintro e w2 ⟨rfl, b2⟩
          have c2 := b1.trans (b2.mono b1.size)
          have t2 := hT.below c2
          go_wp2_with fail
          refine (hVk.out _ t2).mono ?_
          rintro e w5 ⟨rfl, b5⟩
          have c5 := c2.trans (b5.mono c2.size)
          have t5 := hT.below c5
          go_wp2_with fail
          refine (hL1.out _ t5).mono ?_
          rintro e w6 ⟨rfl, b6⟩
          have c6 := c5.trans (b6.mono c5.size)
          have t6 := hT.below c6
          rw [Bool.false_and]
          go_wp2_with fail
          refine (hL0.out _ t6).mono ?_
          rintro e w7 ⟨rfl, b7⟩
          have c7 := c6.trans (b7.mono c6.size)
          go_wp2_with fail
          go_ret
          exact ⟨rfl, c7⟩
  · have hs' : ¬ (n < 55296 ∨ (57343 < n ∧ n ≤ 1114111)) := hs
    have V : Hid (∀ W, Tabs W → Calls Tryd.prog 8 #[.string S] W fun e w' => e = .returned (.bool true) ∧ Below W.heap.size W w') := fun W h => by
      have := valid_any S W h (by omega)
      rwa [hSl.out, valid_some (ch_enc_insane hs)] at this
    rcases (show (1114111 : Int) < (n : Int) ∨ ((n : Int) ≤ 1114111 ∧ (55296 : Int) ≤ (n : Int) ∧ (n : Int) ≤ 57343) by omega) with h1 | ⟨h1, h2, h3⟩
    · clear hs' hs
      go_enter Tryd.func4, Tryd.ntmps4
      go_wp2_with fail
      refine (HA.out _ hT).mono ?_
      rintro e w1 ⟨rfl, b1⟩
      have t1 := hT.below b1
      go_wp2_with fail
      refine (V.out _ t1).mono ?_
      rintro e w2 ⟨rfl, b2⟩
      go_wp2_with fail
      go_ret
      exact ⟨rfl, b1.trans (b2.mono b1.size)⟩
    · clear hs' hs
      go_enter Tryd.func4, Tryd.ntmps4
      go_wp2_with fail
      refine (HA.out _ hT).mono ?_
      rintro e w1 ⟨rfl, b1⟩
      have t1 := hT.below b1
      go_wp2_with fail
      refine (V.out _ t1).mono ?_
      rintro e w2 ⟨rfl, b2⟩
      go_wp2_with fail
      go_ret
      exact ⟨rfl, b1.trans (b2.mono b1.size)⟩
end Go.Proofs.YtnlphbejlgnhnaaDoor
