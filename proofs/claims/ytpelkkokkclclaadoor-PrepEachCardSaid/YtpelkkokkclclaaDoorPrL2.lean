/-
  PrepEach.
-/
import Derived.Test.YtpelkkokkclclaaDoorPrW
import Derived.Test.YtpelkkokkclclaaDoorPrI
import Derived.Test.YtpelkkokkclclaaDoorUint
namespace Go.Proofs.YtpelkkokkclclaaDoor
open Go.RowKit Rg Tx

theorem big_plain : ∀ n, n < 26 → Pr.mapL true [n + 65] = [n + 97] ∧ Pr.wrong 1 (n + 97) = false ∧ Pr.wrong 2 (n + 97) = false ∧ Pr.rl (n + 97) = false := by decide
theorem prep_big {n k : Nat} (h1 : 65 ≤ n) (h2 : n ≤ 90) (hk : k = 1 ∨ k = 2) : Pr.prepL k (enc n) = (enc (n + 32), 0) := by
  obtain ⟨m, rfl⟩ : ∃ m, n = m + 65 := ⟨n - 65, by omega⟩
  obtain ⟨a, b, c, d⟩ := big_plain m (by omega)
  have hc : ch (enc (m + 65)) = some [m + 65] := ch_enc (.inl (by omega)) (Pr.okc_of (by omega) (by omega))
  have e : flat [m + 97] = enc (m + 65 + 32) := by rw [flat_one]
  rw [← e]
  have hm : Pr.mapL (k != 3) [m + 65] = [m + 97] := by
    rcases hk with rfl | rfl
    · exact a
    · exact a
  have h := Pr.keeps (k := k) hc (by rw [hm]; rcases hk with rfl | rfl <;> simp [b, c]) (by rw [hm]; exact wayB_none (by simp [d]))
  rw [hm] at h
  exact h
theorem prep_223 : Pr.prepL 1 (enc 223) = ([115, 115], 0) := by
  have hc : ch (enc 223) = some [223] := ch_enc (.inl (by omega)) (Pr.okc_of (by omega) (by omega))
  have h := Pr.keeps (k := 1) hc (by decide) (by decide)
  rw [h, show Pr.mapL (1 != 3) [223] = [115, 115] by decide, flat_cons, flat_cons, flat_nil, enc_low (by omega)]
  rfl

set_option maxHeartbeats 8000000 in
theorem prepEach_any (c : Int) (w : World) (hT : Tabs w) : Calls Tryd.prog 5 #[.int .i64 c] w (Holds w) := by
  obtain ⟨n, hn, hn2⟩ := uintMod c 1114112 (by omega) (by omega)
  have HA := Lib.hid (fun W (h : Below w.heap.size w W) => awake_any W (hT.below h))
  obtain ⟨S, hS⟩ : ∃ S, Utf8.encode (n : Int) = S := ⟨_, rfl⟩
  obtain ⟨T, hTT⟩ : ∃ T, Utf8.encode ((n : Int) + 32) = T := ⟨_, rfl⟩
  have hSl : S.data.toList = enc n := by rw [← hS]; exact enc_model n
  have hTl : T.data.toList = enc (n + 32) := by
    have h := enc_model (n + 32)
    rw [show ((n + 32 : Nat) : Int) = (n : Int) + 32 by omega, hTT] at h
    exact h
  have hsz : S.size ≤ 4 := by rw [Lib.size_eq, hSl]; exact (enc_len (n := n)).2
  have N1 := Lib.hid (fun W (h : Below w.heap.size w W) => node_any S W (hT.below h) (by omega))
  have N2 := Lib.hid (fun W => rnode_any S W (by omega))
  have H1 := Lib.hid (fun W (h : Below w.heap.size w W) => host_any S W (hT.below h) (by omega))
  have H2 := Lib.hid (fun W => rhost_any S W (by omega))
  obtain ⟨a1, n1, h1⟩ := prepV_parts 1 S.data.toList
  obtain ⟨a2, n2, h2⟩ := prepV_parts 2 S.data.toList
  have key : (65 ≤ n ∧ n ≤ 90 ∧ a1 = T ∧ n1 = 0 ∧ a2 = T ∧ n2 = 0) ∨ (n = 223 ∧ a1 = ⟨#[115, 115]⟩) ∨ (¬(65 ≤ n ∧ n ≤ 90) ∧ n ≠ 223) := by
    by_cases hb : 65 ≤ n ∧ n ≤ 90
    · refine .inl ⟨hb.1, hb.2, ?_⟩
      have e1 := prepV_of (prep_big hb.1 hb.2 (.inl rfl))
      have e2 := prepV_of (prep_big hb.1 hb.2 (.inr rfl))
      rw [← hSl, h1, ← hTl] at e1
      rw [← hSl, h2, ← hTl] at e2
      have u1 := e1
      have u2 := e2
      simp only [Value.tuple.injEq, Array.mk.injEq, List.cons.injEq, Value.string.injEq, Value.int.injEq, true_and, and_true] at u1 u2
      exact ⟨u1.1, by simpa using u1.2, u2.1, by simpa using u2.2⟩
    · by_cases h223 : n = 223
      · refine .inr (.inl ⟨h223, ?_⟩)
        subst h223
        have e1 := prepV_of prep_223
        rw [← hSl, h1] at e1
        simp only [Value.tuple.injEq, Array.mk.injEq, List.cons.injEq, Value.string.injEq, Value.int.injEq, true_and, and_true] at e1
        exact e1.1
      · exact .inr (.inr ⟨hb, h223⟩)
  rw [h1] at N1 N2
  rw [h2] at H1 H2
  have KEY := Lib.hid key
  have s1 := same_self a1
  have s2 := same_self a2
  have s3 := same_self T
  obtain ⟨z, hz⟩ : ∃ z : Int, (n : Int) = z := ⟨_, rfl⟩
  rw [hz] at hn hn2 hS hTT
  have hz0 : 0 ≤ z := by omega
  have HZ := Lib.hid hz
  clear h1 h2 hSl hTl hsz key hz hT
  go_enter Tryd.func5, Tryd.ntmps5
  go_wp2_with fail
  refine (N1.out w (Below.refl _ _)).mono ?_
  rintro e w1 ⟨rfl, b1⟩
  have B1 := Lib.hid b1
  clear b1
  go_wp2_with fail
  refine (N2.out w1).mono ?_
  rintro e w2 ⟨rfl, b2⟩
  have B2 := Lib.hid (B1.out.trans (b2.mono B1.out.size))
  clear b2
  go_wp2_with fail
  refine (H1.out w2 B2.out).mono ?_
  rintro e w3 ⟨rfl, b3⟩
  have B3 := Lib.hid (B2.out.trans (b3.mono B2.out.size))
  clear b3
  go_wp2_with fail
  refine (H2.out w3).mono ?_
  rintro e w4 ⟨rfl, b4⟩
  have B4 := Lib.hid (B3.out.trans (b4.mono B3.out.size))
  have A4 := Lib.hid (HA.out w4 B4.out)
  have hzz := HZ.out
  clear b4
  rcases KEY.out with ⟨k1, k2, rfl, rfl, rfl, rfl⟩ | ⟨rfl, rfl⟩ | ⟨k1, k2⟩
  · have g1 : decide (z ≥ 65) = true := by simp; omega
    have g2 : decide (z ≤ 90) = true := by simp; omega
    have g3 : (z != 223) = true := by simp; omega
    clear k1 k2 hzz
    go_wp2_with fail
    refine A4.out.mono ?_
    rintro e w5 ⟨rfl, b5⟩
    have B5 := Lib.hid (B4.out.trans (b5.mono B4.out.size))
    clear b5
    go_wp2_with fail
    go_ret
    exact ⟨rfl, B5.out⟩
  · have g0 : z = 223 := by omega
    subst g0
    clear hzz
    go_wp2_with fail
    refine A4.out.mono ?_
    rintro e w5 ⟨rfl, b5⟩
    have B5 := Lib.hid (B4.out.trans (b5.mono B4.out.size))
    clear b5
    go_wp2_with fail
    go_ret
    exact ⟨rfl, B5.out⟩
  · have g3 : (z != 223) = true := by simp; omega
    rcases (show decide (z ≥ 65) = false ∨ (decide (z ≥ 65) = true ∧ decide (z ≤ 90) = false) by simp only [decide_eq_true_eq, decide_eq_false_iff_not]; omega) with g1 | ⟨g1, g2⟩
    all_goals
      clear k1 k2 hzz
      go_wp2_with fail
      refine A4.out.mono ?_
      rintro e w5 ⟨rfl, b5⟩
      have B5 := Lib.hid (B4.out.trans (b5.mono B4.out.size))
      clear b5
      go_wp2_with fail
      go_ret
      exact ⟨rfl, B5.out⟩
end Go.Proofs.YtpelkkokkclclaaDoor
