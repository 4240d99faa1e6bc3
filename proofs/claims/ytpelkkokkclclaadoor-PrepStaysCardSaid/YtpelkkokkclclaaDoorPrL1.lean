/-
  PrepTells, PrepStays.
-/
import Derived.Test.YtpelkkokkclclaaDoorPrW
import Derived.Test.YtpelkkokkclclaaDoorPrI
namespace Go.Proofs.YtpelkkokkclclaaDoor
open Go.RowKit Rg Tx

set_option maxHeartbeats 8000000 in
theorem prepTells_any (s : ByteArray) (w : World) (hT : Tabs w) (hs : s.size ≤ maxLen) : Calls Tryd.prog 3 #[.string s] w (Holds w) := by
  unfold maxLen at hs
  have HA := Lib.hid (fun W (h : Below w.heap.size w W) => awake_any W (hT.below h))
  by_cases hlen : s.size ≤ 500
  · have N1 := Lib.hid (fun W (h : Below w.heap.size w W) => node_any s W (hT.below h) (by omega))
    have N2 := Lib.hid (fun W => rnode_any s W (by omega))
    have H1 := Lib.hid (fun W (h : Below w.heap.size w W) => host_any s W (hT.below h) (by omega))
    have H2 := Lib.hid (fun W => rhost_any s W (by omega))
    have R1 := Lib.hid (fun W (h : Below w.heap.size w W) => resource_any s W (hT.below h) (by omega))
    have R2 := Lib.hid (fun W => rresource_any s W (by omega))
    obtain ⟨a1, n1, h1⟩ := prepV_parts 1 s.data.toList
    obtain ⟨a2, n2, h2⟩ := prepV_parts 2 s.data.toList
    obtain ⟨a3, n3, h3⟩ := prepV_parts 3 s.data.toList
    rw [h1] at N1 N2
    rw [h2] at H1 H2
    rw [h3] at R1 R2
    have s1 := same_self a1
    have s2 := same_self a2
    have s3 := same_self a3
    clear h1 h2 h3 hT
    go_enter Tryd.func3, Tryd.ntmps3
    go_wp2_with fail
    refine (N1.out w (Below.refl _ _)).mono ?_
    rintro e w1 ⟨rfl, b1⟩
    have B1 := Lib.hid b1
    clear b1
    go_wp2_with fail
    refine (N2.out w1).mono ?_
    rintro e w2 ⟨rfl, b2⟩
    have B2 := Lib.hid (B1.out.trans (b2.mono B1.out.size))
    clear b2
    go_wp2_with fail
    refine (H1.out w2 B2.out).mono ?_
    rintro e w3 ⟨rfl, b3⟩
    have B3 := Lib.hid (B2.out.trans (b3.mono B2.out.size))
    clear b3
    go_wp2_with fail
    refine (H2.out w3).mono ?_
    rintro e w4 ⟨rfl, b4⟩
    have B4 := Lib.hid (B3.out.trans (b4.mono B3.out.size))
    clear b4
    go_wp2_with fail
    refine (R1.out w4 B4.out).mono ?_
    rintro e w5 ⟨rfl, b5⟩
    have B5 := Lib.hid (B4.out.trans (b5.mono B4.out.size))
    clear b5
    go_wp2_with fail
    refine (R2.out w5).mono ?_
    rintro e w6 ⟨rfl, b6⟩
    have B6 := Lib.hid (B5.out.trans (b6.mono B5.out.size))
    clear b6
    go_wp2_with fail
    refine (HA.out w6 B6.out).mono ?_
    rintro e w7 ⟨rfl, b7⟩
    have B7 := Lib.hid (B6.out.trans (b7.mono B6.out.size))
    clear b7
    go_wp2_with fail
    go_ret
    exact ⟨rfl, B7.out⟩
  · go_enter Tryd.func3, Tryd.ntmps3
    go_wp2_with fail
    refine (HA.out w (Below.refl _ _)).mono ?_
    rintro e w1 ⟨rfl, b1⟩
    go_wp2_with fail
    go_ret
    exact ⟨rfl, b1⟩

/-- A text as it is kept, and that again: the same, if there was no error. -/
theorem prepV_stays (k : Nat) (l : List UInt8) : ∃ (a : ByteArray) (n : Int), prepV k l = .tuple #[.string a, .int .i64 n] ∧ a.size ≤ 8 * l.length ∧ ((n == 0) = false ∨ (n = 0 ∧ prepV k a.data.toList = .tuple #[.string a, .int .i64 0])) := by
  refine ⟨⟨(Pr.prepL k l).1.toArray⟩, ((Pr.prepL k l).2 : Nat), rfl, ?_, ?_⟩
  · rw [Lib.size_eq]
    exact Pr.prepL_len k l
  · by_cases h : (Pr.prepL k l).2 = 0
    · have h2 : Pr.prepL k l = ((Pr.prepL k l).1, 0) := by rw [← h]
      have h3 := prepV_of (Pr.prepL_stays h2)
      exact .inr ⟨by rw [h]; rfl, h3⟩
    · refine .inl ?_
      simp
      omega
/-- what a law that asks twice asks -/
theorem prepV_twice (k : Nat) (l : List UInt8) : ∃ (a b : ByteArray) (n m : Int), prepV k l = .tuple #[.string a, .int .i64 n] ∧ a.size ≤ 8 * l.length ∧ prepV k a.data.toList = .tuple #[.string b, .int .i64 m] ∧ ((n == 0) = false ∨ (n = 0 ∧ m = 0 ∧ b = a)) := by
  obtain ⟨a, n, h1, h2, h3⟩ := prepV_stays k l
  rcases h3 with h3 | ⟨rfl, h3⟩
  · obtain ⟨b, m, h4⟩ : ∃ (b : ByteArray) (m : Int), prepV k a.data.toList = .tuple #[.string b, .int .i64 m] := ⟨_, _, rfl⟩
    exact ⟨a, b, n, m, h1, h2, h4, .inl h3⟩
  · exact ⟨a, a, 0, 0, h1, h2, h3, .inr ⟨rfl, rfl, rfl⟩⟩
set_option maxHeartbeats 16000000 in
theorem prepStays_any (s : ByteArray) (w : World) (hT : Tabs w) (hs : s.size ≤ maxLen) : Calls Tryd.prog 4 #[.string s] w (Holds w) := by
  unfold maxLen at hs
  have HA := Lib.hid (fun W (h : Below w.heap.size w W) => awake_any W (hT.below h))
  by_cases hlen : s.size ≤ 500
  · have hsz := Lib.size_eq s
    have N1 := Lib.hid (fun W (h : Below w.heap.size w W) => node_any s W (hT.below h) (by omega))
    have H1 := Lib.hid (fun W (h : Below w.heap.size w W) => host_any s W (hT.below h) (by omega))
    have R1 := Lib.hid (fun W (h : Below w.heap.size w W) => resource_any s W (hT.below h) (by omega))
    obtain ⟨a1, c1, n1, m1, h1, z1, k1, o1⟩ := prepV_twice 1 s.data.toList
    obtain ⟨a2, c2, n2, m2, h2, z2, k2, o2⟩ := prepV_twice 2 s.data.toList
    obtain ⟨a3, c3, n3, m3, h3, z3, k3, o3⟩ := prepV_twice 3 s.data.toList
    rw [h1] at N1
    rw [h2] at H1
    rw [h3] at R1
    have N2 := Lib.hid (fun W (h : Below w.heap.size w W) => node_any a1 W (hT.below h) (by omega))
    have H2 := Lib.hid (fun W (h : Below w.heap.size w W) => host_any a2 W (hT.below h) (by omega))
    have R2 := Lib.hid (fun W (h : Below w.heap.size w W) => resource_any a3 W (hT.below h) (by omega))
    rw [k1] at N2
    rw [k2] at H2
    rw [k3] at R2
    clear h1 h2 h3 k1 k2 k3 z1 z2 z3 hsz hT
    have O1 := Lib.hid o1
    have O2 := Lib.hid o2
    have O3 := Lib.hid o3
    clear o1 o2 o3
    go_enter Tryd.func4, Tryd.ntmps4
    go_wp2_with fail
    refine (N1.out w (Below.refl _ _)).mono ?_
    rintro e w1 ⟨rfl, b1⟩
    have B1 := Lib.hid b1
    clear b1
    go_wp2_with fail
    refine (N2.out w1 B1.out).mono ?_
    rintro e w2 ⟨rfl, b2⟩
    have B2 := Lib.hid (B1.out.trans (b2.mono B1.out.size))
    clear b2
    go_wp2_with fail
    refine (H1.out w2 B2.out).mono ?_
    rintro e w3 ⟨rfl, b3⟩
    have B3 := Lib.hid (B2.out.trans (b3.mono B2.out.size))
    clear b3
    go_wp2_with fail
    refine (H2.out w3 B3.out).mono ?_
    rintro e w4 ⟨rfl, b4⟩
    have B4 := Lib.hid (B3.out.trans (b4.mono B3.out.size))
    clear b4
    go_wp2_with fail
    refine (R1.out w4 B4.out).mono ?_
    rintro e w5 ⟨rfl, b5⟩
    have B5 := Lib.hid (B4.out.trans (b5.mono B4.out.size))
    clear b5
    go_wp2_with fail
    refine (R2.out w5 B5.out).mono ?_
    rintro e w6 ⟨rfl, b6⟩
    have B6 := Lib.hid (B5.out.trans (b6.mono B5.out.size))
    clear b6
    go_wp2_with fail
    refine (HA.out w6 B6.out).mono ?_
    rintro e w7 ⟨rfl, b7⟩
    have B7 := Lib.hid (B6.out.trans (b7.mono B6.out.size))
    clear b7
    have q1 := O1.out
    have q2 := O2.out
    have q3 := O3.out
    rcases q1 with q1 | ⟨rfl, rfl, rfl⟩ <;> rcases q2 with q2 | ⟨rfl, rfl, rfl⟩ <;> rcases q3 with q3 | ⟨rfl, rfl, rfl⟩
    all_goals
      try have q4 : (n1 != 0) = true := by simpa using q1
      try have q5 : (n2 != 0) = true := by simpa using q2
      try have q6 : (n3 != 0) = true := by simpa using q3
      have s1 := same_self c1
      have s2 := same_self c2
      have s3 := same_self c3
      go_wp2_with fail
      go_ret
      exact ⟨rfl, B7.out⟩
  · go_enter Tryd.func4, Tryd.ntmps4
    go_wp2_with fail
    refine (HA.out w (Below.refl _ _)).mono ?_
    rintro e w1 ⟨rfl, b1⟩
    go_wp2_with fail
    go_ret
    exact ⟨rfl, b1⟩
end Go.Proofs.YtpelkkokkclclaaDoor
