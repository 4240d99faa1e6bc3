/-
  cardexplay.SmallProps: how much properties are.
-/
import Derived.Test.YtphopnfnjnieaaaGreatDoorVRq
import Derived.IntWalk
import Derived.Deep.QuietTactic
import Derived.BigQuiet
namespace Go.Proofs.YtphopnfnjnieaaaGreatDoor
open Go.RowKit Vc

set_option maxHeartbeats 8000000 in
set_option maxRecDepth 100000 in
theorem small_any (v : Value) (c : List Pr) (w : World) (hR : ReadP w v c) (hcost : costC c ≤ 1000000000) :
    Calls Tryz.prog 7 #[v] w fun e w' => e = .returned (.bool (decide (costC c ≤ 8000))) ∧ ∃ m, w' = w.drewN m := by
  obtain ⟨A, cap, rfl, hc⟩ := hR
  obtain ⟨n, hn⟩ : ∃ n, c.length = n := ⟨_, rfl⟩
  rw [hn] at hc ⊢
  have HC := Lib.hid hc
  have HN := Lib.hid hn
  have hnl : n ≤ 1000000000 := by have := costC_len c; omega
  have HCOST := Lib.hid hcost
  clear hc hn hcost
  go_enter Tryz.func7, Tryz.ntmps7
  go_wp2_with fail
  go_loopw [3, 4] (fun nv iv wr => ∃ (i : Nat) (z : Int) (m : Nat), nv = .int .i64 z ∧ iv = .int .i64 i ∧ i ≤ n ∧ Hid (z = ((costC (c.take i) : Nat) : Int)) ∧ wr = w.drewN m) (fun _ iv _ => n - (intOf iv).toNat)
  case atStart => exact ⟨0, 0, 0, rfl, rfl, Nat.zero_le _, by unfold Hid; rfl, rfl⟩
  case round =>
    obtain ⟨i, z, m, rfl, rfl, hi, HZ, rfl⟩ := hrel
    have hz0 : 0 ≤ z := by rw [HZ.out]; omega
    by_cases hlt : i < n
    · obtain ⟨ad, rfl, hlb, hcell⟩ := HC.out (by omega)
      obtain ⟨p, hp⟩ : ∃ p, c[i]? = some p := ⟨_, List.getElem?_eq_getElem (by rw [HN.out]; exact hlt)⟩
      obtain ⟨u, ⟨c0, c1, c2, c3⟩, hu⟩ := hcell i p hp
      obtain ⟨A2, cap2, rfl, hc2⟩ := hu
      have hct := costC_take hp
      have hcl := costC_le c (i + 1)
      have hcp : costP p = 5 + p.1.length + p.2.1.length + p.2.2.2.length + parN p.2.2.1 := rfl
      have hcc := HCOST.out
      have hpl := parN_len p.2.2.1
      obtain ⟨x0, e0⟩ : ∃ a, bts p.1 = a := ⟨_, rfl⟩
      obtain ⟨x1, e1⟩ : ∃ a, bts p.2.1 = a := ⟨_, rfl⟩
      obtain ⟨x3, e3⟩ : ∃ a, bts p.2.2.2 = a := ⟨_, rfl⟩
      have E0 : x0.size = p.1.length := by rw [← e0]; exact Lib.size_eq _
      have E1 : x1.size = p.2.1.length := by rw [← e1]; exact Lib.size_eq _
      have E3 : x3.size = p.2.2.2.length := by rw [← e3]; exact Lib.size_eq _
      rw [e0] at c0
      rw [e1] at c1
      rw [e3] at c3
      obtain ⟨k2, hk2⟩ : ∃ k, p.2.2.1.length = k := ⟨_, rfl⟩
      rw [hk2] at c2 hc2
      have hzz := HZ.out
      obtain ⟨y0, hy0⟩ : ∃ y : Int, (x0.size : Int) = y := ⟨_, rfl⟩
      obtain ⟨y1, hy1⟩ : ∃ y : Int, (x1.size : Int) = y := ⟨_, rfl⟩
      obtain ⟨y3, hy3⟩ : ∃ y : Int, (x3.size : Int) = y := ⟨_, rfl⟩
      have HC2 := Lib.hid hc2
      have HK2 := Lib.hid hk2
      have HSUM : Hid (z + 5 + y0 + y1 + y3 = ((costC (c.take i) + 5 + p.1.length + p.2.1.length + p.2.2.2.length : Nat) : Int)) := by unfold Hid; omega
      have hb0 : 0 ≤ z + 5 + y0 + y1 + y3 := by omega
      have hb1 : z + 5 + y0 + y1 + y3 + (parN p.2.2.1 : Nat) ≤ 1000000000 := by omega
      have hk3 : k2 ≤ 1000000000 := by omega
      have HNX : Hid (((costC (c.take (i + 1)) : Nat) : Int) = z + 5 + y0 + y1 + y3 + ((parN p.2.2.1 : Nat) : Int)) := by unfold Hid; omega
      have w1 : IntKind.i64.wrap (z + 5) = z + 5 := IntWalk.i64_in _ (by omega)
      have w2 : IntKind.i64.wrap (z + 5 + y0) = z + 5 + y0 := IntWalk.i64_in _ (by omega)
      have w3 : IntKind.i64.wrap (z + 5 + y0 + y1) = z + 5 + y0 + y1 := IntWalk.i64_in _ (by omega)
      have w4 : IntKind.i64.wrap (z + 5 + y0 + y1 + y3) = z + 5 + y0 + y1 + y3 := IntWalk.i64_in _ (by omega)
      have hltI : (i : Int) < (n : Int) := by omega
      clear hct hcl hcp hcc hpl e0 e1 e3 E0 E1 E3 hzz hc2 hk2 hcell hp HZ
      go_wp2_with fail
      go_quiet (fail)
      clear w1 w2 w3 w4
      go_wp2_with fail
      obtain ⟨B0, hB0⟩ : ∃ B0, z + 5 + y0 + y1 + y3 = B0 := ⟨_, rfl⟩
      rw [hB0] at hb0 hb1 HNX ⊢
      clear hB0 HSUM c0 c1 c3 hy0 hy1 hy3
      go_loopw [3, 5] (fun nv kv wr2 => ∃ (k : Nat) (z2 : Int) (m2 : Nat), nv = .int .i64 z2 ∧ kv = .int .i64 k ∧ k ≤ k2 ∧ Hid (z2 = B0 + ((parN (p.2.2.1.take k) : Nat) : Int)) ∧ wr2 = w.drewN m2) (fun _ kv _ => k2 - (intOf kv).toNat)
      case atStart => exact ⟨0, B0, _, rfl, rfl, Nat.zero_le _, by unfold Hid; rw [List.take_zero, parN_nil]; omega, by first | exact World.drewN_drewN _ _ _ | rfl⟩
      case round =>
        obtain ⟨k, z2, m2, rfl, rfl, hk, HZ2, rfl⟩ := hrel
        have hzz := HZ2.out
        have hple := parN_le p.2.2.1 k
        have hz20 : 0 ≤ z2 := by omega
        by_cases hlk : k < k2
        · obtain ⟨ad2, rfl, hlb2, hcell2⟩ := HC2.out (by omega)
          obtain ⟨a, ha⟩ : ∃ a, p.2.2.1[k]? = some a := ⟨_, List.getElem?_eq_getElem (by rw [HK2.out]; exact hlk)⟩
          obtain ⟨b0, b1⟩ := hcell2 k a ha
          have hct := parN_take ha
          have hcl := parN_le p.2.2.1 (k + 1)
          obtain ⟨n1, e1⟩ : ∃ a', bts a.1 = a' := ⟨_, rfl⟩
          obtain ⟨n2, e2⟩ : ∃ a', bts a.2 = a' := ⟨_, rfl⟩
          have E1 : n1.size = a.1.length := by rw [← e1]; exact Lib.size_eq _
          have E2 : n2.size = a.2.length := by rw [← e2]; exact Lib.size_eq _
          rw [e1] at b0
          rw [e2] at b1
          obtain ⟨q1, hq1⟩ : ∃ y : Int, (n1.size : Int) = y := ⟨_, rfl⟩
          obtain ⟨q2, hq2⟩ : ∃ y : Int, (n2.size : Int) = y := ⟨_, rfl⟩
          have HX : Hid (z2 + 5 + q1 + q2 = B0 + ((parN (p.2.2.1.take (k + 1)) : Nat) : Int)) := by unfold Hid; omega
          have w1 : IntKind.i64.wrap (z2 + 5) = z2 + 5 := IntWalk.i64_in _ (by omega)
          have w2 : IntKind.i64.wrap (z2 + 5 + q1) = z2 + 5 + q1 := IntWalk.i64_in _ (by omega)
          have w3 : IntKind.i64.wrap (z2 + 5 + q1 + q2) = z2 + 5 + q1 + q2 := IntWalk.i64_in _ (by omega)
          have hlkI : (k : Int) < (k2 : Int) := by omega
          clear hct hcl e1 e2 E1 E2 hzz hple hcell2 ha HZ2 hz20
          go_wp2_with fail
          go_quiet (fail)
          clear w1 w2 w3
          go_wp2_with fail
          go_roundw
          case rel => exact ⟨k + 1, _, _, rfl, by go_num, by omega, HX, by first | exact World.drewN_drewN _ _ _ | rfl⟩
          case measure => simp [intOf]; omega
        · have HX : Hid (z2 = ((costC (c.take (i + 1)) : Nat) : Int)) := by
            have := HNX.out
            rw [List.take_of_length_le (by rw [HK2.out]; omega)] at hzz
            unfold Hid
            omega
          clear hzz hple HZ2
          go_wp2_with fail
          go_roundw
          case rel => exact ⟨i + 1, z2, m2, rfl, by go_num, by omega, HX, rfl⟩
          case measure => simp [intOf]; omega
    · have hzz := HZ.out
      rw [List.take_of_length_le (by rw [HN.out]; omega)] at hzz
      have HE : Hid (decide (z ≤ 8000) = decide (costC c ≤ 8000)) := by
        unfold Hid
        rw [hzz, decide_eq_decide]
        omega
      clear hzz HZ
      go_wp2_with fail
      go_ret
      exact ⟨by rw [← HE.out]; rfl, _, rfl⟩
end Go.Proofs.YtphopnfnjnieaaaGreatDoor
