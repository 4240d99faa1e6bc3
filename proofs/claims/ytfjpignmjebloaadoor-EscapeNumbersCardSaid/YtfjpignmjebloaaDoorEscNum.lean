/-
  THE LAW EscapeNumbers.
-/
import Derived.Test.YtfjpignmjebloaaDoorNums
namespace Go.Proofs.YtfjpignmjebloaaDoor
open Go.RowKit Tx

theorem hexT_lit : hexT = ⟨#[48, 49, 50, 51, 52, 53, 54, 55, 56, 57, 97, 66, 99, 68, 101, 70]⟩ := rfl
theorem zero_front {b : Nat} (hb : 0 < b) (l : List UInt8) : numF b 0 (48 :: l) = numF b 0 l := by
  rw [numF_cons, show dg (48 : UInt8).toNat = 0 by decide, if_neg (by omega)]
  simp
def hexM (hs vs : Value) : Nat := 2 * (intOf vs).toNat + (if strLen hs = 0 then 1 else 0)
theorem hexM_of (h : ByteArray) (a : Int) : hexM (.string h) (.int .i64 a) = 2 * a.toNat + (if h.size = 0 then 1 else 0) := rfl

set_option maxHeartbeats 8000000 in
set_option maxRecDepth 100000 in
theorem escapeNumbers_any (c1 c2 : Int) (w : World) (hT : Tabs w) (hE : ErrS w) : Calls Tryd.prog 5 #[.int .i64 c1, .int .i64 c2] w (Holds w) := by
  have HA := Lib.hid (fun W h1 h2 => awake_any W h1 h2)
  obtain ⟨n, hn, hn2⟩ := uintMod c1 1200000 (by omega) (by omega)
  obtain ⟨m, hm, hm2⟩ := uintMod c2 3 (by omega) (by omega)
  have HD := fun (W : World) => digits_any 6 n W (by omega) (by omega) (by omega)
  have hDn := digF_num 6 n (by omega)
  have hDl := digF_len 6 n
  have hD0 := digF_ne 6 n
  obtain ⟨D, hDD⟩ : ∃ D : ByteArray, ⟨(digF 6 n).toArray⟩ = D := ⟨_, rfl⟩
  have hDs : D.data.toList = digF 6 n := by rw [← hDD]
  rw [hDD] at HD
  rw [← hDs] at hDn hDl hD0
  rw [← Lib.size_eq] at hDl
  obtain ⟨E, hEn⟩ : ∃ E, Utf8.encode (n : Int) = E := ⟨_, rfl⟩
  have hEl : Hid (E.data.toList = enc n) := by unfold Hid; rw [← hEn]; exact enc_model n
  have hEs : E.size ≤ 4 := by rw [Lib.size_eq, hEl.out]; exact enc_len.2
  have HCH := fun (W : World) => char_any (n : Int) W
  rw [charI_good] at HCH
  have hgs := fun h => (good_le (v := n) h).1
  obtain ⟨z, hz⟩ : ∃ z : Int, (n : Int) = z := ⟨_, rfl⟩
  rw [hz] at HD HCH hn hn2 hEn
  have z0 : 0 ≤ z := by omega
  have HZ := Lib.hid hz
  have HDG := Lib.hid HD
  have HDN := Lib.hid (And.intro hDn hD0)
  have hn16 : n < 16 ^ 6 := by omega
  have HN16 := Lib.hid hn16
  have HCHO := Lib.hid HCH
  clear HD HCH hDn hD0 hDD hDs hz hn16 hgs
  have HCH := HCHO
  go_enter Tryd.func5, Tryd.ntmps5
  go_wp2_with fail
  rw [hn, hm]
  clear hn hm
  go_loop [5, 6] (fun hs vs => ∃ (a : Int) (v : Nat) (h : ByteArray), hs = .string h ∧ vs = .int .i64 a ∧ 0 ≤ a ∧ a < 1200000 ∧ h.size ≤ 6 ∧ Hid (a = v ∧ v < 16 ^ (6 - h.size) ∧ numF 16 v h.data.toList = some n)) (fun hs vs => hexM hs vs)
  case atStart => exact ⟨z, n, ⟨#[]⟩, rfl, rfl, z0, hn2, by decide, HZ.out.symm, HN16.out, rfl⟩
  case round =>
    obtain ⟨a, v, h, rfl, rfl, a0, a1, hs6, hv⟩ := hrel
    by_cases hgo : 0 < a ∨ h.size = 0
    · obtain ⟨c, hc1, hc2⟩ := hexT_at (r := v % 16) (Nat.mod_lt _ (by omega))
      obtain ⟨d, hd⟩ : ∃ d : ByteArray, hexT.extract (v % 16) (v % 16 + 1) = d := ⟨_, rfl⟩
      rw [hd] at hc1
      have hds : d.size = 1 := by rw [Lib.size_eq, hc1]; rfl
      rw [hexT_lit] at hd
      have hst : Hid (h.size < 6 ∧ v / 16 < 16 ^ (6 - (h.size + 1)) ∧ numF 16 (v / 16) (d ++ h).data.toList = some n) := by
        have h1 := hv.out
        have hlt : h.size < 6 := by
          rcases Nat.lt_or_ge h.size 6 with h2 | h2
          · exact h2
          · exfalso
            have h3 := h1.2.1
            rw [show 6 - h.size = 0 by omega] at h3
            rcases hgo with h4 | h4
            · omega
            · omega
        refine ⟨hlt, ?_, ?_⟩
        · have h3 := h1.2.1
          rw [show 6 - h.size = 6 - (h.size + 1) + 1 by omega, Nat.pow_succ] at h3
          rw [Nat.div_lt_iff_lt_mul (by omega)]
          exact h3
        · rw [cat_list, hc1, List.singleton_append, numF_cons, hc2, if_neg (by have := Nat.mod_lt v (show 0 < 16 by omega); omega)]
          rw [show v / 16 * 16 + v % 16 = v by omega]
          exact h1.2.2
      have hav := hv.out.1
      have hq : Hid (a / 16 = ((v / 16 : Nat) : Int)) := by unfold Hid; omega
      have hr : a.tmod 16 = ((v % 16 : Nat) : Int) := by rw [Int.tmod_eq_emod_of_nonneg a0]; omega
      have hqq : a.tdiv 16 = a / 16 := Int.tdiv_eq_ediv_of_nonneg a0
      have hlt6 := hst.out.1
      clear hc1 hc2 hav
      by_cases hpos : 0 < a
      · clear hgo
        go_wp2_with fail
        go_round
        case rel => exact ⟨a / 16, v / 16, _, rfl, rfl, by omega, by omega, by rw [ByteArray.size_append]; omega, hq.out, by rw [ByteArray.size_append, hds, Nat.add_comm 1]; exact hst.out.2.1, hst.out.2.2⟩
        case measure =>
          rw [hexM_of, hexM_of, if_neg (by rw [ByteArray.size_append]; omega)]
          split <;> omega
      · have h0 : h.size = 0 := by rcases hgo with h1 | h1; exact absurd h1 hpos; exact h1
        have hemp : h.toList.isEmpty = true := by rw [ByteArray.toList_eq, (List.eq_nil_of_length_eq_zero (by rw [← Lib.size_eq]; exact h0) : h.data.toList = [])]; rfl
        clear hgo
        go_wp2_with fail
        go_round
        case rel => exact ⟨a / 16, v / 16, _, rfl, rfl, by omega, by omega, by rw [ByteArray.size_append]; omega, hq.out, by rw [ByteArray.size_append, hds, Nat.add_comm 1]; exact hst.out.2.1, hst.out.2.2⟩
        case measure =>
          rw [hexM_of, hexM_of, if_neg (by rw [ByteArray.size_append]; omega)]
          split <;> omega
    · obtain rfl : a = 0 := by omega
      have hne : Hid (h.data.toList ≠ [] ∧ numF 16 0 h.data.toList = some n) := by
        refine ⟨fun e => hgo (.inr (by rw [Lib.size_eq, e]; rfl)), ?_⟩
        have h1 := hv.out
        obtain rfl : v = 0 := by omega
        exact h1.2.2
      have hemp : h.toList.isEmpty = false := by
        rw [ByteArray.toList_eq]
        cases hl : h.data.toList with
        | nil => exact absurd hl hne.out.1
        | cons x t => rfl
      clear hgo
      go_wp2_with fail
      refine (HDG.out _).mono ?_
      rintro e w2 ⟨rfl, hb2⟩
      have hT2 := hT.below hb2
      have hE2 := hE.below hb2
      clear hemp
      go_wp2_with fail
      go_loop [5, 7, 8] (fun hs ts vs => ∃ (i : Nat) (T H : ByteArray), hs = .string H ∧ ts = .string T ∧ vs = .int .i64 i ∧ i ≤ 3 ∧ T.size ≤ 7 ∧ H.size ≤ 6 ∧ Hid ((T.data.toList ≠ [] ∧ numF 10 0 T.data.toList = some n) ∧ H.data.toList ≠ [] ∧ numF 16 0 H.data.toList = some n)) (fun _ _ vs => 3 - (intOf vs).toNat)
      case atStart => exact ⟨0, D, h, rfl, rfl, rfl, by omega, hDl, hs6, ⟨HDN.out.2, HDN.out.1⟩, hne.out⟩
      case round =>
        obtain ⟨i, T, H, rfl, rfl, rfl, hi3, hT7, hH6, hTH⟩ := hrel
        by_cases hmore : i < m ∧ T.size < 7 ∧ H.size < 6
        · obtain ⟨m1, m2, m3⟩ := hmore
          go_wp2_with fail
          go_round
          case rel =>
            refine ⟨i + 1, _, _, rfl, rfl, by go_num, by omega, by rw [ByteArray.size_append, show (⟨#[48]⟩ : ByteArray).size = 1 from rfl]; omega, by rw [ByteArray.size_append, show (⟨#[48]⟩ : ByteArray).size = 1 from rfl]; omega, ⟨?_, ?_⟩, ?_, ?_⟩
            · rw [cat_list]; simp
            · rw [cat_list]; exact (zero_front (by omega) _).trans hTH.out.1.2
            · rw [cat_list]; simp
            · rw [cat_list]; exact (zero_front (by omega) _).trans hTH.out.2.2
          case measure => simp [intOf]; omega
        · have hT8 : T.data.toList.length ≤ 7 := by rw [← Lib.size_eq]; exact hT7
          have hH7 : H.data.toList.length ≤ 6 := by rw [← Lib.size_eq]; exact hH6
          obtain ⟨p1, p2⟩ := tens_back hTH.out.1.1 hT8 hTH.out.1.2
          obtain ⟨q1, q2⟩ := hex_back hTH.out.2.1 hH7 hTH.out.2.2
          have l1 : (⟨#[120, 38, 35]⟩ ++ T ++ ⟨#[59, 121]⟩ : ByteArray).data.toList = 120 :: 38 :: 35 :: (T.data.toList ++ [59, 121]) := by rw [cat_list, cat_list]; simp
          have l2 : (⟨#[120, 38, 35, 120]⟩ ++ H ++ ⟨#[59, 121]⟩ : ByteArray).data.toList = 120 :: 38 :: 35 :: 120 :: (H.data.toList ++ [59, 121]) := by rw [cat_list, cat_list]; simp
          have z3 : (⟨#[120, 38, 35]⟩ : ByteArray).size = 3 := rfl
          have z4 : (⟨#[120, 38, 35, 120]⟩ : ByteArray).size = 4 := rfl
          have z2 : (⟨#[59, 121]⟩ : ByteArray).size = 2 := rfl
          have B1 := fun (W : World) h1 h2 => back_any (⟨#[120, 38, 35]⟩ ++ T ++ ⟨#[59, 121]⟩) W h1 h2 (by rw [ByteArray.size_append, ByteArray.size_append, z3, z2]; omega)
          have B2 := fun (W : World) h1 h2 => back_any (⟨#[120, 38, 35, 120]⟩ ++ H ++ ⟨#[59, 121]⟩) W h1 h2 (by rw [ByteArray.size_append, ByteArray.size_append, z4, z2]; omega)
          rw [l1] at B1
          rw [l2] at B2
          have hex3 : ¬ i < m ∨ (i < m ∧ ¬ T.size < 7) ∨ (i < m ∧ T.size < 7 ∧ ¬ H.size < 6) := by omega
          clear l1 l2 z3 z4 z2 hmore
          cases hg : good n with
          | false =>
            rw [if_neg (by rw [hg]; decide)] at p2 q2
            rw [backV_none p1 p2] at B1
            rw [backV_none q1 q2] at B2
            rw [hg] at HCH
            have HB1 := Lib.hid B1
            have HB2 := Lib.hid B2
            have HCHG := HCH
            clear B1 B2 p1 p2 q1 q2 hg HCH
            rcases hex3 with x1 | ⟨x1, x2⟩ | ⟨x1, x2, x3⟩
            all_goals
              go_wp2_with fail
              refine (HB1.out _ hT2 hE2).mono ?_
              rintro e w4 ⟨rfl, b4⟩
              have c4 := hb2.trans (b4.mono hb2.size)
              go_wp2_with fail
              refine (HB2.out _ (hT.below c4) (hE.below c4)).mono ?_
              rintro e w5 ⟨rfl, b5⟩
              have c5 := c4.trans (b5.mono c4.size)
              go_wp2_with fail
              refine (HCHG.out _).mono ?_
              rintro e w6 ⟨rfl, rfl⟩
              go_wp2_with fail
              refine (HA.out _ (hT.below c5) (hE.below c5)).mono ?_
              rintro e w7 ⟨rfl, b7⟩
              go_wp2_with fail
              go_ret
              exact ⟨rfl, c5.trans (b7.mono c5.size)⟩
          | true =>
            rw [if_pos hg] at p2 q2
            rw [backV_some p1 p2] at B1
            rw [backV_some q1 q2] at B2
            have hres : (⟨(120 :: (enc n ++ [121])).toArray⟩ : ByteArray) = ⟨#[120]⟩ ++ E ++ ⟨#[121]⟩ := by
              symm
              refine bytes_of ?_
              rw [cat_list, cat_list, hEl.out]
              simp
            rw [hres] at B1 B2
            rw [hg] at HCH
            have HB1 := Lib.hid B1
            have HB2 := Lib.hid B2
            have HCHG := HCH
            clear B1 B2 p1 p2 q1 q2 hg HCH hres
            rcases hex3 with x1 | ⟨x1, x2⟩ | ⟨x1, x2, x3⟩
            all_goals
              go_wp2_with fail
              refine (HB1.out _ hT2 hE2).mono ?_
              rintro e w4 ⟨rfl, b4⟩
              have c4 := hb2.trans (b4.mono hb2.size)
              go_wp2_with fail
              refine (HB2.out _ (hT.below c4) (hE.below c4)).mono ?_
              rintro e w5 ⟨rfl, b5⟩
              have c5 := c4.trans (b5.mono c4.size)
              go_wp2_with fail
              refine (HCHG.out _).mono ?_
              rintro e w6 ⟨rfl, rfl⟩
              go_wp2_with fail
              refine (HA.out _ (hT.below c5) (hE.below c5)).mono ?_
              rintro e w7 ⟨rfl, b7⟩
              go_wp2_with fail
              go_ret
              exact ⟨ret_bool (by simp), c5.trans (b7.mono c5.size)⟩
end Go.Proofs.YtfjpignmjebloaaDoor
