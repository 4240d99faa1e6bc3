/-
  THE DOCUMENT's OWN NUMERALS: cardexref01.numeral.
-/
import Derived.Test.YtlpjealcmnnbnaaGreatDoorEntP
namespace Go.Proofs.YtlpjealcmnnbnaaGreatDoor
open Go.RowKit Tx

set_option maxHeartbeats 2000000 in
theorem numeral_any (s : ByteArray) (base most : Nat) (w : World) (hs : s.size < 10000000000000) (hb : base = 10 ∨ base = 16) (hm : most ≤ 7) :
    Calls Tryz.prog 65 #[.string s, .int .i64 base, .int .i64 most] w fun e w' => e = .returned (.int .i64 (numI (num base most s.data.toList))) ∧ w = w' := by
  have hsz := Lib.hid (Lib.size_eq s)
  by_cases h0 : s.size = 0
  · have hn : Hid (num base most s.data.toList = none) := by
      unfold Hid num
      rw [if_pos (.inl (List.eq_nil_of_length_eq_zero (by rw [← hsz.out]; exact h0)))]
    rw [hn.out]
    go_enter Tryz.func65, Tryz.ntmps65
    go_wp2_with fail
    go_ret
    exact ⟨rfl, rfl⟩
  by_cases h1 : most < s.size
  · have hn : Hid (num base most s.data.toList = none) := by
      unfold Hid num
      rw [if_pos (.inr (by rw [← hsz.out]; exact h1))]
    rw [hn.out]
    go_enter Tryz.func65, Tryz.ntmps65
    go_wp2_with fail
    go_ret
    exact ⟨rfl, rfl⟩
  have hn : Hid (num base most s.data.toList = numF base 0 s.data.toList) := by
    unfold Hid num
    rw [if_neg]
    rintro (h | h)
    · apply h0; rw [hsz.out, h]; rfl
    · rw [← hsz.out] at h; exact h1 h
  rw [hn.out]
  obtain ⟨r, hr⟩ : ∃ r, numF base 0 s.data.toList = r := ⟨_, rfl⟩
  rw [hr]
  have HR := Lib.hid hr
  clear hr hn
  go_enter Tryz.func65, Tryz.ntmps65
  go_wp2_with fail
  go_loop [7, 8] (fun acc at_ => ∃ (k v : Nat), k ≤ s.size ∧ acc = .int .i64 v ∧ at_ = .int .i64 k ∧ Hid (v < 16 ^ k ∧ numF base v (s.data.toList.drop k) = r)) (fun _ at_ => s.size - (intOf at_).toNat)
  case atStart => exact ⟨0, 0, Nat.zero_le _, rfl, rfl, by omega, by rw [List.drop_zero]; exact HR.out⟩
  case round =>
    obtain ⟨k, v, hk, rfl, rfl, hv⟩ := hrel
    have hvb : v < 268435456 := by
      have h2 : 16 ^ k ≤ 16 ^ 7 := Nat.pow_le_pow_right (by omega) (by omega)
      have := hv.out.1
      omega
    by_cases hlt : k < s.size
    · have hlt' : k < s.data.toList.length := by rw [← hsz.out]; exact hlt
      have hst : Hid (numF base v (s.data.toList.drop k) = if base ≤ dg (s[k]'hlt).toNat then none else numF base (v * base + dg (s[k]'hlt).toNat) (s.data.toList.drop (k + 1))) := by
        unfold Hid
        rw [List.drop_eq_getElem_cons hlt']
        rfl
      obtain ⟨c, hc⟩ : ∃ c : Nat, (s[k]'hlt).toNat = c := ⟨_, rfl⟩
      have hc256 : c < 256 := by rw [← hc]; exact UInt8.toNat_lt _
      rw [hc] at hst
      have hdg := dg_cases c hc256
      obtain ⟨d, hd⟩ : ∃ d, dg c = d := ⟨_, rfl⟩
      rw [hd] at hst hdg
      have hres : Hid ((base ≤ d → r = none) ∧ (d < base → v * base + d < 16 ^ (k + 1) ∧ numF base (v * base + d) (s.data.toList.drop (k + 1)) = r)) := by
        refine ⟨fun h => ?_, fun h => ⟨?_, ?_⟩⟩
        · rw [← hv.out.2, hst.out, if_pos h]
        · have h3 : v * base ≤ v * 16 := Nat.mul_le_mul_left _ (by omega)
          have := hv.out.1
          rw [Nat.pow_succ]
          omega
        · rw [← hv.out.2, hst.out, if_neg (by omega)]
      obtain ⟨z, hz⟩ : ∃ z : Int, (c : Int) = z := ⟨_, rfl⟩
      have hzc : ((s[k]'hlt).toNat : Int) = z := by rw [hc]; exact hz
      clear hst hc hd
      rcases hb with rfl | rfl <;> rcases hdg with ⟨g1, g2, rfl⟩ | ⟨g1, g2, rfl⟩ | ⟨g1, g2, rfl⟩ | ⟨g1, g2, g3, rfl⟩
      · have G2 := Lib.hid (hres.out.2 (by omega))
        clear hres
        go_wp2_with fail
        go_round
        case rel => exact ⟨_, _, _, ⟨k + 1, by omega, v * 10 + (c - 48), rfl, rfl, G2.out⟩, rfl, congrArg (Value.int .i64) (by omega), by go_num⟩
        case measure => simp [intOf]; omega
      · have G2 : Hid (r = none) := hres.out.1 (by omega)
        clear hres
        go_wp2_with fail
        all_goals (go_ret; exact ⟨by rw [G2.out]; rfl, rfl⟩)
      · have G2 : Hid (r = none) := hres.out.1 (by omega)
        clear hres
        go_wp2_with fail
        all_goals (go_ret; exact ⟨by rw [G2.out]; rfl, rfl⟩)
      · have G2 : Hid (r = none) := hres.out.1 (by omega)
        clear hres
        go_wp2_with fail
        all_goals (go_ret; exact ⟨by rw [G2.out]; rfl, rfl⟩)
      · have G2 := Lib.hid (hres.out.2 (by omega))
        clear hres
        go_wp2_with fail
        go_round
        case rel => exact ⟨_, _, _, ⟨k + 1, by omega, v * 16 + (c - 48), rfl, rfl, G2.out⟩, rfl, congrArg (Value.int .i64) (by omega), by go_num⟩
        case measure => simp [intOf]; omega
      · have G2 := Lib.hid (hres.out.2 (by omega))
        clear hres
        go_wp2_with fail
        go_round
        case rel => exact ⟨_, _, _, ⟨k + 1, by omega, v * 16 + (c - 87), rfl, rfl, G2.out⟩, rfl, congrArg (Value.int .i64) (by omega), by go_num⟩
        case measure => simp [intOf]; omega
      · have G2 := Lib.hid (hres.out.2 (by omega))
        clear hres
        go_wp2_with fail
        go_round
        case rel => exact ⟨_, _, _, ⟨k + 1, by omega, v * 16 + (c - 55), rfl, rfl, G2.out⟩, rfl, congrArg (Value.int .i64) (by omega), by go_num⟩
        case measure => simp [intOf]; omega
      · have G2 : Hid (r = none) := hres.out.1 (by omega)
        clear hres
        go_wp2_with fail
        all_goals (go_ret; exact ⟨by rw [G2.out]; rfl, rfl⟩)
    · have hke : k = s.data.toList.length := by rw [← hsz.out]; omega
      have hv2 := hv.out.2
      rw [hke, List.drop_length] at hv2
      have G2 : Hid (r = some v) := hv2.symm
      clear hke hv2
      go_wp2_with fail
      go_ret
      exact ⟨by rw [G2.out]; rfl, rfl⟩
end Go.Proofs.YtlpjealcmnnbnaaGreatDoor
