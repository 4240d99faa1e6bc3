/-
  THE LAWS OF PACKAGE escape (stage 2): EscapeBack, EscapeRefuses.
-/
import Derived.Test.YtfjpignmjebloaaDoorEscLaws
namespace Go.Proofs.YtfjpignmjebloaaDoor
open Go.RowKit Tx

theorem okb_at {s : ByteArray} (h : ∀ c ∈ s.data.toList, okb c = true) {i : Nat} (hi : i < s.size) : (s[i]'hi).toNat ≠ 60 ∧ (s[i]'hi).toNat ≠ 62 ∧ (s[i]'hi).toNat ≠ 34 ∧ (s[i]'hi).toNat ≠ 39 ∧ 32 ≤ (s[i]'hi).toNat := by
  have hm := h _ (List.mem_of_getElem? (Lib.data_getElem? s i hi))
  generalize (s[i]'hi) = c at hm
  unfold okb at hm
  simp only [Bool.not_eq_true', Bool.or_eq_false_iff, beq_eq_false_iff_ne, decide_eq_false_iff_not] at hm
  obtain ⟨⟨⟨⟨h1, h2⟩, h3⟩, h4⟩, h5⟩ := hm
  refine ⟨fun e => h1 (UInt8.toNat_inj.1 e), fun e => h2 (UInt8.toNat_inj.1 e), fun e => h3 (UInt8.toNat_inj.1 e), fun e => h4 (UInt8.toNat_inj.1 e), by omega⟩

set_option maxHeartbeats 2000000 in
set_option maxRecDepth 100000 in
theorem escapeBack_any (s : ByteArray) (w : World) (hT : Tabs w) (hE : ErrS w) (hs : s.size ≤ maxLen) : Calls Tryd.prog 4 #[.string s] w (Holds w) := by
  unfold maxLen at hs
  have HA := Lib.hid (fun W h1 h2 => awake_any W h1 h2)
  by_cases hlen : s.size ≤ 500
  · have V := fun (W : World) => rvalid_any s W (by omega)
    cases hv : valid s.data.toList with
    | false =>
      rw [hv] at V
      have HV := Lib.hid V
      clear V hv
      go_enter Tryd.func4, Tryd.ntmps4
      go_wp2_with fail
      refine (HV.out _).mono ?_
      rintro e w1 ⟨rfl, rfl⟩
      go_wp2_with fail
      refine (HA.out _ hT hE).mono ?_
      rintro e w1 ⟨rfl, b1⟩
      go_wp2_with fail
      go_ret
      exact ⟨rfl, b1⟩
    | true =>
      rw [hv] at V
      have HV := Lib.hid V
      have T := fun (W : World) => text_any s W (by omega)
      have hsz := esc_size s
      obtain ⟨v1, v2, v3⟩ := esc_text hv
      obtain ⟨Y, hY⟩ : ∃ Y : ByteArray, ⟨(esc s.data.toList).toArray⟩ = Y := ⟨_, rfl⟩
      have hYl : Y.data.toList = esc s.data.toList := by rw [← hY]
      rw [hY] at T hsz
      have B := fun (W : World) h1 h2 => back_any Y W h1 h2 (by omega)
      rw [hYl, backV_some v1 v3, ← bytes_of (rfl : s.data.toList = s.data.toList)] at B
      have HO := Lib.hid (fun (i : Nat) (hi : i < Y.size) => okb_at (s := Y) (by rw [hYl]; exact v2) hi)
      have HB := Lib.hid B
      have HTX := Lib.hid T
      clear V hv T v1 v2 v3 hY hYl B
      go_enter Tryd.func4, Tryd.ntmps4
      go_wp2_with fail
      refine (HV.out _).mono ?_
      rintro e w1 ⟨rfl, rfl⟩
      go_wp2_with fail
      refine (HTX.out _).mono ?_
      rintro e w1 ⟨rfl, b1⟩
      go_wp2_with fail
      refine (HB.out _ (hT.below b1) (hE.below b1)).mono ?_
      rintro e w2 ⟨rfl, b2⟩
      have c2 := b1.trans (b2.mono b1.size)
      have t2 := hT.below c2
      have e2 := hE.below c2
      go_wp2_with fail
      go_loop [6] (fun at_ => ∃ (k : Nat), k ≤ Y.size ∧ at_ = .int .i64 k) (fun at_ => Y.size - (intOf at_).toNat)
      case atStart => exact ⟨0, Nat.zero_le _, rfl⟩
      case round =>
        obtain ⟨k, hk, rfl⟩ := hrel
        by_cases hlt : k < Y.size
        · obtain ⟨g1, g2, g3, g4, g5⟩ := HO.out k hlt
          obtain ⟨z, hz⟩ : ∃ z : Int, ((Y[k]'hlt).toNat : Int) = z := ⟨_, rfl⟩
          have f1 : (z == 60) = false := by simp; omega
          have f2 : (z == 62) = false := by simp; omega
          have f3 : (z == 34) = false := by simp; omega
          have f4 : (z == 39) = false := by simp; omega
          have f5 : 32 ≤ z := by omega
          clear g1 g2 g3 g4 g5
          go_wp2_with fail
          go_round
          case rel => exact ⟨k + 1, by omega, by go_num⟩
          case measure => simp [intOf]; omega
        · go_wp2_with fail
          refine (HA.out _ t2 e2).mono ?_
          rintro e w3 ⟨rfl, b3⟩
          go_wp2_with fail
          go_ret
          exact ⟨rfl, c2.trans (b3.mono c2.size)⟩
  · go_enter Tryd.func4, Tryd.ntmps4
    go_wp2_with fail
    refine (HA.out _ hT hE).mono ?_
    rintro e w1 ⟨rfl, b1⟩
    go_wp2_with fail
    go_ret
    exact ⟨rfl, b1⟩
end Go.Proofs.YtfjpignmjebloaaDoor
