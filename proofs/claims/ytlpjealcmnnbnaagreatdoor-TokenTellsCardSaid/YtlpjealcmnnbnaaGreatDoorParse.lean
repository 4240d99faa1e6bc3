/-
  strconv.ParseUint(s, 10 or 16, 32), at strings of at most seven bytes.
-/
import Derived.Test.YtlpjealcmnnbnaaGreatDoorEntP
import Derived.Test.YtlpjealcmnnbnaaGreatDoorShelf
import Derived.Lib.ConvBytes
namespace Go.Proofs.YtlpjealcmnnbnaaGreatDoor
open Go.RowKit Tx

def lowN (c : Nat) : Nat := c ||| 32
theorem lower_bits (c : Nat) (h : c < 256) : bits .or .u8 (c : Int) 32 = (lowN c : Nat) := by
  have H : ∀ k : Fin 256, bits .or .u8 ((k.val : Nat) : Int) 32 = (lowN k.val : Nat) := by decide +kernel
  exact H ⟨c, h⟩
theorem low_cases (c : Nat) (h : c < 256) : (48 ≤ c ∧ c ≤ 57 ∧ dg c = c - 48) ∨ ((c < 48 ∨ 57 < c) ∧ 97 ≤ lowN c ∧ lowN c ≤ 102 ∧ dg c = lowN c - 87 ∧ c ≠ 95) ∨
    ((c < 48 ∨ 57 < c) ∧ 103 ≤ lowN c ∧ lowN c ≤ 122 ∧ dg c = 99 ∧ c ≠ 95) ∨ ((c < 48 ∨ 57 < c) ∧ (lowN c < 97 ∨ 122 < lowN c) ∧ dg c = 99) := by
  have H : ∀ k : Fin 256, (48 ≤ k.val ∧ k.val ≤ 57 ∧ dg k.val = k.val - 48) ∨ ((k.val < 48 ∨ 57 < k.val) ∧ 97 ≤ lowN k.val ∧ lowN k.val ≤ 102 ∧ dg k.val = lowN k.val - 87 ∧ k.val ≠ 95) ∨
    ((k.val < 48 ∨ 57 < k.val) ∧ 103 ≤ lowN k.val ∧ lowN k.val ≤ 122 ∧ dg k.val = 99 ∧ k.val ≠ 95) ∨ ((k.val < 48 ∨ 57 < k.val) ∧ (lowN k.val < 97 ∨ 122 < lowN k.val) ∧ dg k.val = 99) := by decide +kernel
  exact H ⟨c, h⟩
theorem lowN_lt (c : Nat) (h : c < 256) : lowN c < 256 := by
  have H : ∀ k : Fin 256, lowN k.val < 256 := by decide +kernel
  exact H ⟨c, h⟩
def parsed : Option Nat → Value
  | some v => .tuple #[.int .u64 v, .nilIface]
  | none => .tuple #[.int .u64 0, .iface 142 (.int .i64 2)]
theorem parsed_none : parsed none = .tuple #[.int .u64 0, .iface 142 (.int .i64 2)] := rfl
theorem parsed_some (v : Nat) : parsed (some v) = .tuple #[.int .u64 v, .nilIface] := rfl

set_option maxHeartbeats 4000000 in
set_option maxRecDepth 100000 in
theorem iparse_any (s : ByteArray) (base : Nat) (w : World) (h0 : s.size ≠ 0) (h7 : s.size ≤ 7) (hb : base = 10 ∨ base = 16) :
    Calls Tryz.prog 91 #[.string s, .int .i64 base, .int .i64 32] w fun e w' => e = .returned (parsed (numF base 0 s.data.toList)) ∧ Below w.heap.size w w' := by
  have hsz := Lib.hid (Lib.size_eq s)
  have hcv := Lib.run_convert_string_bytes (P := Tryz.prog) w 9 89 5 s Tryz.underlying9 Tryz.underlying89 Tryz.underlying5
  obtain ⟨cap, hcap⟩ : ∃ cap, grownCap w s.size 0 5 = cap := ⟨_, rfl⟩
  rw [hcap] at hcv
  have HB := Lib.hid (Lib.bytesWorld_below w 5 s)
  have HC := Lib.hid (fun j hj => Lib.bytesWorld_cell w 5 s j hj)
  obtain ⟨W3, hW3⟩ : ∃ W3, Lib.bytesWorld w 5 s = W3 := ⟨_, rfl⟩
  rw [hW3] at hcv HB HC
  have hemp : s.toList.isEmpty = false := by
    rw [ByteArray.toList_eq]
    cases hl : s.data.toList with
    | nil => exact absurd (by rw [Lib.size_eq, hl]; rfl) h0
    | cons a t => rfl
  have hmv : IntKind.u64.wrap (IntKind.u64.wrap 4294967296 - 1) = 4294967295 := by
    rw [IntKind.wrap_u64, IntKind.wrap_u64]
    decide
  have HLow := Lib.hid (fun (c : Int) (W : World) => Tryz.internal_strconv_lower c W)
  obtain ⟨r, hr⟩ : ∃ r, numF base 0 s.data.toList = r := ⟨_, rfl⟩
  rw [hr]
  have HR := Lib.hid hr
  clear hr hcap hW3
  rcases hb with rfl | rfl
  · rw [show ((10 : Nat) : Int) = 10 from rfl]
    go_enter Tryz.func91, Tryz.ntmps91
    go_wp2_with fail
    go_loop [12, 13, 101] (fun vu vn vi => ∃ (k v : Nat) (a : Int), k ≤ s.size ∧ vu = .bool false ∧ vn = .int .u64 a ∧ vi = .int .i64 k ∧ 0 ≤ a ∧ a < 268435456 ∧ Hid (a = (v : Int) ∧ v < 16 ^ k ∧ numF 10 v (s.data.toList.drop k) = r)) (fun _ _ vi => s.size - (intOf vi).toNat)
    case atStart => exact ⟨0, 0, 0, Nat.zero_le _, rfl, rfl, rfl, by omega, by omega, rfl, by omega, by rw [List.drop_zero]; exact HR.out⟩
    case round =>
      obtain ⟨k, v, a, hk, rfl, rfl, rfl, a0, a1, hv⟩ := hrel
      by_cases hlt : k < s.size
      · have hlt' : k < s.data.toList.length := by rw [← hsz.out]; exact hlt
        have hcell := HC.out k hlt
        rw [List.getD_eq_getElem?_getD, List.getElem?_eq_getElem hlt', Option.getD_some] at hcell
        have hst : Hid (numF 10 v (s.data.toList.drop k) = if 10 ≤ dg (s.data.toList[k]'hlt').toNat then none else numF 10 (v * 10 + dg (s.data.toList[k]'hlt').toNat) (s.data.toList.drop (k + 1))) := by
          unfold Hid
          rw [List.drop_eq_getElem_cons hlt']
          rfl
        obtain ⟨c, hc⟩ : ∃ c : Nat, (s.data.toList[k]'hlt').toNat = c := ⟨_, rfl⟩
        have hc256 : c < 256 := by rw [← hc]; exact UInt8.toNat_lt _
        rw [hc] at hst hcell
        have hlow := HLow.out (c : Int)
        rw [lower_bits c hc256] at hlow
        have hdg := low_cases c hc256
        obtain ⟨d, hd⟩ : ∃ d, dg c = d := ⟨_, rfl⟩
        rw [hd] at hst hdg
        have hres : Hid ((10 ≤ d → r = none) ∧ (d < 10 → v * 10 + d < 16 ^ (k + 1) ∧ numF 10 (v * 10 + d) (s.data.toList.drop (k + 1)) = r)) := by
          refine ⟨fun h => ?_, fun h => ⟨?_, ?_⟩⟩
          · rw [← hv.out.2.2, hst.out, if_pos h]
          · have := hv.out.2.1
            rw [Nat.pow_succ]
            omega
          · rw [← hv.out.2.2, hst.out, if_neg (by omega)]
        have hnb : d < 10 → v * 10 + d < 268435456 := fun h => by
          have h2 : 16 ^ (k + 1) ≤ 16 ^ 7 := Nat.pow_le_pow_right (by omega) (by omega)
          have := (hres.out.2 h).1
          omega
        have hva := hv.out.1
        have HV := Lib.hid hva
        obtain ⟨z, hz⟩ : ∃ z : Int, (c : Int) = z := ⟨_, rfl⟩
        obtain ⟨y, hy⟩ : ∃ y : Int, ((lowN c : Nat) : Int) = y := ⟨_, rfl⟩
        rw [hz] at hcell hlow
        rw [hy] at hlow
        have HLW := Lib.hid hlow
        have LOW : Calls Tryz.prog 95 = Calls Tryz.prog 95 := rfl
        clear hst hc hd hlow LOW
        rcases hdg with ⟨g1, g2, rfl⟩ | ⟨g1, g2, g3, rfl, g4⟩ | ⟨g1, g2, g3, rfl, g4⟩ | ⟨g1, g2, rfl⟩
        · have G2 := Lib.hid (hres.out.2 (by omega))
          have hnb2 := hnb (by omega)
          have hb3 : a * 10 + (z - 48) < 268435456 := by omega
          have HCV : Hid (a * 10 + (z - 48) = ((v * 10 + (c - 48) : Nat) : Int)) := by unfold Hid; omega
          have HZ := Lib.hid hz
          have HY := Lib.hid hy
          have z1 : 0 ≤ z ∧ z < 256 := by omega
          have f1 : 48 ≤ z ∧ z ≤ 57 := by omega
          clear hres hnb hnb2 hva hz hy g1 g2 
          go_wp2_with (go_at_call 95; refine (HLW.out _).mono ?_; rintro e w1 ⟨rfl, rfl⟩)
          all_goals go_round
          all_goals first
            | exact ⟨k + 1, v * 10 + (c - 48), _, by omega, rfl, rfl, by go_num, by omega, hb3, HCV.out, G2.out⟩
            | (simp [intOf]; omega)
        · have G2 : Hid (r = none) := hres.out.1 (by omega)
          have z1 : 0 ≤ z ∧ z < 256 := by omega
          have f1 : (z < 48 ∨ 57 < z) ∧ 97 ≤ y ∧ y ≤ 102 := by omega
          have f0 : ¬ z = 95 := by omega
          clear hres hnb hva hz hy g1 g2 g3 g4
          go_wp2_with (go_at_call 95; refine (HLW.out _).mono ?_; rintro e w1 ⟨rfl, rfl⟩)
          all_goals (go_ret2; exact ⟨by rw [G2.out]; rfl, HB.out⟩)
        · have G2 : Hid (r = none) := hres.out.1 (by omega)
          have z1 : 0 ≤ z ∧ z < 256 := by omega
          have f1 : (z < 48 ∨ 57 < z) ∧ 103 ≤ y ∧ y ≤ 122 := by omega
          have f0 : ¬ z = 95 := by omega
          clear hres hnb hva hz hy g1 g2 g3 g4
          go_wp2_with (go_at_call 95; refine (HLW.out _).mono ?_; rintro e w1 ⟨rfl, rfl⟩)
          all_goals (go_ret2; exact ⟨by rw [G2.out]; rfl, HB.out⟩)
        · have G2 : Hid (r = none) := hres.out.1 (by omega)
          have z1 : 0 ≤ z ∧ z < 256 := by omega
          have f1 : (z < 48 ∨ 57 < z) ∧ (y < 97 ∨ 122 < y) ∧ 0 ≤ y ∧ y < 256 := by have : lowN c < 256 := lowN_lt c hc256; omega
          clear hres hnb hva hz hy g1 g2
          by_cases h95 : z = 95
          · subst h95
            go_wp2_with (go_at_call 95; refine (HLW.out _).mono ?_; rintro e w1 ⟨rfl, rfl⟩)
            all_goals (go_ret2; exact ⟨by rw [G2.out]; rfl, HB.out⟩)
          · go_wp2_with (go_at_call 95; refine (HLW.out _).mono ?_; rintro e w1 ⟨rfl, rfl⟩)
            all_goals (go_ret2; exact ⟨by rw [G2.out]; rfl, HB.out⟩)
      · have hke : k = s.data.toList.length := by rw [← hsz.out]; omega
        have hv2 := hv.out.2.2
        rw [hke, List.drop_length] at hv2
        have G2 : Hid (r = some v) := hv2.symm
        have HV := Lib.hid hv.out.1
        clear hke hv2
        go_wp2_with fail
        go_ret2
        exact ⟨by rw [G2.out, parsed_some, ← HV.out]; rfl, HB.out⟩
  · rw [show ((16 : Nat) : Int) = 16 from rfl]
    go_enter Tryz.func91, Tryz.ntmps91
    go_wp2_with fail
    go_loop [12, 13, 101] (fun vu vn vi => ∃ (k v : Nat) (a : Int), k ≤ s.size ∧ vu = .bool false ∧ vn = .int .u64 a ∧ vi = .int .i64 k ∧ 0 ≤ a ∧ a < 268435456 ∧ Hid (a = (v : Int) ∧ v < 16 ^ k ∧ numF 16 v (s.data.toList.drop k) = r)) (fun _ _ vi => s.size - (intOf vi).toNat)
    case atStart => exact ⟨0, 0, 0, Nat.zero_le _, rfl, rfl, rfl, by omega, by omega, rfl, by omega, by rw [List.drop_zero]; exact HR.out⟩
    case round =>
      obtain ⟨k, v, a, hk, rfl, rfl, rfl, a0, a1, hv⟩ := hrel
      by_cases hlt : k < s.size
      · have hlt' : k < s.data.toList.length := by rw [← hsz.out]; exact hlt
        have hcell := HC.out k hlt
        rw [List.getD_eq_getElem?_getD, List.getElem?_eq_getElem hlt', Option.getD_some] at hcell
        have hst : Hid (numF 16 v (s.data.toList.drop k) = if 16 ≤ dg (s.data.toList[k]'hlt').toNat then none else numF 16 (v * 16 + dg (s.data.toList[k]'hlt').toNat) (s.data.toList.drop (k + 1))) := by
          unfold Hid
          rw [List.drop_eq_getElem_cons hlt']
          rfl
        obtain ⟨c, hc⟩ : ∃ c : Nat, (s.data.toList[k]'hlt').toNat = c := ⟨_, rfl⟩
        have hc256 : c < 256 := by rw [← hc]; exact UInt8.toNat_lt _
        rw [hc] at hst hcell
        have hlow := HLow.out (c : Int)
        rw [lower_bits c hc256] at hlow
        have hdg := low_cases c hc256
        obtain ⟨d, hd⟩ : ∃ d, dg c = d := ⟨_, rfl⟩
        rw [hd] at hst hdg
        have hres : Hid ((16 ≤ d → r = none) ∧ (d < 16 → v * 16 + d < 16 ^ (k + 1) ∧ numF 16 (v * 16 + d) (s.data.toList.drop (k + 1)) = r)) := by
          refine ⟨fun h => ?_, fun h => ⟨?_, ?_⟩⟩
          · rw [← hv.out.2.2, hst.out, if_pos h]
          · have := hv.out.2.1
            rw [Nat.pow_succ]
            omega
          · rw [← hv.out.2.2, hst.out, if_neg (by omega)]
        have hnb : d < 16 → v * 16 + d < 268435456 := fun h => by
          have h2 : 16 ^ (k + 1) ≤ 16 ^ 7 := Nat.pow_le_pow_right (by omega) (by omega)
          have := (hres.out.2 h).1
          omega
        have hva := hv.out.1
        have HV := Lib.hid hva
        obtain ⟨z, hz⟩ : ∃ z : Int, (c : Int) = z := ⟨_, rfl⟩
        obtain ⟨y, hy⟩ : ∃ y : Int, ((lowN c : Nat) : Int) = y := ⟨_, rfl⟩
        rw [hz] at hcell hlow
        rw [hy] at hlow
        have HLW := Lib.hid hlow
        have LOW : Calls Tryz.prog 95 = Calls Tryz.prog 95 := rfl
        clear hst hc hd hlow LOW
        rcases hdg with ⟨g1, g2, rfl⟩ | ⟨g1, g2, g3, rfl, g4⟩ | ⟨g1, g2, g3, rfl, g4⟩ | ⟨g1, g2, rfl⟩
        · have G2 := Lib.hid (hres.out.2 (by omega))
          have hnb2 := hnb (by omega)
          have hb3 : a * 16 + (z - 48) < 268435456 := by omega
          have HCV : Hid (a * 16 + (z - 48) = ((v * 16 + (c - 48) : Nat) : Int)) := by unfold Hid; omega
          have HZ := Lib.hid hz
          have HY := Lib.hid hy
          have z1 : 0 ≤ z ∧ z < 256 := by omega
          have f1 : 48 ≤ z ∧ z ≤ 57 := by omega
          clear hres hnb hnb2 hva hz hy g1 g2 
          go_wp2_with (go_at_call 95; refine (HLW.out _).mono ?_; rintro e w1 ⟨rfl, rfl⟩)
          all_goals go_round
          all_goals first
            | exact ⟨k + 1, v * 16 + (c - 48), _, by omega, rfl, rfl, by go_num, by omega, hb3, HCV.out, G2.out⟩
            | (simp [intOf]; omega)
        · have G2 := Lib.hid (hres.out.2 (by omega))
          have hnb2 := hnb (by omega)
          have hb3 : a * 16 + (y - 97 + 10) < 268435456 := by omega
          have HCV : Hid (a * 16 + (y - 97 + 10) = ((v * 16 + (lowN c - 87) : Nat) : Int)) := by unfold Hid; omega
          have HZ := Lib.hid hz
          have HY := Lib.hid hy
          have z1 : 0 ≤ z ∧ z < 256 := by omega
          have f1 : (z < 48 ∨ 57 < z) ∧ 97 ≤ y ∧ y ≤ 102 := by omega
          have f0 : ¬ z = 95 := by omega
          clear hres hnb hnb2 hva hz hy g1 g2 g3 g4
          go_wp2_with (go_at_call 95; refine (HLW.out _).mono ?_; rintro e w1 ⟨rfl, rfl⟩)
          all_goals go_round
          all_goals first
            | exact ⟨k + 1, v * 16 + (lowN c - 87), _, by omega, rfl, rfl, by go_num, by omega, hb3, HCV.out, G2.out⟩
            | (simp [intOf]; omega)
        · have G2 : Hid (r = none) := hres.out.1 (by omega)
          have z1 : 0 ≤ z ∧ z < 256 := by omega
          have f1 : (z < 48 ∨ 57 < z) ∧ 103 ≤ y ∧ y ≤ 122 := by omega
          have f0 : ¬ z = 95 := by omega
          clear hres hnb hva hz hy g1 g2 g3 g4
          go_wp2_with (go_at_call 95; refine (HLW.out _).mono ?_; rintro e w1 ⟨rfl, rfl⟩)
          all_goals (go_ret2; exact ⟨by rw [G2.out]; rfl, HB.out⟩)
        · have G2 : Hid (r = none) := hres.out.1 (by omega)
          have z1 : 0 ≤ z ∧ z < 256 := by omega
          have f1 : (z < 48 ∨ 57 < z) ∧ (y < 97 ∨ 122 < y) ∧ 0 ≤ y ∧ y < 256 := by have : lowN c < 256 := lowN_lt c hc256; omega
          clear hres hnb hva hz hy g1 g2
          by_cases h95 : z = 95
          · subst h95
            go_wp2_with (go_at_call 95; refine (HLW.out _).mono ?_; rintro e w1 ⟨rfl, rfl⟩)
            all_goals (go_ret2; exact ⟨by rw [G2.out]; rfl, HB.out⟩)
          · go_wp2_with (go_at_call 95; refine (HLW.out _).mono ?_; rintro e w1 ⟨rfl, rfl⟩)
            all_goals (go_ret2; exact ⟨by rw [G2.out]; rfl, HB.out⟩)
      · have hke : k = s.data.toList.length := by rw [← hsz.out]; omega
        have hv2 := hv.out.2.2
        rw [hke, List.drop_length] at hv2
        have G2 : Hid (r = some v) := hv2.symm
        have HV := Lib.hid hv.out.1
        clear hke hv2
        go_wp2_with fail
        go_ret2
        exact ⟨by rw [G2.out, parsed_some, ← HV.out]; rfl, HB.out⟩
end Go.Proofs.YtlpjealcmnnbnaaGreatDoor
