/- Texts laid together: Parse Numb -/
import Derived.Test.YtbkfmbkamocllaaGreatDoorEntP
import Derived.Test.YtbkfmbkamocllaaGreatDoorShelf
import Derived.Lib.ConvBytes
import Derived.Test.YtbkfmbkamocllaaGreatDoorVal
import Derived.Test.YtbkfmbkamocllaaGreatDoorBld
/-
  strconv.ParseUint(s, 10 or 16, 32), at strings of at most seven bytes.
-/
namespace Go.Proofs.YtbkfmbkamocllaaGreatDoor
open Go.RowKit Tx

def lowN (c : Nat) : Nat := c ||| 32
theorem lower_bits (c : Nat) (h : c < 256) : bits .or .u8 (c : Int) 32 = (lowN c : Nat) := by
  have H : ∀ k : Fin 256, bits .or .u8 ((k.val : Nat) : Int) 32 = (lowN k.val : Nat) := by decide +kernel
  exact H ⟨c, h⟩
theorem low_cases (c : Nat) (h : c < 256) : (48 ≤ c ∧ c ≤ 57 ∧ dg c = c - 48) ∨ ((c < 48 ∨ 57 < c) ∧ 97 ≤ lowN c ∧ lowN c ≤ 102 ∧ dg c = lowN c - 87 ∧ c ≠ 95) ∨
    ((c < 48 ∨ 57 < c) ∧ 103 ≤ lowN c ∧ lowN c ≤ 122 ∧ dg c = 99 ∧ c ≠ 95) ∨ ((c < 48 ∨ 57 < c) ∧ (lowN c < 97 ∨ 122 < lowN c) ∧ dg c = 99) := by
  have H : ∀ k : Fin 256, (48 ≤ k.val ∧ k.val ≤ 57 ∧ dg k.val = k.val - 48) ∨ ((k.val < 48 ∨ 57 < k.val) ∧ 97 ≤ lowN k.val ∧ lowN k.val ≤ 102 ∧ dg k.val = lowN k.val - 87 ∧ k.val ≠ 95) ∨
    ((k.val < 48 ∨ 57 < k.val) ∧ 103 ≤ lowN k.val ∧ lowN k.val ≤ 122 ∧ dg k.val = 99 ∧ k.val ≠ 95) ∨ ((k.val < 48 ∨ 57 < k.val) ∧ (lowN k.val < 97 ∨ 122 < lowN k.val) ∧ dg k.val = 99) := by decide +kernel
  exact H ⟨c, h⟩
theorem lowN_lt (c : Nat) (h : c < 256) : lowN c < 256 := by
  have H : ∀ k : Fin 256, lowN k.val < 256 := by decide +kernel
  exact H ⟨c, h⟩
def parsed : Option Nat → Value
  | some v => .tuple #[.int .u64 v, .nilIface]
  | none => .tuple #[.int .u64 0, .iface 183 (.int .i64 2)]
theorem parsed_none : parsed none = .tuple #[.int .u64 0, .iface 183 (.int .i64 2)] := rfl
theorem parsed_some (v : Nat) : parsed (some v) = .tuple #[.int .u64 v, .nilIface] := rfl

set_option maxHeartbeats 4000000 in
set_option maxRecDepth 100000 in
theorem iparse_any (s : ByteArray) (base : Nat) (w : World) (h0 : s.size ≠ 0) (h7 : s.size ≤ 7) (hb : base = 10 ∨ base = 16) :
    Calls Tryz.prog 130 #[.string s, .int .i64 base, .int .i64 32] w fun e w' => e = .returned (parsed (numF base 0 s.data.toList)) ∧ Below w.heap.size w w' := by
  have hsz := Lib.hid (Lib.size_eq s)
  have hcv := Lib.run_convert_string_bytes (P := Tryz.prog) w 9 83 5 s Tryz.underlying9 Tryz.underlying83 Tryz.underlying5
  obtain ⟨cap, hcap⟩ : ∃ cap, grownCap w s.size 0 5 = cap := ⟨_, rfl⟩
  rw [hcap] at hcv
  have HB := Lib.hid (Lib.bytesWorld_below w 5 s)
  have HC := Lib.hid (fun j hj => Lib.bytesWorld_cell w 5 s j hj)
  obtain ⟨W3, hW3⟩ : ∃ W3, Lib.bytesWorld w 5 s = W3 := ⟨_, rfl⟩
  rw [hW3] at hcv HB HC
  have hemp : s.toList.isEmpty = false := by
    rw [ByteArray.toList_eq]
    cases hl : s.data.toList with
    | nil => exact absurd (by rw [Lib.size_eq, hl]; rfl) h0
    | cons a t => rfl
  have hmv : IntKind.u64.wrap (IntKind.u64.wrap 4294967296 - 1) = 4294967295 := by
    rw [IntKind.wrap_u64, IntKind.wrap_u64]
    decide
  have HLow := Lib.hid (fun (c : Int) (W : World) => Tryz.internal_strconv_lower c W)
  obtain ⟨r, hr⟩ : ∃ r, numF base 0 s.data.toList = r := ⟨_, rfl⟩
  rw [hr]
  have HR := Lib.hid hr
  clear hr hcap hW3
  rcases hb with rfl | rfl
  · rw [show ((10 : Nat) : Int) = 10 from rfl]
    go_enter Tryz.func130, Tryz.ntmps130
    go_wp2_with fail
    go_loop [12, 13, 101] (fun vu vn vi => ∃ (k v : Nat) (a : Int), k ≤ s.size ∧ vu = .bool false ∧ vn = .int .u64 a ∧ vi = .int .i64 k ∧ 0 ≤ a ∧ a < 268435456 ∧ Hid (a = (v : Int) ∧ v < 16 ^ k ∧ numF 10 v (s.data.toList.drop k) = r)) (fun _ _ vi => s.size - (intOf vi).toNat)
    case atStart => exact ⟨0, 0, 0, Nat.zero_le _, rfl, rfl, rfl, by omega, by omega, rfl, by omega, by rw [List.drop_zero]; exact HR.out⟩
    case round =>
      obtain ⟨k, v, a, hk, rfl, rfl, rfl, a0, a1, hv⟩ := hrel
      by_cases hlt : k < s.size
      · have hlt' : k < s.data.toList.length := by rw [← hsz.out]; exact hlt
        have hcell := HC.out k hlt
        rw [List.getD_eq_getElem?_getD, List.getElem?_eq_getElem hlt', Option.getD_some] at hcell
        have hst : Hid (numF 10 v (s.data.toList.drop k) = if 10 ≤ dg (s.data.toList[k]'hlt').toNat then none else numF 10 (v * 10 + dg (s.data.toList[k]'hlt').toNat) (s.data.toList.drop (k + 1))) := by
          unfold Hid
          rw [List.drop_eq_getElem_cons hlt']
          rfl
        obtain ⟨c, hc⟩ : ∃ c : Nat, (s.data.toList[k]'hlt').toNat = c := ⟨_, rfl⟩
        have hc256 : c < 256 := by rw [← hc]; exact UInt8.toNat_lt _
        rw [hc] at hst hcell
        have hlow := HLow.out (c : Int)
        rw [lower_bits c hc256] at hlow
        have hdg := low_cases c hc256
        obtain ⟨d, hd⟩ : ∃ d, dg c = d := ⟨_, rfl⟩
        rw [hd] at hst hdg
        have hres : Hid ((10 ≤ d → r = none) ∧ (d < 10 → v * 10 + d < 16 ^ (k + 1) ∧ numF 10 (v * 10 + d) (s.data.toList.drop (k + 1)) = r)) := by
          refine ⟨fun h => ?_, fun h => ⟨?_, ?_⟩⟩
          · rw [← hv.out.2.2, hst.out, if_pos h]
          · have := hv.out.2.1
            rw [Nat.pow_succ]
            omega
          · rw [← hv.out.2.2, hst.out, if_neg (by omega)]
        have hnb : d < 10 → v * 10 + d < 268435456 := fun h => by
          have h2 : 16 ^ (k + 1) ≤ 16 ^ 7 := Nat.pow_le_pow_right (by omega) (by omega)
          have := (hres.out.2 h).1
          omega
        have hva := hv.out.1
        have HV := Lib.hid hva
        obtain ⟨z, hz⟩ : ∃ z : Int, (c : Int) = z := ⟨_, rfl⟩
        obtain ⟨y, hy⟩ : ∃ y : Int, ((lowN c : Nat) : Int) = y := ⟨_, rfl⟩
        rw [hz] at hcell hlow
        rw [hy] at hlow
        have HLW := Lib.hid hlow
        have LOW : Calls Tryz.prog 132 = Calls Tryz.prog 132 := rfl
        clear hst hc hd hlow LOW
        rcases hdg with ⟨g1, g2, rfl⟩ | ⟨g1, g2, g3, rfl, g4⟩ | ⟨g1, g2, g3, rfl, g4⟩ | ⟨g1, g2, rfl⟩
        · have G2 := Lib.hid (hres.out.2 (by omega))
          have hnb2 := hnb (by omega)
          have hb3 : a * 10 + (z - 48) < 268435456 := by omega
          have HCV : Hid (a * 10 + (z - 48) = ((v * 10 + (c - 48) : Nat) : Int)) := by unfold Hid; omega
          have HZ := Lib.hid hz
          have HY := Lib.hid hy
          have z1 : 0 ≤ z ∧ z < 256 := by omega
          have f1 : 48 ≤ z ∧ z ≤ 57 := by omega
          clear hres hnb hnb2 hva hz hy g1 g2 
          go_wp2_with (go_at_call 132; refine (HLW.out _).mono ?_; rintro e w1 ⟨rfl, rfl⟩)
          all_goals go_round
          all_goals first
            | exact ⟨k + 1, v * 10 + (c - 48), _, by omega, rfl, rfl, by go_num, by omega, hb3, HCV.out, G2.out⟩
            | (simp [intOf]; omega)
        · have G2 : Hid (r = none) := hres.out.1 (by omega)
          have z1 : 0 ≤ z ∧ z < 256 := by omega
          have f1 : (z < 48 ∨ 57 < z) ∧ 97 ≤ y ∧ y ≤ 102 := by omega
          have f0 : ¬ z = 95 := by omega
          clear hres hnb hva hz hy g1 g2 g3 g4
          go_wp2_with (go_at_call 132; refine (HLW.out _).mono ?_; rintro e w1 ⟨rfl, rfl⟩)
          all_goals (go_ret2; exact ⟨by rw [G2.out]; rfl, HB.out⟩)
        · have G2 : Hid (r = none) := hres.out.1 (by omega)
          have z1 : 0 ≤ z ∧ z < 256 := by omega
          have f1 : (z < 48 ∨ 57 < z) ∧ 103 ≤ y ∧ y ≤ 122 := by omega
          have f0 : ¬ z = 95 := by omega
          clear hres hnb hva hz hy g1 g2 g3 g4
          go_wp2_with (go_at_call 132; refine (HLW.out _).mono ?_; rintro e w1 ⟨rfl, rfl⟩)
          all_goals (go_ret2; exact ⟨by rw [G2.out]; rfl, HB.out⟩)
        · have G2 : Hid (r = none) := hres.out.1 (by omega)
          have z1 : 0 ≤ z ∧ z < 256 := by omega
          have f1 : (z < 48 ∨ 57 < z) ∧ (y < 97 ∨ 122 < y) ∧ 0 ≤ y ∧ y < 256 := by have : lowN c < 256 := lowN_lt c hc256; omega
          clear hres hnb hva hz hy g1 g2
          by_cases h95 : z = 95
          · subst h95
            go_wp2_with (go_at_call 132; refine (HLW.out _).mono ?_; rintro e w1 ⟨rfl, rfl⟩)
            all_goals (go_ret2; exact ⟨by rw [G2.out]; rfl, HB.out⟩)
          · go_wp2_with (go_at_call 132; refine (HLW.out _).mono ?_; rintro e w1 ⟨rfl, rfl⟩)
            all_goals (go_ret2; exact ⟨by rw [G2.out]; rfl, HB.out⟩)
      · have hke : k = s.data.toList.length := by rw [← hsz.out]; omega
        have hv2 := hv.out.2.2
        rw [hke, List.drop_length] at hv2
        have G2 : Hid (r = some v) := hv2.symm
        have HV := Lib.hid hv.out.1
        clear hke hv2
        go_wp2_with fail
        go_ret2
        exact ⟨by rw [G2.out, parsed_some, ← HV.out]; rfl, HB.out⟩
  · rw [show ((16 : Nat) : Int) = 16 from rfl]
    go_enter Tryz.func130, Tryz.ntmps130
    go_wp2_with fail
    go_loop [12, 13, 101] (fun vu vn vi => ∃ (k v : Nat) (a : Int), k ≤ s.size ∧ vu = .bool false ∧ vn = .int .u64 a ∧ vi = .int .i64 k ∧ 0 ≤ a ∧ a < 268435456 ∧ Hid (a = (v : Int) ∧ v < 16 ^ k ∧ numF 16 v (s.data.toList.drop k) = r)) (fun _ _ vi => s.size - (intOf vi).toNat)
    case atStart => exact ⟨0, 0, 0, Nat.zero_le _, rfl, rfl, rfl, by omega, by omega, rfl, by omega, by rw [List.drop_zero]; exact HR.out⟩
    case round =>
      obtain ⟨k, v, a, hk, rfl, rfl, rfl, a0, a1, hv⟩ := hrel
      by_cases hlt : k < s.size
      · have hlt' : k < s.data.toList.length := by rw [← hsz.out]; exact hlt
        have hcell := HC.out k hlt
        rw [List.getD_eq_getElem?_getD, List.getElem?_eq_getElem hlt', Option.getD_some] at hcell
        have hst : Hid (numF 16 v (s.data.toList.drop k) = if 16 ≤ dg (s.data.toList[k]'hlt').toNat then none else numF 16 (v * 16 + dg (s.data.toList[k]'hlt').toNat) (s.data.toList.drop (k + 1))) := by
          unfold Hid
          rw [List.drop_eq_getElem_cons hlt']
          rfl
        obtain ⟨c, hc⟩ : ∃ c : Nat, (s.data.toList[k]'hlt').toNat = c := ⟨_, rfl⟩
        have hc256 : c < 256 := by rw [← hc]; exact UInt8.toNat_lt _
        rw [hc] at hst hcell
        have hlow := HLow.out (c : Int)
        rw [lower_bits c hc256] at hlow
        have hdg := low_cases c hc256
        obtain ⟨d, hd⟩ : ∃ d, dg c = d := ⟨_, rfl⟩
        rw [hd] at hst hdg
        have hres : Hid ((16 ≤ d → r = none) ∧ (d < 16 → v * 16 + d < 16 ^ (k + 1) ∧ numF 16 (v * 16 + d) (s.data.toList.drop (k + 1)) = r)) := by
          refine ⟨fun h => ?_, fun h => ⟨?_, ?_⟩⟩
          · rw [← hv.out.2.2, hst.out, if_pos h]
          · have := hv.out.2.1
            rw [Nat.pow_succ]
            omega
          · rw [← hv.out.2.2, hst.out, if_neg (by omega)]
        have hnb : d < 16 → v * 16 + d < 268435456 := fun h => by
          have h2 : 16 ^ (k + 1) ≤ 16 ^ 7 := Nat.pow_le_pow_right (by omega) (by omega)
          have := (hres.out.2 h).1
          omega
        have hva := hv.out.1
        have HV := Lib.hid hva
        obtain ⟨z, hz⟩ : ∃ z : Int, (c : Int) = z := ⟨_, rfl⟩
        obtain ⟨y, hy⟩ : ∃ y : Int, ((lowN c : Nat) : Int) = y := ⟨_, rfl⟩
        rw [hz] at hcell hlow
        rw [hy] at hlow
        have HLW := Lib.hid hlow
        have LOW : Calls Tryz.prog 132 = Calls Tryz.prog 132 := rfl
        clear hst hc hd hlow LOW
        rcases hdg with ⟨g1, g2, rfl⟩ | ⟨g1, g2, g3, rfl, g4⟩ | ⟨g1, g2, g3, rfl, g4⟩ | ⟨g1, g2, rfl⟩
        · have G2 := Lib.hid (hres.out.2 (by omega))
          have hnb2 := hnb (by omega)
          have hb3 : a * 16 + (z - 48) < 268435456 := by omega
          have HCV : Hid (a * 16 + (z - 48) = ((v * 16 + (c - 48) : Nat) : Int)) := by unfold Hid; omega
          have HZ := Lib.hid hz
          have HY := Lib.hid hy
          have z1 : 0 ≤ z ∧ z < 256 := by omega
          have f1 : 48 ≤ z ∧ z ≤ 57 := by omega
          clear hres hnb hnb2 hva hz hy g1 g2 
          go_wp2_with (go_at_call 132; refine (HLW.out _).mono ?_; rintro e w1 ⟨rfl, rfl⟩)
          all_goals go_round
          all_goals first
            | exact ⟨k + 1, v * 16 + (c - 48), _, by omega, rfl, rfl, by go_num, by omega, hb3, HCV.out, G2.out⟩
            | (simp [intOf]; omega)
        · have G2 := Lib.hid (hres.out.2 (by omega))
          have hnb2 := hnb (by omega)
          have hb3 : a * 16 + (y - 97 + 10) < 268435456 := by omega
          have HCV : Hid (a * 16 + (y - 97 + 10) = ((v * 16 + (lowN c - 87) : Nat) : Int)) := by unfold Hid; omega
          have HZ := Lib.hid hz
          have HY := Lib.hid hy
          have z1 : 0 ≤ z ∧ z < 256 := by omega
          have f1 : (z < 48 ∨ 57 < z) ∧ 97 ≤ y ∧ y ≤ 102 := by omega
          have f0 : ¬ z = 95 := by omega
          clear hres hnb hnb2 hva hz hy g1 g2 g3 g4
          go_wp2_with (go_at_call 132; refine (HLW.out _).mono ?_; rintro e w1 ⟨rfl, rfl⟩)
          all_goals go_round
          all_goals first
            | exact ⟨k + 1, v * 16 + (lowN c - 87), _, by omega, rfl, rfl, by go_num, by omega, hb3, HCV.out, G2.out⟩
            | (simp [intOf]; omega)
        · have G2 : Hid (r = none) := hres.out.1 (by omega)
          have z1 : 0 ≤ z ∧ z < 256 := by omega
          have f1 : (z < 48 ∨ 57 < z) ∧ 103 ≤ y ∧ y ≤ 122 := by omega
          have f0 : ¬ z = 95 := by omega
          clear hres hnb hva hz hy g1 g2 g3 g4
          go_wp2_with (go_at_call 132; refine (HLW.out _).mono ?_; rintro e w1 ⟨rfl, rfl⟩)
          all_goals (go_ret2; exact ⟨by rw [G2.out]; rfl, HB.out⟩)
        · have G2 : Hid (r = none) := hres.out.1 (by omega)
          have z1 : 0 ≤ z ∧ z < 256 := by omega
          have f1 : (z < 48 ∨ 57 < z) ∧ (y < 97 ∨ 122 < y) ∧ 0 ≤ y ∧ y < 256 := by have : lowN c < 256 := lowN_lt c hc256; omega
          clear hres hnb hva hz hy g1 g2
          by_cases h95 : z = 95
          · subst h95
            go_wp2_with (go_at_call 132; refine (HLW.out _).mono ?_; rintro e w1 ⟨rfl, rfl⟩)
            all_goals (go_ret2; exact ⟨by rw [G2.out]; rfl, HB.out⟩)
          · go_wp2_with (go_at_call 132; refine (HLW.out _).mono ?_; rintro e w1 ⟨rfl, rfl⟩)
            all_goals (go_ret2; exact ⟨by rw [G2.out]; rfl, HB.out⟩)
      · have hke : k = s.data.toList.length := by rw [← hsz.out]; omega
        have hv2 := hv.out.2.2
        rw [hke, List.drop_length] at hv2
        have G2 : Hid (r = some v) := hv2.symm
        have HV := Lib.hid hv.out.1
        clear hke hv2
        go_wp2_with fail
        go_ret2
        exact ⟨by rw [G2.out, parsed_some, ← HV.out]; rfl, HB.out⟩
end Go.Proofs.YtbkfmbkamocllaaGreatDoor
/-
  strconv.ParseUint at short numerals, and escape.numbered.
-/
namespace Go.Proofs.YtbkfmbkamocllaaGreatDoor
open Go.RowKit Tx

/-- The library's variable strconv.ErrSyntax holds an error, or none. -/
def ErrS (w : World) : Prop := ∃ ev, w.cell? ⟨3, 0, none⟩ = some ev ∧ (ev = .nilIface ∨ ∃ te pe, ev = .iface te pe)
theorem ErrS.below {w w' : World} (h : ErrS w) (hb : Below w.heap.size w w') : ErrS w' := by
  obtain ⟨ev, h1, h2⟩ := h
  have hlt : 3 < w.heap.size := by
    rcases Nat.lt_or_ge 3 w.heap.size with h | h
    · exact h
    · unfold World.cell? at h1; rw [Array.getElem?_eq_none h] at h1; cases h1
  exact ⟨ev, by rw [hb.cell (p := ⟨3, 0, none⟩) hlt]; exact h1, h2⟩
def numO (base : Nat) (l : List UInt8) : Option Nat := if l = [] then none else numF base 0 l
theorem num_numO {base most : Nat} {l : List UInt8} (h : l.length ≤ most) : num base most l = numO base l := by
  unfold num numO
  by_cases h0 : l = []
  · rw [if_pos (.inl h0), if_pos h0]
  · rw [if_neg (by rintro (h1 | h1); exact h0 h1; omega), if_neg h0]
theorem qparse_any (s : ByteArray) (base : Nat) (w : World) (h7 : s.size ≤ 7) (hb : base = 10 ∨ base = 16) :
    Calls Tryz.prog 130 #[.string s, .int .i64 base, .int .i64 32] w fun e w' => e = .returned (parsed (numO base s.data.toList)) ∧ Below w.heap.size w w' := by
  by_cases h0 : s.size = 0
  · have hl : s.data.toList = [] := List.eq_nil_of_length_eq_zero (by rw [← Lib.size_eq]; exact h0)
    obtain rfl : s = ⟨#[]⟩ := bytes_of hl
    refine (Tryz.internal_strconv_ParseUint_empty base 32 w).mono ?_
    rintro e w' ⟨h1, rfl⟩
    exact ⟨h1, Below.refl _ _⟩
  · have : numO base s.data.toList = numF base 0 s.data.toList := by
      unfold numO
      rw [if_neg]
      intro e
      apply h0
      rw [Lib.size_eq, e]; rfl
    rw [this]
    exact iparse_any s base w h0 h7 hb
set_option maxHeartbeats 1000000 in
set_option maxRecDepth 100000 in
theorem pparse_some (s : ByteArray) (base v : Nat) (w : World) (h7 : s.size ≤ 7) (hb : base = 10 ∨ base = 16) (h : numO base s.data.toList = some v) :
    Calls Tryz.prog 125 #[.string s, .int .i64 base, .int .i64 32] w fun e w' => e = .returned (.tuple #[.int .u64 v, .nilIface]) ∧ Below w.heap.size w w' := by
  have HQ := qparse_any s base w h7 hb
  rw [h, parsed_some] at HQ
  have HQ := Lib.hid HQ
  clear h
  go_enter Tryz.func125, Tryz.ntmps125
  go_wp2_with (go_at_call 130; refine HQ.out.mono ?_; rintro e w2 ⟨rfl, b2⟩)
  go_ret2
  exact ⟨rfl, b2⟩
set_option maxHeartbeats 1000000 in
set_option maxRecDepth 100000 in
theorem pparse_none (s : ByteArray) (base : Nat) (w : World) (hE : ErrS w) (h7 : s.size ≤ 7) (hb : base = 10 ∨ base = 16) (h : numO base s.data.toList = none) :
    Calls Tryz.prog 125 #[.string s, .int .i64 base, .int .i64 32] w fun e w' => (∃ N : Nat, e = .returned (.tuple #[.int .u64 0, .iface 185 (.pointer (some ⟨N, 0, none⟩))])) ∧ Below w.heap.size w w' := by
  have HQ := qparse_any s base w h7 hb
  rw [h, parsed_none] at HQ
  have HQ := Lib.hid HQ
  clear h
  go_enter Tryz.func125, Tryz.ntmps125
  go_wp2_with (go_at_call 130; refine HQ.out.mono ?_; rintro e w2 ⟨rfl, b2⟩)
  obtain ⟨ev, h1, h2⟩ := hE.below b2
  refine (Tryz.strconv_toError_syntax _ s base 32 ev w2 (by omega) h1 h2).mono ?_
  rintro e w3 ⟨N, rfl, _, _, b3⟩
  go_wp2_with fail
  go_ret2
  exact ⟨⟨N, rfl⟩, b2.trans (b3.mono b2.size)⟩

def numbV : Option Nat → Value
  | some v => .tuple #[.int .i32 v, .bool true]
  | none => .tuple #[.int .i32 0, .bool false]
theorem numbV_some (v : Nat) : numbV (some v) = .tuple #[.int .i32 v, .bool true] := rfl
theorem numbV_none : numbV none = .tuple #[.int .i32 0, .bool false] := rfl
theorem valid_enc {v : Nat} (h : sane v) : valid (enc v) = okc v := by
  cases hk : okc v with
  | true => exact valid_some (ch_enc h hk)
  | false => exact valid_none (ch_enc_not h hk)
set_option maxHeartbeats 2000000 in
set_option maxRecDepth 100000 in
theorem numbered_any (s : ByteArray) (base most : Nat) (w : World) (hT : Tabs w) (hE : ErrS w) (hb : base = 10 ∨ base = 16) (hm : most ≤ 7) :
    Calls Tryz.prog 112 #[.string s, .int .i64 base, .int .i64 most] w fun e w' => e = .returned (numbV (Tx.keep (num base most s.data.toList))) ∧ Below w.heap.size w w' := by
  have hsz := Lib.hid (Lib.size_eq s)
  by_cases hlong : most < s.size
  · have hn : num base most s.data.toList = none := by
      unfold num
      rw [if_pos (.inr (by rw [← hsz.out]; exact hlong))]
    rw [hn, keep_none, numbV_none]
    clear hn
    go_enter Tryz.func112, Tryz.ntmps112
    go_wp2_with fail
    go_ret2
    exact ⟨rfl, Below.refl _ _⟩
  have h7 : s.size ≤ 7 := by omega
  have hno := num_numO (base := base) (most := most) (l := s.data.toList) (by rw [← hsz.out]; omega)
  rcases keep_cases (num base most s.data.toList) with ⟨ho, hk⟩ | ⟨v, ho, hg, hk⟩ | ⟨v, ho, hg, hk⟩
  · rw [hk, numbV_none]
    have HP := Lib.hid (pparse_none s base w hE h7 hb (by rw [← hno]; exact ho))
    clear ho hk hno
    go_enter Tryz.func112, Tryz.ntmps112
    go_wp2_with (go_at_call 125; refine HP.out.mono ?_; rintro e w2 ⟨⟨N, rfl⟩, b2⟩)
    go_ret2
    exact ⟨rfl, b2⟩
  · rw [hk, numbV_none]
    have hv := num_lt (by omega) (by omega) hm ho
    have hp := pparse_some s base v w h7 hb (by rw [← hno]; exact ho)
    have hvr := fun (W : World) => Tryz.utf8_ValidRune (v : Int) W
    obtain ⟨z, hz⟩ : ∃ z : Int, (v : Int) = z := ⟨_, rfl⟩
    have z0 : 0 ≤ z := by omega
    have z1 : z < 268435456 := by omega
    by_cases hsane : sane v
    · have hok : okc v = false := by
        unfold good at hg
        rw [decide_eq_true hsane, Bool.true_and] at hg
        exact hg
      have hvt : Lib.validRune z = true := by
        unfold sane at hsane; unfold Lib.validRune; exact decide_eq_true (by omega)
      have hve := valid_enc hsane
      rw [hok] at hve
      obtain ⟨E, hEn⟩ : ∃ E, Utf8.encode (v : Int) = E := ⟨_, rfl⟩
      have hEl := enc_model v
      rw [hEn] at hEl
      have hes : E.size ≤ 4 := by rw [Lib.size_eq, hEl]; exact enc_len.2
      have HV := Lib.hid (fun (W : World) (h : Tabs W) => by have := valid_any E W h (by omega); rw [hEl, hve] at this; exact this)
      rw [hz] at hp hvr hEn
      rw [hvt] at hvr
      have HP := Lib.hid hp
      have HR := Lib.hid hvr
      clear hsane hok hvt hve hEl hp hvr hz ho hk hno hv hg
      go_enter Tryz.func112, Tryz.ntmps112
      go_wp2_with (go_at_call 125; refine HP.out.mono ?_; rintro e w2 ⟨rfl, b2⟩)
      refine (HR.out _).mono ?_
      rintro e w3 ⟨rfl, rfl⟩
      go_wp2_with fail
      refine (HV.out _ (hT.below b2)).mono ?_
      rintro e w4 ⟨rfl, b4⟩
      go_wp2_with fail
      go_ret2
      exact ⟨rfl, b2.trans (b4.mono b2.size)⟩
    · have hvt : Lib.validRune z = false := by
        unfold sane at hsane; unfold Lib.validRune; exact decide_eq_false (by omega)
      rw [hz] at hp hvr
      rw [hvt] at hvr
      have HP := Lib.hid hp
      have HR := Lib.hid hvr
      clear hsane hvt hp hvr hz ho hk hno hv hg
      go_enter Tryz.func112, Tryz.ntmps112
      go_wp2_with (go_at_call 125; refine HP.out.mono ?_; rintro e w2 ⟨rfl, b2⟩)
      refine (HR.out _).mono ?_
      rintro e w3 ⟨rfl, rfl⟩
      go_wp2_with fail
      go_ret2
      exact ⟨rfl, b2⟩
  · rw [hk, numbV_some]
    have hsane := (good_le hg).1
    have hv := num_lt (by omega) (by omega) hm ho
    have hp := pparse_some s base v w h7 hb (by rw [← hno]; exact ho)
    have hvr := fun (W : World) => Tryz.utf8_ValidRune (v : Int) W
    obtain ⟨z, hz⟩ : ∃ z : Int, (v : Int) = z := ⟨_, rfl⟩
    have z0 : 0 ≤ z := by omega
    have z1 : z < 268435456 := by omega
    have hok : okc v = true := by
      unfold good at hg
      rw [decide_eq_true hsane, Bool.true_and] at hg
      exact hg
    have hvt : Lib.validRune z = true := by
      unfold sane at hsane; unfold Lib.validRune; exact decide_eq_true (by omega)
    have hve := valid_enc hsane
    rw [hok] at hve
    obtain ⟨E, hEn⟩ : ∃ E, Utf8.encode (v : Int) = E := ⟨_, rfl⟩
    have hEl := enc_model v
    rw [hEn] at hEl
    have hes : E.size ≤ 4 := by rw [Lib.size_eq, hEl]; exact enc_len.2
    have HV := Lib.hid (fun (W : World) (h : Tabs W) => by have := valid_any E W h (by omega); rw [hEl, hve] at this; exact this)
    rw [hz] at hp hvr hEn ⊢
    rw [hvt] at hvr
    have HP := Lib.hid hp
    have HR := Lib.hid hvr
    clear hsane hok hvt hve hEl hp hvr hz ho hk hno hv hg
    go_enter Tryz.func112, Tryz.ntmps112
    go_wp2_with (go_at_call 125; refine HP.out.mono ?_; rintro e w2 ⟨rfl, b2⟩)
    refine (HR.out _).mono ?_
    rintro e w3 ⟨rfl, rfl⟩
    go_wp2_with fail
    refine (HV.out _ (hT.below b2)).mono ?_
    rintro e w4 ⟨rfl, b4⟩
    go_wp2_with fail
    go_ret2
    exact ⟨rfl, b2.trans (b4.mono b2.size)⟩
end Go.Proofs.YtbkfmbkamocllaaGreatDoor
