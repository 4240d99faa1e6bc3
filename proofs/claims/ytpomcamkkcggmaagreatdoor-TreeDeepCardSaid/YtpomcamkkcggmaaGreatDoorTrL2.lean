/-
  The law TreeDeep.
-/
import Derived.Test.YtpomcamkkcggmaaGreatDoorTrY
import Derived.Test.YtpomcamkkcggmaaGreatDoorUint
import Derived.Test.YtpomcamkkcggmaaGreatDoorHolds
import Derived.Deep.QuietTactic
namespace Go.Proofs.YtpomcamkkcggmaaGreatDoor
open Go.RowKit Tk Tr

theorem uintRem (c : Int) (k : Int) (hk : 0 < k) : ∃ n : Nat, (IntKind.u64.wrap c).tmod k = (n : Int) ∧ (n : Int) < k := by
  have e : IntKind.u64.wrap c = c % 18446744073709551616 := by simp [IntKind.wrap, IntKind.bits, IntKind.signed]
  have h0 : 0 ≤ IntKind.u64.wrap c := by rw [e]; exact Int.emod_nonneg _ (by decide)
  rw [Int.tmod_eq_emod_of_nonneg h0]
  have h1 := Int.emod_nonneg (IntKind.u64.wrap c) (show k ≠ 0 by omega)
  have h2 := Int.emod_lt_of_pos (IntKind.u64.wrap c) hk
  exact ⟨(IntKind.u64.wrap c % k).toNat, by omega, by omega⟩
def opB : Nat → ByteArray
  | 0 => ⟨#[]⟩
  | k + 1 => opB k ++ ⟨#[60, 97, 62]⟩
def enB : Nat → ByteArray
  | 0 => ⟨#[]⟩
  | k + 1 => enB k ++ ⟨#[60, 47, 97, 62]⟩
theorem opB_size : ∀ k, (opB k).size = 3 * k
  | 0 => rfl
  | k + 1 => by
    show (opB k ++ _).size = _
    rw [ByteArray.size_append, opB_size k]
    show 3 * k + 3 = _
    omega
theorem enB_size : ∀ k, (enB k).size = 4 * k
  | 0 => rfl
  | k + 1 => by
    show (enB k ++ _).size = _
    rw [ByteArray.size_append, enB_size k]
    show 4 * k + 4 = _
    omega
def textOf (l : List Nd) (k : Nat) : List UInt8 := match l[k]? with | some x => x.2.2.2.2.2 | none => []
theorem deep_ok : ∀ k, k < 12 → (parseL (opB (k + 1) ++ ⟨#[32, 120]⟩ ++ enB (k + 1)).data.toList).2 = (0, 0) ∧ (parseL (opB (k + 1) ++ ⟨#[32, 120]⟩ ++ enB (k + 1)).data.toList).1.length = k + 1 ∧ textOf (parseL (opB (k + 1) ++ ⟨#[32, 120]⟩ ++ enB (k + 1)).data.toList).1 k = [32, 120] := by decide +kernel
theorem deep_no : ∀ k, k < 4 → parseL (opB (k + 13) ++ ⟨#[32, 120]⟩ ++ enB (k + 13)).data.toList = ([], 36, 7) := by decide +kernel
theorem deep_0 : ∀ k, k < 12 → (parseL (opB (k + 1) ++ (enB (k + 1)).extract 0 (4 * k)).data.toList).2 = (0, 6) := by decide +kernel
theorem deep_1 : ∀ k, k < 12 → (parseL (opB (k + 1) ++ enB (k + 1) ++ ⟨#[60, 98, 47, 62]⟩).data.toList).2 = (((7 * k + 7 : Nat) : Int), 6) := by decide +kernel
theorem deep_2 : ∀ k, k < 12 → (parseL (opB (k + 1) ++ (enB (k + 1)).extract 0 (4 * k) ++ ⟨#[60, 47, 98, 62]⟩).data.toList).2 = (((7 * k + 3 : Nat) : Int), 6) := by decide +kernel
theorem deep_3 : ∀ k, k < 12 → (parseL (opB (k + 1) ++ enB (k + 1) ++ ⟨#[120]⟩).data.toList).2 = (((7 * k + 7 : Nat) : Int), 6) := by decide +kernel
theorem deep_4 : ∀ k, k < 11 → (parseL (opB (k + 1) ++ ⟨#[60, 98, 47, 62, 120]⟩ ++ enB (k + 1)).data.toList).2 = (((3 * k : Nat) : Int), 10) := by decide +kernel
theorem deep_5 : ∀ k, k < 12 → (parseL (opB (k + 1) ++ enB (k + 1) ++ ⟨#[60, 47, 97, 62]⟩).data.toList).2 = (((7 * k + 7 : Nat) : Int), 6) := by decide +kernel
set_option maxHeartbeats 8000000 in
set_option maxRecDepth 100000 in
theorem treeDeep_any (a b : Int) (w : World) (hT : Tabs w) (hE : ErrS w) :
    Calls Tryz.prog 4 #[.int .i64 a, .int .i64 b] w (Holds w) := by
  have HTab := Lib.hid (fun (W : World) (h : Below w.heap.size w W) => And.intro (hT.below h) (hE.below h))
  have HA := Lib.hid (fun (W : World) (h : Below w.heap.size w W) => awakeT_any W (HTab.out W h).1 (HTab.out W h).2)
  have HPa := Lib.hid (fun (s : ByteArray) (W : World) (h : Below w.heap.size w W) (h2 : s.size ≤ 100000) => parse_any s W (HTab.out W h).1 (HTab.out W h).2 h2)
  obtain ⟨k, hk, hk16⟩ := uintMod a 16 (by omega) (by omega)
  obtain ⟨x, hx, hx6⟩ := uintRem b 6 (by omega)
  have hk16' : k < 16 := by omega
  have hx6' : x < 6 := by omega
  obtain ⟨n, hn⟩ : ∃ n, k + 1 = n := ⟨_, rfl⟩
  have hn2 : (1 : Int) + (k : Int) = (n : Int) := by omega
  have hn3 : n ≤ 16 := by omega
  have HN := Lib.hid hn
  have HK16 := Lib.hid hk16'
  have HX6 := Lib.hid hx6'
  clear hT hE hn hk16 hk16' hx6 hx6'
  go_enter Tryz.func4, Tryz.ntmps4
  go_wp2_with fail
  clear hk hn2
  go_loopw [5, 6, 7] (fun sv tv iv wr => ∃ i : Nat, i ≤ n ∧ sv = .string (opB i) ∧ tv = .string (enB i) ∧ iv = .int .i64 i ∧ wr = w) (fun _ _ iv _ => n - (intOf iv).toNat)
  case atStart => exact ⟨0, Nat.zero_le _, rfl, rfl, rfl, rfl⟩
  case round =>
    obtain ⟨i, hi, rfl, rfl, rfl, rfl⟩ := hrel
    have hs1 := opB_size i
    have hs2 := enB_size i
    have H1 : Hid (opB i ++ (⟨#[60, 97, 62]⟩ : ByteArray) = opB (i + 1)) := rfl
    have H2 : Hid (enB i ++ (⟨#[60, 47, 97, 62]⟩ : ByteArray) = enB (i + 1)) := rfl
    by_cases hlt : i < n
    · obtain ⟨S, hS⟩ : ∃ S, opB i = S := ⟨_, rfl⟩
      obtain ⟨E, hE⟩ : ∃ E, enB i = E := ⟨_, rfl⟩
      rw [hS] at hs1 H1 ⊢
      rw [hE] at hs2 H2 ⊢
      clear hS hE
      go_wp2_with fail
      refine ⟨⟨i + 1, by omega, by rw [← H1.out], by rw [← H2.out], by go_num, trivial⟩, ?_⟩
      simp [intOf]
      omega
    · have hin : i = n := by omega
      have HIN := Lib.hid hin
      clear H1 H2
      have hnk := HN.out
      have HS : Hid (opB i = opB (k + 1)) := by unfold Hid; rw [hin, hnk]
      have HE : Hid (enB i = enB (k + 1)) := by unfold Hid; rw [hin, hnk]
      obtain ⟨S, hS⟩ : ∃ S, opB i = S := ⟨_, rfl⟩
      obtain ⟨E, hE⟩ : ∃ E, enB i = E := ⟨_, rfl⟩
      rw [hS] at hs1 HS ⊢
      rw [hE] at hs2 HE ⊢
      have hp0 := HPa.out (S ++ ⟨#[32, 120]⟩ ++ E) wr (Below.refl _ _) (by rw [ByteArray.size_append, ByteArray.size_append, hs1, hs2]; show 3 * i + 2 + 4 * i ≤ _; omega)
      have HP0 := Lib.hid hp0
      have HCE := Lib.hid (show E.size = 4 * k + 4 by rw [hs2]; omega)
      have HCS := Lib.hid (show S.size = 3 * k + 3 by rw [hs1]; omega)
      have hsb : S.size ≤ 48 := by omega
      have heb : E.size ≤ 64 := by omega
      rw [hin] at hlt ⊢
      clear hS hE hin hnk hp0 hs1 hs2 hi
      by_cases h12 : k < 12
      · have HK12 := Lib.hid h12
        have hgt : decide ((n : Int) > 12) = false := decide_eq_false (by have := HN.out; omega)
        obtain ⟨q1, q2, q3⟩ := deep_ok k h12
        rw [← HS.out, ← HE.out] at q1 q2 q3
        obtain ⟨o, ho⟩ : ∃ o, parseL (S ++ ⟨#[32, 120]⟩ ++ E).data.toList = o := ⟨_, rfl⟩
        rw [ho] at q1 q2 q3 HP0
        obtain ⟨ol, oo⟩ := o
        simp only at q1 q2 q3 HP0
        subst q1
        have Q2 := Lib.hid q2
        have Q3 := Lib.hid q3
        clear ho h12 q2 q3
        go_wp2_with fail
        refine HP0.out.mono ?_
        rintro e w1 ⟨⟨v1, rfl, o1⟩, b1⟩
        simp only
        obtain ⟨g, cap, rfl, hgl, hat⟩ := o1.at (by rw [Q2.out]; omega)
        obtain ⟨x5, hx5⟩ : ∃ x5, ol[k]? = some x5 := ⟨_, List.getElem?_eq_getElem (by rw [Q2.out]; omega)⟩
        obtain ⟨u, -, -, -, -, -, -, k5⟩ := hat k x5 hx5
        have k5' : w1.cell? ⟨g, k * 6 + 5, none⟩ = some (.string ⟨#[32, 120]⟩) := by
          have h3 := Q3.out
          unfold textOf at h3
          rw [hx5] at h3
          simp only at h3
          rw [k5, h3]
        have C5 := Lib.hid k5'
        have HGL := Lib.hid hgl
        have B1 := Lib.hid b1
        have hol : ol.length = n := Q2.out.trans HN.out
        have HOL := Lib.hid hol
        rw [hol]
        clear b1 o1 hat hx5 k5 k5' hgl hol HP0
        have hkn : ((n : Int) - 1) = (k : Int) := by have := HN.out; omega
        have hkb : (k : Int) < (n : Int) := by have := HN.out; omega
        have hkc : k < 16 := HK16.out
        have hxs : x = 0 ∨ x = 1 ∨ x = 2 ∨ x = 3 ∨ x = 4 ∨ x = 5 := by have := HX6.out; omega
        obtain ⟨m7, hm7⟩ : ∃ m7 : Nat, m7 = 7 * k + 7 := ⟨_, rfl⟩
        have hm7a : (7 : Int) * (n : Int) = (m7 : Int) := by have := HN.out; omega
        have hm7b : m7 ≤ 112 := by omega
        obtain ⟨m4, hm4⟩ : ∃ m4 : Nat, m4 = 4 * k := ⟨_, rfl⟩
        obtain ⟨eN, heN⟩ : ∃ eN : Nat, E.size = eN := ⟨_, rfl⟩
        have hm4a : ((eN : Nat) : Int) - 4 = (m4 : Int) := by rw [← heN, HCE.out]; omega
        have hm4b : m4 ≤ eN := by rw [← heN, HCE.out]; omega
        have hm4c : (m4 : Int) ≤ (eN : Int) := by omega
        have hm4d : m4 ≤ 64 := by omega
        have hm4e : eN ≤ 64 := by rw [← heN]; exact heb
        have hw4 : IntKind.i64.wrap (m4 : Int) = (m4 : Int) := by rw [IntKind.wrap_i64]; omega
        have hx4 : (E.extract 0 m4).size ≤ 64 := by rw [ByteArray.size_extract]; omega
        obtain ⟨m3, hm3⟩ : ∃ m3 : Nat, m3 = 7 * k + 3 := ⟨_, rfl⟩
        have hm3a : (m7 : Int) - 4 = (m3 : Int) := by omega
        have hw3 : IntKind.i64.wrap (m3 : Int) = (m3 : Int) := by rw [IntKind.wrap_i64]; omega
        obtain ⟨t3, ht3⟩ : ∃ t3 : Nat, t3 = 3 * k + 3 := ⟨_, rfl⟩
        obtain ⟨t0, ht0⟩ : ∃ t0 : Nat, t0 = 3 * k := ⟨_, rfl⟩
        have ht3a : (3 : Int) * (n : Int) = (t3 : Int) := by have := HN.out; omega
        have ht0a : (t3 : Int) - 3 = (t0 : Int) := by omega
        have ht3b : t3 ≤ 48 := by omega
        have hwt : IntKind.i64.wrap (t0 : Int) = (t0 : Int) := by rw [IntKind.wrap_i64]; omega
        have hwk : IntKind.i64.wrap (k : Int) = (k : Int) := by rw [IntKind.wrap_i64]; omega
        have hk0 : 0 ≤ (k : Int) := by omega
        have hm40 : 0 ≤ (m4 : Int) := by omega
        have HM7 := Lib.hid hm7
        have HM4 := Lib.hid hm4
        have HM3 := Lib.hid hm3
        have HT0 := Lib.hid ht0
        clear hm7 hm4 hm3 ht3 ht0
        rcases hxs with rfl | rfl | rfl | rfl | rfl | rfl
        · have hq := deep_0 k HK12.out
          rw [← HM4.out] at hq
          rw [← HS.out, ← HE.out] at hq
          have hp := HPa.out (S ++ E.extract 0 m4) w1 B1.out (by rw [ByteArray.size_append]; show S.size + (E.extract 0 m4).size ≤ _; omega)
          obtain ⟨o, ho⟩ : ∃ o, parseL (S ++ E.extract 0 m4).data.toList = o := ⟨_, rfl⟩
          rw [ho] at hq hp
          obtain ⟨pl, po⟩ := o
          simp only at hq hp
          subst hq
          have HP := Lib.hid hp
          obtain ⟨EX, hEX⟩ : ∃ EX, E.extract 0 m4 = EX := ⟨_, rfl⟩
          rw [hEX] at HP hx4
          clear ho hp
          go_wp2_with fail
          with_reducible refine HP.out.mono ?_
          rintro e w2 ⟨⟨v2, rfl, o2⟩, b2⟩
          simp only
          have hc5 : w2.cell? ⟨g, k * 6 + 5, none⟩ = some (.string ⟨#[32, 120]⟩) := (b2.cell (p := ⟨g, k * 6 + 5, none⟩) HGL.out).trans C5.out
          have B2 := Lib.hid (B1.out.trans (b2.mono B1.out.size))
          have HGL2 : Hid (g < w2.heap.size) := Nat.lt_of_lt_of_le HGL.out b2.size
          have C52 := Lib.hid hc5
          obtain ⟨A2, cap2, rfl⟩ := o2.slice
          clear b2 o2 hc5
          go_wp2_with fail
          refine (HA.out _ B2.out).mono ?_
          rintro e w3 ⟨rfl, b3⟩
          have d5 : w3.cell? ⟨g, k * 6 + 5, none⟩ = some (.string ⟨#[32, 120]⟩) := (b3.cell (p := ⟨g, k * 6 + 5, none⟩) HGL2.out).trans C52.out
          have B3 := Lib.hid (B2.out.trans (b3.mono B2.out.size))
          clear b3
          go_wp2_with fail
          go_ret
          exact ⟨rfl, B3.out⟩
        · have hq := deep_1 k HK12.out
          rw [← HS.out, ← HE.out, ← HM7.out] at hq
          have hp := HPa.out (S ++ E ++ ⟨#[60, 98, 47, 62]⟩) w1 B1.out (by rw [ByteArray.size_append, ByteArray.size_append]; show S.size + E.size + 4 ≤ _; omega)
          obtain ⟨o, ho⟩ : ∃ o, parseL (S ++ E ++ ⟨#[60, 98, 47, 62]⟩).data.toList = o := ⟨_, rfl⟩
          rw [ho] at hq hp
          obtain ⟨pl, po⟩ := o
          simp only at hq hp
          subst hq
          have HP := Lib.hid hp
          clear ho hp
          go_wp2_with fail
          with_reducible refine HP.out.mono ?_
          rintro e w2 ⟨⟨v2, rfl, o2⟩, b2⟩
          simp only
          have hc5 : w2.cell? ⟨g, k * 6 + 5, none⟩ = some (.string ⟨#[32, 120]⟩) := (b2.cell (p := ⟨g, k * 6 + 5, none⟩) HGL.out).trans C5.out
          have B2 := Lib.hid (B1.out.trans (b2.mono B1.out.size))
          have HGL2 : Hid (g < w2.heap.size) := Nat.lt_of_lt_of_le HGL.out b2.size
          have C52 := Lib.hid hc5
          obtain ⟨A2, cap2, rfl⟩ := o2.slice
          clear b2 o2 hc5
          go_wp2_with fail
          refine (HA.out _ B2.out).mono ?_
          rintro e w3 ⟨rfl, b3⟩
          have d5 : w3.cell? ⟨g, k * 6 + 5, none⟩ = some (.string ⟨#[32, 120]⟩) := (b3.cell (p := ⟨g, k * 6 + 5, none⟩) HGL2.out).trans C52.out
          have B3 := Lib.hid (B2.out.trans (b3.mono B2.out.size))
          clear b3
          go_wp2_with fail
          go_ret
          exact ⟨rfl, B3.out⟩
        · have hq := deep_2 k HK12.out
          rw [← HM4.out] at hq
          rw [← HS.out, ← HE.out, ← HM3.out] at hq
          have hp := HPa.out (S ++ E.extract 0 m4 ++ ⟨#[60, 47, 98, 62]⟩) w1 B1.out (by rw [ByteArray.size_append, ByteArray.size_append]; show S.size + (E.extract 0 m4).size + 4 ≤ _; omega)
          obtain ⟨o, ho⟩ : ∃ o, parseL (S ++ E.extract 0 m4 ++ ⟨#[60, 47, 98, 62]⟩).data.toList = o := ⟨_, rfl⟩
          rw [ho] at hq hp
          obtain ⟨pl, po⟩ := o
          simp only at hq hp
          subst hq
          have HP := Lib.hid hp
          obtain ⟨EX, hEX⟩ : ∃ EX, E.extract 0 m4 = EX := ⟨_, rfl⟩
          rw [hEX] at HP hx4
          clear ho hp
          go_wp2_with fail
          with_reducible refine HP.out.mono ?_
          rintro e w2 ⟨⟨v2, rfl, o2⟩, b2⟩
          simp only
          have hc5 : w2.cell? ⟨g, k * 6 + 5, none⟩ = some (.string ⟨#[32, 120]⟩) := (b2.cell (p := ⟨g, k * 6 + 5, none⟩) HGL.out).trans C5.out
          have B2 := Lib.hid (B1.out.trans (b2.mono B1.out.size))
          have HGL2 : Hid (g < w2.heap.size) := Nat.lt_of_lt_of_le HGL.out b2.size
          have C52 := Lib.hid hc5
          obtain ⟨A2, cap2, rfl⟩ := o2.slice
          clear b2 o2 hc5
          go_wp2_with fail
          refine (HA.out _ B2.out).mono ?_
          rintro e w3 ⟨rfl, b3⟩
          have d5 : w3.cell? ⟨g, k * 6 + 5, none⟩ = some (.string ⟨#[32, 120]⟩) := (b3.cell (p := ⟨g, k * 6 + 5, none⟩) HGL2.out).trans C52.out
          have B3 := Lib.hid (B2.out.trans (b3.mono B2.out.size))
          clear b3
          go_wp2_with fail
          go_ret
          exact ⟨rfl, B3.out⟩
        · have hq := deep_3 k HK12.out
          rw [← HS.out, ← HE.out, ← HM7.out] at hq
          have hp := HPa.out (S ++ E ++ ⟨#[120]⟩) w1 B1.out (by rw [ByteArray.size_append, ByteArray.size_append]; show S.size + E.size + 1 ≤ _; omega)
          obtain ⟨o, ho⟩ : ∃ o, parseL (S ++ E ++ ⟨#[120]⟩).data.toList = o := ⟨_, rfl⟩
          rw [ho] at hq hp
          obtain ⟨pl, po⟩ := o
          simp only at hq hp
          subst hq
          have HP := Lib.hid hp
          clear ho hp
          go_wp2_with fail
          with_reducible refine HP.out.mono ?_
          rintro e w2 ⟨⟨v2, rfl, o2⟩, b2⟩
          simp only
          have hc5 : w2.cell? ⟨g, k * 6 + 5, none⟩ = some (.string ⟨#[32, 120]⟩) := (b2.cell (p := ⟨g, k * 6 + 5, none⟩) HGL.out).trans C5.out
          have B2 := Lib.hid (B1.out.trans (b2.mono B1.out.size))
          have HGL2 : Hid (g < w2.heap.size) := Nat.lt_of_lt_of_le HGL.out b2.size
          have C52 := Lib.hid hc5
          obtain ⟨A2, cap2, rfl⟩ := o2.slice
          clear b2 o2 hc5
          go_wp2_with fail
          refine (HA.out _ B2.out).mono ?_
          rintro e w3 ⟨rfl, b3⟩
          have d5 : w3.cell? ⟨g, k * 6 + 5, none⟩ = some (.string ⟨#[32, 120]⟩) := (b3.cell (p := ⟨g, k * 6 + 5, none⟩) HGL2.out).trans C52.out
          have B3 := Lib.hid (B2.out.trans (b3.mono B2.out.size))
          clear b3
          go_wp2_with fail
          go_ret
          exact ⟨rfl, B3.out⟩
        · by_cases h11 : k = 11
          · have h12 : ((n : Int) == 12) = true := by have := HN.out; simp; omega
            clear h11
            go_wp2_with fail
            refine (HA.out _ B1.out).mono ?_
            rintro e w3 ⟨rfl, b3⟩
            have B3 := Lib.hid (B1.out.trans (b3.mono B1.out.size))
            clear b3
            go_wp2_with fail
            go_ret
            exact ⟨rfl, B3.out⟩
          have h12 : ((n : Int) == 12) = false := by have := HN.out; simp; omega
          have hq := deep_4 k (by have := HK12.out; omega)
          rw [← HS.out, ← HE.out, ← HT0.out] at hq
          have hp := HPa.out (S ++ ⟨#[60, 98, 47, 62, 120]⟩ ++ E) w1 B1.out (by rw [ByteArray.size_append, ByteArray.size_append]; show S.size + 5 + E.size ≤ _; omega)
          obtain ⟨o, ho⟩ : ∃ o, parseL (S ++ ⟨#[60, 98, 47, 62, 120]⟩ ++ E).data.toList = o := ⟨_, rfl⟩
          rw [ho] at hq hp
          obtain ⟨pl, po⟩ := o
          simp only at hq hp
          subst hq
          have HP := Lib.hid hp
          clear ho hp
          go_wp2_with fail
          with_reducible refine HP.out.mono ?_
          rintro e w2 ⟨⟨v2, rfl, o2⟩, b2⟩
          simp only
          have hc5 : w2.cell? ⟨g, k * 6 + 5, none⟩ = some (.string ⟨#[32, 120]⟩) := (b2.cell (p := ⟨g, k * 6 + 5, none⟩) HGL.out).trans C5.out
          have B2 := Lib.hid (B1.out.trans (b2.mono B1.out.size))
          have HGL2 : Hid (g < w2.heap.size) := Nat.lt_of_lt_of_le HGL.out b2.size
          have C52 := Lib.hid hc5
          obtain ⟨A2, cap2, rfl⟩ := o2.slice
          clear b2 o2 hc5
          go_wp2_with fail
          refine (HA.out _ B2.out).mono ?_
          rintro e w3 ⟨rfl, b3⟩
          have d5 : w3.cell? ⟨g, k * 6 + 5, none⟩ = some (.string ⟨#[32, 120]⟩) := (b3.cell (p := ⟨g, k * 6 + 5, none⟩) HGL2.out).trans C52.out
          have B3 := Lib.hid (B2.out.trans (b3.mono B2.out.size))
          clear b3
          go_wp2_with fail
          go_ret
          exact ⟨rfl, B3.out⟩
        · have hq := deep_5 k HK12.out
          rw [← HS.out, ← HE.out, ← HM7.out] at hq
          have hp := HPa.out (S ++ E ++ ⟨#[60, 47, 97, 62]⟩) w1 B1.out (by rw [ByteArray.size_append, ByteArray.size_append]; show S.size + E.size + 4 ≤ _; omega)
          obtain ⟨o, ho⟩ : ∃ o, parseL (S ++ E ++ ⟨#[60, 47, 97, 62]⟩).data.toList = o := ⟨_, rfl⟩
          rw [ho] at hq hp
          obtain ⟨pl, po⟩ := o
          simp only at hq hp
          subst hq
          have HP := Lib.hid hp
          clear ho hp
          go_wp2_with fail
          with_reducible refine HP.out.mono ?_
          rintro e w2 ⟨⟨v2, rfl, o2⟩, b2⟩
          simp only
          have hc5 : w2.cell? ⟨g, k * 6 + 5, none⟩ = some (.string ⟨#[32, 120]⟩) := (b2.cell (p := ⟨g, k * 6 + 5, none⟩) HGL.out).trans C5.out
          have B2 := Lib.hid (B1.out.trans (b2.mono B1.out.size))
          have HGL2 : Hid (g < w2.heap.size) := Nat.lt_of_lt_of_le HGL.out b2.size
          have C52 := Lib.hid hc5
          obtain ⟨A2, cap2, rfl⟩ := o2.slice
          clear b2 o2 hc5
          go_wp2_with fail
          refine (HA.out _ B2.out).mono ?_
          rintro e w3 ⟨rfl, b3⟩
          have d5 : w3.cell? ⟨g, k * 6 + 5, none⟩ = some (.string ⟨#[32, 120]⟩) := (b3.cell (p := ⟨g, k * 6 + 5, none⟩) HGL2.out).trans C52.out
          have B3 := Lib.hid (B2.out.trans (b3.mono B2.out.size))
          clear b3
          go_wp2_with fail
          go_ret
          exact ⟨rfl, B3.out⟩
      · have hgt : decide ((n : Int) > 12) = true := decide_eq_true (by have := HN.out; omega)
        have hq := deep_no (k - 12) (by have := HK16.out; omega)
        rw [show k - 12 + 13 = k + 1 by omega, ← HS.out, ← HE.out] at hq
        rw [hq] at HP0
        clear hq h12
        go_wp2_with fail
        refine HP0.out.mono ?_
        rintro e w1 ⟨⟨v1, rfl, o1⟩, b1⟩
        obtain ⟨A1, cap1, rfl⟩ := o1.slice
        have B1 := Lib.hid b1
        clear b1 o1
        go_wp2_with fail
        refine (HA.out _ B1.out).mono ?_
        rintro e w3 ⟨rfl, b3⟩
        have B3 := Lib.hid (B1.out.trans (b3.mono B1.out.size))
        clear b3
        go_wp2_with fail
        go_ret
        exact ⟨rfl, B3.out⟩
end Go.Proofs.YtpomcamkkcggmaaGreatDoor
