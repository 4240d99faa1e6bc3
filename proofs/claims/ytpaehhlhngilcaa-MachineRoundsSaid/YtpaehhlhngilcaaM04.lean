import Derived.Test.YtpaehhlhngilcaaM03
import Derived.WalkKit
/- what is reached of it -/
namespace Go.Proofs.Ytpaehhlhngilcaa.Tx
open Go.Lib
/-- The bytes of a character that can be written. -/
def encB (c : Nat) : List UInt8 :=
  if c < 128 then [UInt8.ofNat c] else if c < 2048 then [UInt8.ofNat (192 + c / 64), UInt8.ofNat (128 + c % 64)]
  else if c < 65536 then [UInt8.ofNat (224 + c / 4096), UInt8.ofNat (128 + c / 64 % 64), UInt8.ofNat (128 + c % 64)]
  else [UInt8.ofNat (240 + c / 262144), UInt8.ofNat (128 + c / 4096 % 64), UInt8.ofNat (128 + c / 64 % 64), UInt8.ofNat (128 + c % 64)]
/-- May Go write it? -/
def sane (n : Nat) : Prop := n < 55296 ∨ (57343 < n ∧ n ≤ 1114111)
instance (n : Nat) : Decidable (sane n) := by unfold sane; exact inferInstance
/-- The bytes of a character, as Go writes it. -/
def enc (n : Nat) : List UInt8 := if sane n then encB n else [239, 191, 189]
theorem toNat_of (k : Nat) (h : k < 256) : (UInt8.ofNat k).toNat = k := by
  rw [UInt8.toNat_ofNat']
  exact Nat.mod_eq_of_lt h
theorem enc_sane {n : Nat} (h : sane n) : enc n = encB n := if_pos h
theorem enc_bad {n : Nat} (h : ¬ sane n) : enc n = [239, 191, 189] := if_neg h
theorem enc_cases {n : Nat} (h : sane n) :
    (n < 128 ∧ enc n = [UInt8.ofNat n]) ∨ (128 ≤ n ∧ n < 2048 ∧ enc n = [UInt8.ofNat (192 + n / 64), UInt8.ofNat (128 + n % 64)]) ∨
    (2048 ≤ n ∧ n < 65536 ∧ enc n = [UInt8.ofNat (224 + n / 4096), UInt8.ofNat (128 + n / 64 % 64), UInt8.ofNat (128 + n % 64)]) ∨
    (65536 ≤ n ∧ n ≤ 1114111 ∧ enc n = [UInt8.ofNat (240 + n / 262144), UInt8.ofNat (128 + n / 4096 % 64), UInt8.ofNat (128 + n / 64 % 64), UInt8.ofNat (128 + n % 64)]) := by
  rw [enc_sane h]
  unfold sane at h
  unfold encB
  by_cases h1 : n < 128
  · left; exact ⟨h1, if_pos h1⟩
  by_cases h2 : n < 2048
  · right; left; exact ⟨by omega, h2, by rw [if_neg h1, if_pos h2]⟩
  by_cases h3 : n < 65536
  · right; right; left; exact ⟨by omega, h3, by rw [if_neg h1, if_neg h2, if_pos h3]⟩
  · right; right; right; exact ⟨by omega, by omega, by rw [if_neg h1, if_neg h2, if_neg h3]⟩
theorem dc_enc {n : Nat} (h : sane n) : dc (enc n) = (n, (enc n).length) := by
  have hs := h
  unfold sane at hs
  rw [dc_bt]
  rcases enc_cases h with ⟨a, e⟩ | ⟨a, b, e⟩ | ⟨a, b, e⟩ | ⟨a, b, e⟩ <;> rw [e]
  · have b0 : bt [UInt8.ofNat n] 0 = n := by rw [bt_def]; exact toNat_of _ (by omega)
    rw [b0]
    unfold decodeN
    rw [if_pos a]
    rfl
  · have b0 : bt [UInt8.ofNat (192 + n / 64), UInt8.ofNat (128 + n % 64)] 0 = 192 + n / 64 := by rw [bt_def]; exact toNat_of _ (by omega)
    have b1 : bt [UInt8.ofNat (192 + n / 64), UInt8.ofNat (128 + n % 64)] 1 = 128 + n % 64 := by rw [bt_def]; exact toNat_of _ (by omega)
    rw [b0, b1]
    unfold decodeN
    simp only [List.length_cons, List.length_nil]
    rw [if_neg (by omega), if_pos (by omega), if_pos (by omega)]
    refine Prod.ext ?_ rfl
    simp only
    omega
  · have b0 : bt [UInt8.ofNat (224 + n / 4096), UInt8.ofNat (128 + n / 64 % 64), UInt8.ofNat (128 + n % 64)] 0 = 224 + n / 4096 := by rw [bt_def]; exact toNat_of _ (by omega)
    have b1 : bt [UInt8.ofNat (224 + n / 4096), UInt8.ofNat (128 + n / 64 % 64), UInt8.ofNat (128 + n % 64)] 1 = 128 + n / 64 % 64 := by rw [bt_def]; exact toNat_of _ (by omega)
    have b2 : bt [UInt8.ofNat (224 + n / 4096), UInt8.ofNat (128 + n / 64 % 64), UInt8.ofNat (128 + n % 64)] 2 = 128 + n % 64 := by rw [bt_def]; exact toNat_of _ (by omega)
    rw [b0, b1, b2]
    unfold decodeN
    simp only [List.length_cons, List.length_nil]
    rw [if_neg (by omega), if_neg (by omega), if_pos (by omega), if_pos (by omega)]
    refine Prod.ext ?_ rfl
    simp only
    omega
  · have b0 : bt [UInt8.ofNat (240 + n / 262144), UInt8.ofNat (128 + n / 4096 % 64), UInt8.ofNat (128 + n / 64 % 64), UInt8.ofNat (128 + n % 64)] 0 = 240 + n / 262144 := by rw [bt_def]; exact toNat_of _ (by omega)
    have b1 : bt [UInt8.ofNat (240 + n / 262144), UInt8.ofNat (128 + n / 4096 % 64), UInt8.ofNat (128 + n / 64 % 64), UInt8.ofNat (128 + n % 64)] 1 = 128 + n / 4096 % 64 := by rw [bt_def]; exact toNat_of _ (by omega)
    have b2 : bt [UInt8.ofNat (240 + n / 262144), UInt8.ofNat (128 + n / 4096 % 64), UInt8.ofNat (128 + n / 64 % 64), UInt8.ofNat (128 + n % 64)] 2 = 128 + n / 64 % 64 := by rw [bt_def]; exact toNat_of _ (by omega)
    have b3 : bt [UInt8.ofNat (240 + n / 262144), UInt8.ofNat (128 + n / 4096 % 64), UInt8.ofNat (128 + n / 64 % 64), UInt8.ofNat (128 + n % 64)] 3 = 128 + n % 64 := by rw [bt_def]; exact toNat_of _ (by omega)
    rw [b0, b1, b2, b3]
    unfold decodeN
    simp only [List.length_cons, List.length_nil]
    rw [if_neg (by omega), if_neg (by omega), if_neg (by omega), if_pos (by omega), if_pos (by omega)]
    refine Prod.ext ?_ rfl
    simp only
    omega
theorem enc_len {n : Nat} : 1 ≤ (enc n).length ∧ (enc n).length ≤ 4 := by
  by_cases h : sane n
  · rcases enc_cases h with ⟨_, e⟩ | ⟨_, _, e⟩ | ⟨_, _, e⟩ | ⟨_, _, e⟩ <;> rw [e] <;> simp
  · rw [enc_bad h]; simp
theorem enc_ne (n : Nat) : enc n ≠ [] := by
  intro e
  have := (enc_len (n := n)).1
  rw [e] at this
  simp at this
theorem enc_big {n : Nat} (h : sane n) (hn : 128 ≤ n) : 2 ≤ (enc n).length := by
  rcases enc_cases h with ⟨_, e⟩ | ⟨_, _, e⟩ | ⟨_, _, e⟩ | ⟨_, _, e⟩ <;> first | omega | (rw [e]; simp)
theorem nx_enc {n : Nat} (h : sane n) (hk : okc n = true) : nx (enc n) = (n, (enc n).length) := by
  rw [nx_eq, dc_enc h, hk]
  have : (n == 65533 && (enc n).length == 1) = false := by
    cases e : (n == 65533 && (enc n).length == 1) with
    | false => rfl
    | true =>
      exfalso
      simp only [Bool.and_eq_true, beq_iff_eq] at e
      have := enc_big h (by omega)
      omega
  simp only [this]
  rfl
theorem ch_enc {n : Nat} (h : sane n) (hk : okc n = true) : ch (enc n) = some [n] := by
  have e := nx_enc h hk
  have := (enc_len (n := n)).1
  have h2 : (nx (enc n)).2 ≠ 0 := by rw [e]; intro h0; simp only at h0; omega
  rw [ch_good (enc_ne n) h2, e]
  simp only
  rw [List.drop_length, ch_nil]
  rfl
attribute [irreducible] enc
end Go.Proofs.Ytpaehhlhngilcaa.Tx
