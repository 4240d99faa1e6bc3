/-
  NUMBERS IN TENS AND IN SIXTEENS over plain lists of bytes: what the law EscapeNumbers writes is read as the number. Nothing of any program but the document's own words.
-/
import Derived.Test.YtfjpignmjebloaaDoorDigits
import Derived.Test.YtfjpignmjebloaaDoorEscLaw3
namespace Go.Proofs.YtfjpignmjebloaaDoor
open Go.RowKit Tx

theorem numF_cons (base v : Nat) (c : UInt8) (t : List UInt8) : numF base v (c :: t) = if base ≤ dg c.toNat then none else numF base (v * base + dg c.toNat) t := rfl
theorem numF_snoc {base : Nat} (c : UInt8) : ∀ (l : List UInt8) (v u : Nat), numF base v l = some u → dg c.toNat < base → numF base v (l ++ [c]) = some (u * base + dg c.toNat)
  | [], v, u, h, hc => by
    obtain rfl : v = u := Option.some.inj h
    show (if base ≤ dg c.toNat then none else some _) = _
    rw [if_neg (by omega)]
  | b :: l, v, u, h, hc => by
    rw [List.cons_append, numF_cons]
    rw [numF_cons] at h
    split at h
    · cases h
    · rename_i hb
      rw [if_neg hb]
      exact numF_snoc c l _ u h hc
theorem dg_ten {r : Nat} (h : r < 10) : dg (UInt8.ofNat (48 + r)).toNat = r := by
  have H : ∀ r : Fin 10, dg (UInt8.ofNat (48 + r.val)).toNat = r.val := by decide
  exact H ⟨r, h⟩
theorem digF_num : ∀ (f v : Nat), v < 10 ^ (f + 1) → numF 10 0 (digF f v) = some v
  | 0, v, h => by
    have h : v < 10 := h
    show (if 10 ≤ dg (UInt8.ofNat (48 + v)).toNat then none else some (0 * 10 + dg (UInt8.ofNat (48 + v)).toNat)) = _
    rw [dg_ten h, if_neg (by omega)]
    simp
  | f + 1, v, h => by
    unfold digF
    by_cases h10 : v < 10
    · rw [if_pos h10]
      show (if 10 ≤ dg (UInt8.ofNat (48 + v)).toNat then none else some (0 * 10 + dg (UInt8.ofNat (48 + v)).toNat)) = _
      rw [dg_ten h10, if_neg (by omega)]
      simp
    · rw [if_neg h10]
      have hq : v / 10 < 10 ^ (f + 1) := by
        rw [Nat.div_lt_iff_lt_mul (by omega), ← Nat.pow_succ]
        exact h
      have := numF_snoc (base := 10) (UInt8.ofNat (48 + v % 10)) _ 0 _ (digF_num f (v / 10) hq) (by rw [dg_ten (Nat.mod_lt _ (by omega))]; exact Nat.mod_lt _ (by omega))
      rw [this, dg_ten (Nat.mod_lt _ (by omega))]
      congr 1
      omega
theorem digF_ne : ∀ (f v : Nat), digF f v ≠ []
  | 0, v => by simp [digF]
  | f + 1, v => by
    unfold digF
    split <;> simp
/-- what a numeral is made of -/
theorem numF_chars {base : Nat} (hb : base ≤ 16) : ∀ (l : List UInt8) (v n : Nat), numF base v l = some n → ∀ c ∈ l, dg c.toNat < base
  | [], _, _, _, c, hc => by cases hc
  | b :: l, v, n, h, c, hc => by
    rw [numF_cons] at h
    split at h
    · cases h
    · rename_i hd
      rcases List.mem_cons.1 hc with rfl | hc
      · omega
      · exact numF_chars hb l _ n h c hc
theorem dg_char {c : UInt8} (h : dg c.toNat < 16) : 48 ≤ c.toNat ∧ c.toNat ≤ 102 ∧ c ≠ 59 := by
  rcases dg_cases c.toNat c.toNat_lt with ⟨a, b, _⟩ | ⟨a, b, _⟩ | ⟨a, b, _⟩ | ⟨_, _, _, d⟩
  · exact ⟨a, by omega, fun e => by rw [e] at b; exact absurd b (by decide)⟩
  · exact ⟨by omega, b, fun e => by rw [e] at a; exact absurd a (by decide)⟩
  · exact ⟨by omega, by omega, fun e => by rw [e] at a; exact absurd a (by decide)⟩
  · omega
theorem dg_tens {c : UInt8} (h : dg c.toNat < 10) : c ≠ 120 := fun e => by rw [e] at h; exact absurd h (by decide)
theorem valid_plain {b : UInt8} (h1 : 32 ≤ b.toNat) (h2 : b.toNat < 128) : valid [b] = true := by
  have e : enc b.toNat = [b] := by rw [enc_low h2]; simp
  have hk : okc b.toNat = true := by
    rw [okc_eq]
    simp
    omega
  rw [← e]
  exact valid_some (ch_enc (by unfold sane; omega) hk)
theorem valid_nil : valid [] = true := by decide +kernel
theorem valid_ascii : ∀ (l : List UInt8), (∀ b ∈ l, 32 ≤ b.toNat ∧ b.toNat < 128) → valid l = true
  | [], _ => valid_nil
  | b :: l, h => (valid_append (a := [b]) (valid_plain (h b (by simp)).1 (h b (by simp)).2) (valid_ascii l (fun c hc => h c (by simp [hc])))).1
theorem ent_35 (t : List UInt8) : ent (35 :: t) = entT (35 :: t) := by
  unfold ent entT
  rw [if_neg (by simp), if_neg (by simp), if_neg (by simp), if_neg (by simp), if_neg (by simp)]
  rfl
/-- "x&#..;y" -/
theorem tens_back {T : List UInt8} {n : Nat} (h0 : T ≠ []) (h7 : T.length ≤ 7) (h : numF 10 0 T = some n) :
    valid (120 :: 38 :: 35 :: (T ++ [59, 121])) = true ∧ back (120 :: 38 :: 35 :: (T ++ [59, 121])) = (if good n then some (120 :: (enc n ++ [121])) else none) := by
  have hc := numF_chars (by omega) T 0 n h
  constructor
  · refine valid_ascii _ (fun b hb => ?_)
    simp only [List.mem_cons, List.mem_append, List.not_mem_nil, or_false] at hb
    rcases hb with rfl | rfl | rfl | hb | rfl | rfl
    · decide
    · decide
    · decide
    · have := dg_char (c := b) (by have := hc b hb; omega)
      omega
    · decide
    · decide
  · have h59 : (59 : UInt8) ∉ 35 :: T := by
      intro hm
      rcases List.mem_cons.1 hm with h1 | h1
      · exact absurd h1 (by decide)
      · exact (dg_char (c := 59) (by have := hc 59 h1; omega)).2.2 rfl
    have hcut : cutS (35 :: (T ++ [59, 121])) = some (35 :: T, [121]) := cutS_mem_at (35 :: T) [121] h59
    have hent : ent (35 :: T) = Tx.keep (some n) := by
      rw [ent_35]
      have hnum : num 10 7 T = some n := by unfold num; rw [if_neg (by rintro (h1 | h1); exact h0 h1; omega)]; exact h
      rw [← hnum]
      refine entT_d (l := 35 :: T) ?_ rfl
      intro e
      cases T with
      | nil => exact h0 rfl
      | cons a t =>
        simp only [List.take_succ_cons, List.take_zero, List.cons.injEq, true_and, and_true] at e
        exact dg_tens (hc a (by simp)) e
    rw [back_plain _ (by decide) (by decide)]
    by_cases hg : good n = true
    · rw [keep_good hg] at hent
      rw [back_amp_some hcut hent, if_pos hg]
      rfl
    · have hg' : good n = false := by simpa using hg
      rw [keep_bad hg'] at hent
      rw [back_amp_bad hcut hent, if_neg hg]
      rfl
/-- "x&#x..;y" -/
theorem hex_back {H : List UInt8} {n : Nat} (h0 : H ≠ []) (h6 : H.length ≤ 6) (h : numF 16 0 H = some n) :
    valid (120 :: 38 :: 35 :: 120 :: (H ++ [59, 121])) = true ∧ back (120 :: 38 :: 35 :: 120 :: (H ++ [59, 121])) = (if good n then some (120 :: (enc n ++ [121])) else none) := by
  have hc := numF_chars (by omega) H 0 n h
  constructor
  · refine valid_ascii _ (fun b hb => ?_)
    simp only [List.mem_cons, List.mem_append, List.not_mem_nil, or_false] at hb
    rcases hb with rfl | rfl | rfl | rfl | hb | rfl | rfl
    · decide
    · decide
    · decide
    · decide
    · have := dg_char (c := b) (by have := hc b hb; omega)
      omega
    · decide
    · decide
  · have h59 : (59 : UInt8) ∉ 35 :: 120 :: H := by
      intro hm
      rcases List.mem_cons.1 hm with h1 | h1
      · exact absurd h1 (by decide)
      rcases List.mem_cons.1 h1 with h1 | h1
      · exact absurd h1 (by decide)
      · exact (dg_char (c := 59) (by have := hc 59 h1; omega)).2.2 rfl
    have hcut : cutS (35 :: 120 :: (H ++ [59, 121])) = some (35 :: 120 :: H, [121]) := cutS_mem_at (35 :: 120 :: H) [121] h59
    have hent : ent (35 :: 120 :: H) = Tx.keep (some n) := by
      rw [ent_35]
      have hnum : num 16 6 H = some n := by unfold num; rw [if_neg (by rintro (h1 | h1); exact h0 h1; omega)]; exact h
      rw [← hnum]
      rfl
    rw [back_plain _ (by decide) (by decide)]
    by_cases hg : good n = true
    · rw [keep_good hg] at hent
      rw [back_amp_some hcut hent, if_pos hg]
      rfl
    · have hg' : good n = false := by simpa using hg
      rw [keep_bad hg'] at hent
      rw [back_amp_bad hcut hent, if_neg hg]
      rfl
/-- the law's table of digits -/
def hexT : ByteArray := ⟨#[48, 49, 50, 51, 52, 53, 54, 55, 56, 57, 97, 66, 99, 68, 101, 70]⟩
theorem hexT_at {r : Nat} (h : r < 16) : ∃ c, (hexT.extract r (r + 1)).data.toList = [c] ∧ dg c.toNat = r := by
  have H : ∀ r : Fin 16, (hexT.extract r.val (r.val + 1)).data.toList = [hexT.data.toList.getD r.val 0] ∧ dg (hexT.data.toList.getD r.val 0).toNat = r.val := by decide +kernel
  exact ⟨_, H ⟨r, h⟩⟩
end Go.Proofs.YtfjpignmjebloaaDoor
