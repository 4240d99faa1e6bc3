import Derived.Test.YtbgaglcgennhiaaGreatDoorB03
import Derived.WalkKit
import Derived.Lib.Join
import Derived.Lib.SplitLaws
section
/- what is reached of it -/
namespace Go.Proofs.YtbgaglcgennhiaaGreatDoor.Tx
open Go.Lib
/-- The bytes of a character that can be written. -/
def encB (c : Nat) : List UInt8 :=
  if c < 128 then [UInt8.ofNat c] else if c < 2048 then [UInt8.ofNat (192 + c / 64), UInt8.ofNat (128 + c % 64)]
  else if c < 65536 then [UInt8.ofNat (224 + c / 4096), UInt8.ofNat (128 + c / 64 % 64), UInt8.ofNat (128 + c % 64)]
  else [UInt8.ofNat (240 + c / 262144), UInt8.ofNat (128 + c / 4096 % 64), UInt8.ofNat (128 + c / 64 % 64), UInt8.ofNat (128 + c % 64)]
/-- May Go write it? -/
def sane (n : Nat) : Prop := n < 55296 ∨ (57343 < n ∧ n ≤ 1114111)
instance (n : Nat) : Decidable (sane n) := by unfold sane; exact inferInstance
/-- The bytes of a character, as Go writes it. -/
def enc (n : Nat) : List UInt8 := if sane n then encB n else [239, 191, 189]
theorem toNat_of (k : Nat) (h : k < 256) : (UInt8.ofNat k).toNat = k := by
  rw [UInt8.toNat_ofNat']
  exact Nat.mod_eq_of_lt h
theorem enc_sane {n : Nat} (h : sane n) : enc n = encB n := if_pos h
theorem enc_bad {n : Nat} (h : ¬ sane n) : enc n = [239, 191, 189] := if_neg h
theorem enc_cases {n : Nat} (h : sane n) :
    (n < 128 ∧ enc n = [UInt8.ofNat n]) ∨ (128 ≤ n ∧ n < 2048 ∧ enc n = [UInt8.ofNat (192 + n / 64), UInt8.ofNat (128 + n % 64)]) ∨
    (2048 ≤ n ∧ n < 65536 ∧ enc n = [UInt8.ofNat (224 + n / 4096), UInt8.ofNat (128 + n / 64 % 64), UInt8.ofNat (128 + n % 64)]) ∨
    (65536 ≤ n ∧ n ≤ 1114111 ∧ enc n = [UInt8.ofNat (240 + n / 262144), UInt8.ofNat (128 + n / 4096 % 64), UInt8.ofNat (128 + n / 64 % 64), UInt8.ofNat (128 + n % 64)]) := by
  rw [enc_sane h]
  unfold sane at h
  unfold encB
  by_cases h1 : n < 128
  · left; exact ⟨h1, if_pos h1⟩
  by_cases h2 : n < 2048
  · right; left; exact ⟨by omega, h2, by rw [if_neg h1, if_pos h2]⟩
  by_cases h3 : n < 65536
  · right; right; left; exact ⟨by omega, h3, by rw [if_neg h1, if_neg h2, if_pos h3]⟩
  · right; right; right; exact ⟨by omega, by omega, by rw [if_neg h1, if_neg h2, if_neg h3]⟩
theorem dc_enc {n : Nat} (h : sane n) : dc (enc n) = (n, (enc n).length) := by
  have hs := h
  unfold sane at hs
  rw [dc_bt]
  rcases enc_cases h with ⟨a, e⟩ | ⟨a, b, e⟩ | ⟨a, b, e⟩ | ⟨a, b, e⟩ <;> rw [e]
  · have b0 : bt [UInt8.ofNat n] 0 = n := by rw [bt_def]; exact toNat_of _ (by omega)
    rw [b0]
    unfold decodeN
    rw [if_pos a]
    rfl
  · have b0 : bt [UInt8.ofNat (192 + n / 64), UInt8.ofNat (128 + n % 64)] 0 = 192 + n / 64 := by rw [bt_def]; exact toNat_of _ (by omega)
    have b1 : bt [UInt8.ofNat (192 + n / 64), UInt8.ofNat (128 + n % 64)] 1 = 128 + n % 64 := by rw [bt_def]; exact toNat_of _ (by omega)
    rw [b0, b1]
    unfold decodeN
    simp only [List.length_cons, List.length_nil]
    rw [if_neg (by omega), if_pos (by omega), if_pos (by omega)]
    refine Prod.ext ?_ rfl
    simp only
    omega
  · have b0 : bt [UInt8.ofNat (224 + n / 4096), UInt8.ofNat (128 + n / 64 % 64), UInt8.ofNat (128 + n % 64)] 0 = 224 + n / 4096 := by rw [bt_def]; exact toNat_of _ (by omega)
    have b1 : bt [UInt8.ofNat (224 + n / 4096), UInt8.ofNat (128 + n / 64 % 64), UInt8.ofNat (128 + n % 64)] 1 = 128 + n / 64 % 64 := by rw [bt_def]; exact toNat_of _ (by omega)
    have b2 : bt [UInt8.ofNat (224 + n / 4096), UInt8.ofNat (128 + n / 64 % 64), UInt8.ofNat (128 + n % 64)] 2 = 128 + n % 64 := by rw [bt_def]; exact toNat_of _ (by omega)
    rw [b0, b1, b2]
    unfold decodeN
    simp only [List.length_cons, List.length_nil]
    rw [if_neg (by omega), if_neg (by omega), if_pos (by omega), if_pos (by omega)]
    refine Prod.ext ?_ rfl
    simp only
    omega
  · have b0 : bt [UInt8.ofNat (240 + n / 262144), UInt8.ofNat (128 + n / 4096 % 64), UInt8.ofNat (128 + n / 64 % 64), UInt8.ofNat (128 + n % 64)] 0 = 240 + n / 262144 := by rw [bt_def]; exact toNat_of _ (by omega)
    have b1 : bt [UInt8.ofNat (240 + n / 262144), UInt8.ofNat (128 + n / 4096 % 64), UInt8.ofNat (128 + n / 64 % 64), UInt8.ofNat (128 + n % 64)] 1 = 128 + n / 4096 % 64 := by rw [bt_def]; exact toNat_of _ (by omega)
    have b2 : bt [UInt8.ofNat (240 + n / 262144), UInt8.ofNat (128 + n / 4096 % 64), UInt8.ofNat (128 + n / 64 % 64), UInt8.ofNat (128 + n % 64)] 2 = 128 + n / 64 % 64 := by rw [bt_def]; exact toNat_of _ (by omega)
    have b3 : bt [UInt8.ofNat (240 + n / 262144), UInt8.ofNat (128 + n / 4096 % 64), UInt8.ofNat (128 + n / 64 % 64), UInt8.ofNat (128 + n % 64)] 3 = 128 + n % 64 := by rw [bt_def]; exact toNat_of _ (by omega)
    rw [b0, b1, b2, b3]
    unfold decodeN
    simp only [List.length_cons, List.length_nil]
    rw [if_neg (by omega), if_neg (by omega), if_neg (by omega), if_pos (by omega), if_pos (by omega)]
    refine Prod.ext ?_ rfl
    simp only
    omega
theorem enc_len {n : Nat} : 1 ≤ (enc n).length ∧ (enc n).length ≤ 4 := by
  by_cases h : sane n
  · rcases enc_cases h with ⟨_, e⟩ | ⟨_, _, e⟩ | ⟨_, _, e⟩ | ⟨_, _, e⟩ <;> rw [e] <;> simp
  · rw [enc_bad h]; simp
theorem enc_ne (n : Nat) : enc n ≠ [] := by
  intro e
  have := (enc_len (n := n)).1
  rw [e] at this
  simp at this
theorem enc_big {n : Nat} (h : sane n) (hn : 128 ≤ n) : 2 ≤ (enc n).length := by
  rcases enc_cases h with ⟨_, e⟩ | ⟨_, _, e⟩ | ⟨_, _, e⟩ | ⟨_, _, e⟩ <;> first | omega | (rw [e]; simp)
theorem nx_enc {n : Nat} (h : sane n) (hk : okc n = true) : nx (enc n) = (n, (enc n).length) := by
  rw [nx_eq, dc_enc h, hk]
  have : (n == 65533 && (enc n).length == 1) = false := by
    cases e : (n == 65533 && (enc n).length == 1) with
    | false => rfl
    | true =>
      exfalso
      simp only [Bool.and_eq_true, beq_iff_eq] at e
      have := enc_big h (by omega)
      omega
  simp only [this]
  rfl
theorem ch_enc {n : Nat} (h : sane n) (hk : okc n = true) : ch (enc n) = some [n] := by
  have e := nx_enc h hk
  have := (enc_len (n := n)).1
  have h2 : (nx (enc n)).2 ≠ 0 := by rw [e]; intro h0; simp only at h0; omega
  rw [ch_good (enc_ne n) h2, e]
  simp only
  rw [List.drop_length, ch_nil]
  rfl
attribute [irreducible] enc
end Go.Proofs.YtbgaglcgennhiaaGreatDoor.Tx
end
section
/- what is reached of it -/
namespace Go.Proofs.YtbgaglcgennhiaaGreatDoor.Tx
open Go.Lib
def chsF : Nat → List UInt8 → List (List UInt8)
  | 0, _ => []
  | f + 1, l => if l = [] then [] else l.take (dc l).2 :: chsF f (l.drop (dc l).2)
def chs (l : List UInt8) : List (List UInt8) := chsF l.length l
theorem chsF_nil (f : Nat) : chsF f [] = [] := by cases f <;> rfl
theorem chsF_succ (f : Nat) {l : List UInt8} (h : l ≠ []) : chsF (f + 1) l = l.take (dc l).2 :: chsF f (l.drop (dc l).2) := if_neg h
theorem chsF_enough : ∀ (f g : Nat) (l : List UInt8), l.length ≤ f → l.length ≤ g → chsF f l = chsF g l
  | f, g, [], _, _ => by rw [chsF_nil, chsF_nil]
  | 0, _, _ :: _, h, _ => by simp at h
  | _ + 1, 0, _ :: _, _, h => by simp at h
  | f + 1, g + 1, a :: l, hf, hg => by
    have := dc_ge1 (a :: l)
    rw [chsF_succ f (by simp), chsF_succ g (by simp), chsF_enough f g _ (by rw [List.length_drop]; simp at hf ⊢; omega) (by rw [List.length_drop]; simp at hg ⊢; omega)]
theorem chs_nil : chs [] = [] := rfl
theorem chs_step {l : List UInt8} (hl : l ≠ []) : chs l = l.take (dc l).2 :: chs (l.drop (dc l).2) := by
  cases l with
  | nil => exact absurd rfl hl
  | cons a t =>
    have := dc_ge1 (a :: t)
    unfold chs
    rw [List.length_cons, chsF_succ _ hl, chsF_enough t.length _ _ (by rw [List.length_drop]; simp; omega) (Nat.le_refl _)]
/-- The rows that characters make, where the open one is cur, and has room for so many bytes. -/
def frows : Nat → List UInt8 → List (List UInt8) → List (List UInt8)
  | _, cur, [] => [cur]
  | room, cur, c :: t => if room < c.length then cur :: frows (74 - c.length) (32 :: c) t else frows (room - c.length) (cur ++ c) t
def rowsOf (l : List UInt8) : List (List UInt8) := frows 75 [] (chs l)
def ends (rs : List (List UInt8)) : List UInt8 := rs.flatMap (· ++ [13, 10])
def foldOne (l : List UInt8) : List UInt8 := ends (rowsOf l)
def foldL (m : List (List UInt8)) : List UInt8 := m.flatMap foldOne
theorem ends_nil : ends [] = [] := rfl
theorem ends_cons (r : List UInt8) (t : List (List UInt8)) : ends (r :: t) = r ++ 13 :: 10 :: ends t := by simp [ends]
theorem ends_append (a b : List (List UInt8)) : ends (a ++ b) = ends a ++ ends b := by simp [ends]
/-- The same, as the document's own loop goes. -/
def fr : Nat → List (List UInt8) → List UInt8
  | _, [] => [13, 10]
  | room, c :: t => if room < c.length then [13, 10, 32] ++ c ++ fr (74 - c.length) t else c ++ fr (room - c.length) t
theorem frows_fr : ∀ (cs : List (List UInt8)) (room : Nat) (cur : List UInt8), ends (frows room cur cs) = cur ++ fr room cs
  | [], _, cur => by simp [frows, fr, ends]
  | c :: t, room, cur => by
    unfold frows fr
    by_cases h : room < c.length
    · rw [if_pos h, if_pos h, ends_cons, frows_fr t]
      simp
    · rw [if_neg h, if_neg h, frows_fr t]
      simp
theorem foldOne_fr (l : List UInt8) : foldOne l = fr 75 (chs l) := by
  unfold foldOne rowsOf
  rw [frows_fr, List.nil_append]
theorem fr_nil (room : Nat) : fr room [] = [13, 10] := rfl
theorem fr_cut {room : Nat} {c : List UInt8} (t : List (List UInt8)) (h : room < c.length) : fr room (c :: t) = [13, 10, 32] ++ c ++ fr (74 - c.length) t := by
  rw [fr, if_pos h]
theorem fr_on {room : Nat} {c : List UInt8} (t : List (List UInt8)) (h : ¬ room < c.length) : fr room (c :: t) = c ++ fr (room - c.length) t := by
  rw [fr, if_neg h]
section
variable {α : Type}
/-- the same by places: where each row begins, and ends -/
def ivs : Nat → Nat → List Bool → List (Nat × Nat)
  | o, k, [] => [(o, k)]
  | o, k, b :: bs => if b then (o, k) :: ivs k (k + 1) bs else ivs o (k + 1) bs
theorem take_snoc {ps : List α} {p : α} {t : List α} {o k : Nat} (h : ps.drop k = p :: t) (ho : o ≤ k) : (ps.drop o).take (k + 1 - o) = (ps.drop o).take (k - o) ++ [p] := by
  have hk : (ps.drop o)[k - o]? = some p := by
    rw [List.getElem?_drop, show o + (k - o) = k by omega]
    have := congrArg List.head? h
    simpa using this
  rw [show k + 1 - o = k - o + 1 by omega, List.take_add_one, hk]
  rfl
end
end Go.Proofs.YtbgaglcgennhiaaGreatDoor.Tx
end
section
/- what is reached of it -/
namespace Go.Proofs.YtbgaglcgennhiaaGreatDoor.Tx
open Go.Lib
/-- The rows with their ends: none where one has no end, or a part of one stands elsewhere; cur is what the open one has. -/
def rowsA : List UInt8 → List UInt8 → Option (List (List UInt8))
  | cur, [] => if cur = [] then some [] else none
  | cur, c :: t => if c = 10 then none else if c = 13 then (match t with
    | [] => none
    | d :: u => if d = 10 then (rowsA [] u).map (cur :: ·) else none) else rowsA (cur ++ [c]) t
theorem rowsA_nil (cur : List UInt8) : rowsA cur [] = if cur = [] then some [] else none := rfl
theorem rowsA_13 (cur : List UInt8) : rowsA cur [13] = none := by unfold rowsA; rw [if_neg (by decide), if_pos rfl]
theorem rowsA_end (cur u : List UInt8) : rowsA cur (13 :: 10 :: u) = (rowsA [] u).map (cur :: ·) := by
  conv => lhs; unfold rowsA
  rw [if_neg (by decide), if_pos rfl]
  simp only [if_true]
theorem rowsA_on (cur : List UInt8) {c : UInt8} (t : List UInt8) (h1 : c ≠ 10) (h2 : c ≠ 13) : rowsA cur (c :: t) = rowsA (cur ++ [c]) t := by
  conv => lhs; unfold rowsA
  rw [if_neg h1, if_neg h2]
/-- a row without a part of an end -/
def clean (r : List UInt8) : Prop := ∀ c ∈ r, c ≠ 10 ∧ c ≠ 13
theorem rowsA_run : ∀ (p t cur : List UInt8), clean p → rowsA cur (p ++ t) = rowsA (cur ++ p) t
  | [], t, cur, _ => by simp
  | c :: p, t, cur, h => by
    rw [List.cons_append, rowsA_on cur _ (h c (by simp)).1 (h c (by simp)).2, rowsA_run p t _ (fun d hd => h d (by simp [hd]))]
    simp
theorem rowsA_ends : ∀ rs : List (List UInt8), (∀ r ∈ rs, clean r) → rowsA [] (ends rs) = some rs
  | [], _ => rfl
  | r :: rs, h => by
    rw [ends_cons, rowsA_run r _ [] (h r (by simp)), rowsA_end, rowsA_ends rs (fun x hx => h x (by simp [hx]))]
    rfl
/-- Does the row go on with the line ahead? -/
def cont : List UInt8 → Bool
  | [] => false
  | c :: _ => c == 32 || c == 9
/-- the last one of them with more behind it -/
def addLast (acc : List (List UInt8)) (x : List UInt8) : List (List UInt8) := acc.dropLast ++ [acc.getLastD [] ++ x]
theorem addLast_snoc (a : List (List UInt8)) (y x : List UInt8) : addLast (a ++ [y]) x = a ++ [y ++ x] := by simp [addLast]
theorem addLast_len {acc : List (List UInt8)} (h : acc ≠ []) (x : List UInt8) : (addLast acc x).length = acc.length := by
  have : 0 < acc.length := List.length_pos_iff.2 h
  simp [addLast]; omega
/-- The lines that rows make. -/
def linesA : List (List UInt8) → List (List UInt8) → Option (List (List UInt8))
  | acc, [] => some acc
  | acc, r :: t => if cont r then (if acc = [] then none else linesA (addLast acc r.tail) t) else linesA (acc ++ [r]) t
theorem linesA_nil (acc : List (List UInt8)) : linesA acc [] = some acc := rfl
theorem linesA_more {acc : List (List UInt8)} {r : List UInt8} (t : List (List UInt8)) (h : cont r = true) (ha : acc ≠ []) : linesA acc (r :: t) = linesA (addLast acc r.tail) t := by
  conv => lhs; unfold linesA
  rw [if_pos h, if_neg ha]
theorem linesA_new (acc : List (List UInt8)) {r : List UInt8} (t : List (List UInt8)) (h : cont r = false) : linesA acc (r :: t) = linesA (acc ++ [r]) t := by
  conv => lhs; unfold linesA
  rw [h]; rfl
/-- The lines of a text in rows. -/
def unfold (l : List UInt8) : Option (List (List UInt8)) := (rowsA [] l).bind (linesA [])

def jn : List (List UInt8) → List UInt8
  | [] => []
  | r :: t => r ++ t.flatMap List.tail
theorem jn_snoc {cur : List (List UInt8)} (h : cur ≠ []) (r : List UInt8) : jn (cur ++ [r]) = jn cur ++ r.tail := by
  cases cur with
  | nil => exact absurd rfl h
  | cons a t => simp [jn]
instance (r : List UInt8) : Decidable (clean r) := List.decidableBAll _ r
end Go.Proofs.YtbgaglcgennhiaaGreatDoor.Tx
end
