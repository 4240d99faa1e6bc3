import Derived.Test.YtpaehhlhngilcaaM04
import Derived.Lib.Join
import Derived.Lib.SplitLaws
import Derived.Test.YtpaehhlhngilcaaM15
section
/- what is reached of it -/
namespace Go.Proofs.Ytpaehhlhngilcaa.Tx
open Go.Lib
def chsF : Nat → List UInt8 → List (List UInt8)
  | 0, _ => []
  | f + 1, l => if l = [] then [] else l.take (dc l).2 :: chsF f (l.drop (dc l).2)
def chs (l : List UInt8) : List (List UInt8) := chsF l.length l
theorem chsF_nil (f : Nat) : chsF f [] = [] := by cases f <;> rfl
theorem chsF_succ (f : Nat) {l : List UInt8} (h : l ≠ []) : chsF (f + 1) l = l.take (dc l).2 :: chsF f (l.drop (dc l).2) := if_neg h
theorem chsF_enough : ∀ (f g : Nat) (l : List UInt8), l.length ≤ f → l.length ≤ g → chsF f l = chsF g l
  | f, g, [], _, _ => by rw [chsF_nil, chsF_nil]
  | 0, _, _ :: _, h, _ => by simp at h
  | _ + 1, 0, _ :: _, _, h => by simp at h
  | f + 1, g + 1, a :: l, hf, hg => by
    have := dc_ge1 (a :: l)
    rw [chsF_succ f (by simp), chsF_succ g (by simp), chsF_enough f g _ (by rw [List.length_drop]; simp at hf ⊢; omega) (by rw [List.length_drop]; simp at hg ⊢; omega)]
theorem chs_nil : chs [] = [] := rfl
theorem chs_step {l : List UInt8} (hl : l ≠ []) : chs l = l.take (dc l).2 :: chs (l.drop (dc l).2) := by
  cases l with
  | nil => exact absurd rfl hl
  | cons a t =>
    have := dc_ge1 (a :: t)
    unfold chs
    rw [List.length_cons, chsF_succ _ hl, chsF_enough t.length _ _ (by rw [List.length_drop]; simp; omega) (Nat.le_refl _)]
/-- The rows that characters make, where the open one is cur, and has room for so many bytes. -/
def frows : Nat → List UInt8 → List (List UInt8) → List (List UInt8)
  | _, cur, [] => [cur]
  | room, cur, c :: t => if room < c.length then cur :: frows (74 - c.length) (32 :: c) t else frows (room - c.length) (cur ++ c) t
def rowsOf (l : List UInt8) : List (List UInt8) := frows 75 [] (chs l)
def ends (rs : List (List UInt8)) : List UInt8 := rs.flatMap (· ++ [13, 10])
def foldOne (l : List UInt8) : List UInt8 := ends (rowsOf l)
theorem ends_nil : ends [] = [] := rfl
theorem ends_cons (r : List UInt8) (t : List (List UInt8)) : ends (r :: t) = r ++ 13 :: 10 :: ends t := by simp [ends]
theorem ends_append (a b : List (List UInt8)) : ends (a ++ b) = ends a ++ ends b := by simp [ends]
/-- The same, as the document's own loop goes. -/
def fr : Nat → List (List UInt8) → List UInt8
  | _, [] => [13, 10]
  | room, c :: t => if room < c.length then [13, 10, 32] ++ c ++ fr (74 - c.length) t else c ++ fr (room - c.length) t
theorem frows_fr : ∀ (cs : List (List UInt8)) (room : Nat) (cur : List UInt8), ends (frows room cur cs) = cur ++ fr room cs
  | [], _, cur => by simp [frows, fr, ends]
  | c :: t, room, cur => by
    unfold frows fr
    by_cases h : room < c.length
    · rw [if_pos h, if_pos h, ends_cons, frows_fr t]
      simp
    · rw [if_neg h, if_neg h, frows_fr t]
      simp
theorem foldOne_fr (l : List UInt8) : foldOne l = fr 75 (chs l) := by
  unfold foldOne rowsOf
  rw [frows_fr, List.nil_append]
theorem fr_nil (room : Nat) : fr room [] = [13, 10] := rfl
section
variable {α : Type}
/-- the same by places: where each row begins, and ends -/
def ivs : Nat → Nat → List Bool → List (Nat × Nat)
  | o, k, [] => [(o, k)]
  | o, k, b :: bs => if b then (o, k) :: ivs k (k + 1) bs else ivs o (k + 1) bs
end
end Go.Proofs.Ytpaehhlhngilcaa.Tx
end
section
/- what is reached of it -/
namespace Go.Proofs.Ytpaehhlhngilcaa.Tx
/-- What a "\" makes of the byte behind it. -/
def unb (c : UInt8) : Option UInt8 := if c = 92 ∨ c = 44 ∨ c = 59 then some c else if c = 110 ∨ c = 78 then some 10 else none
/-- The text that a value is. -/
def plain : List UInt8 → Option (List UInt8)
  | [] => some []
  | c :: t => if c = 92 then (match t with
    | [] => none
    | d :: u => match unb d with
      | some x => (plain u).map (x :: ·)
      | none => none) else (plain t).map (c :: ·)
theorem plain_nil : plain [] = some [] := rfl
theorem plain_end : plain [92] = none := by unfold plain; rw [if_pos rfl]
theorem plain_bad {d : UInt8} (u : List UInt8) (h : unb d = none) : plain (92 :: d :: u) = none := by
  unfold plain
  rw [if_pos rfl]
  simp only [h]
theorem plain_esc {d x : UInt8} (u : List UInt8) (h : unb d = some x) : plain (92 :: d :: u) = (plain u).map (x :: ·) := by
  conv => lhs; unfold plain
  rw [if_pos rfl]
  simp only [h]
theorem plain_on {c : UInt8} (t : List UInt8) (h : c ≠ 92) : plain (c :: t) = (plain t).map (c :: ·) := by
  conv => lhs; unfold plain
  rw [if_neg h]
theorem plain_run : ∀ (p t : List UInt8), (∀ c ∈ p, c ≠ 92) → plain (p ++ t) = (plain t).map (p ++ ·)
  | [], t, _ => by rw [List.nil_append]; cases plain t <;> rfl
  | c :: p, t, h => by
    rw [List.cons_append, plain_on _ (h c (by simp)), plain_run p t (fun d hd => h d (by simp [hd]))]
    cases plain t <;> rfl
def spl (sep : UInt8) : Bool → List UInt8 → List UInt8 → List (List UInt8)
  | _, cur, [] => [cur]
  | e, cur, c :: t => if c = sep ∧ e = false then cur :: spl sep (c == 92 && !e) [] t else spl sep (c == 92 && !e) (cur ++ [c]) t
theorem spl_nil (sep : UInt8) (e : Bool) (cur : List UInt8) : spl sep e cur [] = [cur] := rfl
/-- all but the first one without their first byte -/
def tails : List (List UInt8) → List (List UInt8)
  | [] => []
  | h :: t => h :: t.map List.tail
def split1 (sep : UInt8) (l : List UInt8) : List (List UInt8) := spl sep false [] l
end Go.Proofs.Ytpaehhlhngilcaa.Tx
end
section
/- what is reached of it -/
namespace Go.Proofs.Ytpaehhlhngilcaa
open Go.RowKit Tx
/-- strings out of lists of bytes -/
def sts (l : List (List UInt8)) : List ByteArray := l.map fun x => ⟨x.toArray⟩
/-- how the document's loop stands: acc are told, the open piece goes from f to k -/
def SStand (sep : UInt8) (l : List UInt8) (acc : List (List UInt8)) (f k : Nat) (e : Bool) : Prop := f ≤ k ∧ k ≤ l.length ∧ acc.length ≤ f ∧ split1 sep l = acc ++ spl sep e ((l.drop f).take (k - f)) (l.drop k)
theorem SStand.start (sep : UInt8) (l : List UInt8) : SStand sep l [] 0 0 false := ⟨Nat.le_refl _, Nat.zero_le _, Nat.le_refl _, by simp [split1]⟩
theorem SStand.done {sep : UInt8} {l : List UInt8} {acc : List (List UInt8)} {f k : Nat} {e : Bool} (h : SStand sep l acc f k e) (hk : l.length ≤ k) : split1 sep l = acc ++ [l.drop f] := by
  obtain ⟨h1, h2, _, h3⟩ := h
  rw [h3, List.drop_eq_nil_of_le hk, spl_nil, List.take_of_length_le (by rw [List.length_drop]; omega)]
end Go.Proofs.Ytpaehhlhngilcaa
end
