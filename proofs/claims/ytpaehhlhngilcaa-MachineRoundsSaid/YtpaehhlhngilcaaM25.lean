import Derived.Test.YtpaehhlhngilcaaM24
import Derived.Test.YtpaehhlhngilcaaM21
import Derived.Test.YtpaehhlhngilcaaM16
section
/- what is reached of it -/
namespace Go.Proofs.Ytpaehhlhngilcaa.Vc
open Go.Lib Tx
/-- A parameter: its name, its value. A property: its group, name, parameters, value. -/
abbrev Par := List UInt8 × List UInt8
abbrev Pr := List UInt8 × List UInt8 × List Par × List UInt8
instance decPr : DecidableEq Pr := @instDecidableEqProd _ _ inferInstance (@instDecidableEqProd _ _ inferInstance (@instDecidableEqProd _ _ inferInstance inferInstance))
def lett (c : UInt8) : Bool := (decide (65 ≤ c.toNat) && decide (c.toNat ≤ 90)) || (decide (97 ≤ c.toNat) && decide (c.toNat ≤ 122))
def wc (c : UInt8) : Bool := lett c || (decide (48 ≤ c.toNat) && decide (c.toNat ≤ 57)) || c == 45
def upC (c : UInt8) : UInt8 := if 97 ≤ c.toNat ∧ c.toNat ≤ 122 then c - 32 else c
def up (l : List UInt8) : List UInt8 := l.map upC
/-- What a parameter's value may have in it without quotes. -/
def free (c : UInt8) : Bool := c != 34 && c != 59 && c != 58 && c != 44
/-- A value behind its "=", and what is behind it. -/
def pvalL : List UInt8 → Option (List UInt8 × List UInt8)
  | 34 :: q => match q.dropWhile (· != 34) with
    | [] => none
    | _ :: m => some (q.takeWhile (· != 34), m)
  | r => some (r.takeWhile free, r.dropWhile free)
/-- A parameter behind its ";". -/
def parL (l : List UInt8) : Option (Par × List UInt8) :=
  if l.takeWhile wc = [] then none else
  match l.dropWhile wc with
  | 61 :: r => (pvalL r).map fun v => ((up (l.takeWhile wc), v.1), v.2)
  | _ => none
/-- As many as there are. -/
def parsF : Nat → List Par → List UInt8 → Option (List Par × List UInt8)
  | 0, ps, l => some (ps, l)
  | f + 1, ps, l => match l with
    | 59 :: r => match parL r with
      | some p => parsF f (ps ++ [p.1]) p.2
      | none => none
    | l => some (ps, l)
/-- Its group, its name, and what is behind them. -/
def headL (l : List UInt8) : List UInt8 × List UInt8 × List UInt8 :=
  match l.takeWhile wc, l.dropWhile wc with
  | c :: w, 46 :: m => (c :: w, up (m.takeWhile wc), m.dropWhile wc)
  | w, r => ([], up w, r)
def propL (l : List UInt8) : Option Pr :=
  if (headL l).2.1 = [] then none else
  match parsF (l.length + 1) [] (headL l).2.2 with
  | some (ps, 58 :: v) => some ((headL l).1, (headL l).2.1, ps, v)
  | _ => none

def beginT : List UInt8 := [66, 69, 71, 73, 78, 58, 86, 67, 65, 82, 68]
def endT : List UInt8 := [69, 78, 68, 58, 86, 67, 65, 82, 68]
def beginN : List UInt8 := [66, 69, 71, 73, 78]
def versN : List UInt8 := [86, 69, 82, 83, 73, 79, 78]
def fourT : List UInt8 := [52, 46, 48]
/-- Where a reader stands: the cards that are whole; is one open, is its first line still to come, what it has. -/
abbrev RSt := List (List Pr) × Option (Bool × List Pr)
/-- One line: what is wrong with it (0: nothing), or what is there behind it. -/
def stepV (st : RSt) (l : List UInt8) : Nat × RSt := match st.2 with
  | none => if up l ≠ beginT then (20, st) else if 60 ≤ st.1.length then (4, st) else (0, (st.1, some (true, [])))
  | some (true, c) => match propL l with
    | some p => if p.2.1 = versN ∧ p.2.2.2 = fourT then (0, (st.1, some (false, c))) else (20, st)
    | none => (20, st)
  | some (false, c) => if up l = endT then (0, (st.1 ++ [c], none)) else match propL l with
    | none => (17, st)
    | some p => if p.2.1 = beginN ∨ p.2.1 = versN then (20, st) else if 40 ≤ c.length then (4, st) else (0, (st.1, some (false, c ++ [p])))
/-- All lines, behind so many: the cards, the line that is wrong, why. -/
def runV : Nat → RSt → List (List UInt8) → List (List Pr) × Nat × Nat
  | n, st, [] => match st.2 with
    | none => (st.1, 0, 0)
    | some _ => ([], n, 20)
  | n, st, l :: t => if (stepV st l).1 = 0 then runV (n + 1) (stepV st l).2 t else ([], n + 1, (stepV st l).1)
def readV (s : List UInt8) : List (List Pr) × Nat × Nat :=
  if 20000 < s.length then ([], 0, 4) else if valid s = false then ([], 0, 3) else match unfold s with
  | none => ([], 0, 17)
  | some ls => runV 0 ([], none) ls

end Go.Proofs.Ytpaehhlhngilcaa.Vc
end
section
/- what is reached of it -/
namespace Go.Proofs.Ytpaehhlhngilcaa.Vc
open Go.Lib Tx
theorem up_word : ∀ c : UInt8, wc c = true → wc (upC c) = true ∧ upC (upC c) = upC c := by
  have h : ∀ n : Nat, n < 256 → wc (UInt8.ofNat n) = true → wc (upC (UInt8.ofNat n)) = true ∧ upC (upC (UInt8.ofNat n)) = upC (UInt8.ofNat n) := by decide +kernel
  intro c hc
  have := h c.toNat c.toNat_lt (by simpa using hc)
  simpa using this
def Word (w : List UInt8) : Prop := w ≠ [] ∧ ∀ c ∈ w, wc c = true
def NameV (n : List UInt8) : Prop := Word n ∧ up n = n
theorem Word.up {w : List UInt8} (h : Word w) : NameV (up w) := by
  refine ⟨⟨fun e => h.1 (List.map_eq_nil_iff.1 e), fun c hc => ?_⟩, ?_⟩
  · obtain ⟨d, hd, rfl⟩ := List.mem_map.1 hc
    exact (up_word d (h.2 d hd)).1
  · unfold Vc.up
    rw [List.map_map]
    exact List.map_congr_left fun c hc => (up_word c (h.2 c hc)).2
end Go.Proofs.Ytpaehhlhngilcaa.Vc
end
section
/- what is reached of it -/
namespace Go.Proofs.Ytpaehhlhngilcaa.Vc
open Go.Lib Tx
def Good (l : List UInt8) : Prop := clean l ∧ valid l = true
end Go.Proofs.Ytpaehhlhngilcaa.Vc
end
section
/- what is reached of it -/
namespace Go.Proofs.Ytpaehhlhngilcaa.Ct
open Go.Proofs.Ytpaehhlhngilcaa Tx Vc
/-- A contact: nine texts, its groups, its other properties. -/
structure Con where
  name : List UInt8
  family : List UInt8
  given : List UInt8
  nick : List UInt8
  jid : List UInt8
  email : List UInt8
  tel : List UInt8
  note : List UInt8
  uid : List UInt8
  groups : List (List UInt8)
  other : List Pr
/-- One more, in its place; none twice. -/
def ins (x : List UInt8) : List (List UInt8) → List (List UInt8)
  | [] => [x]
  | y :: t => if Jd.ltL y x then y :: ins x t else if y = x then y :: t else x :: y :: t
/-- what stands behind an insertion -/
theorem ins_mem : ∀ {l : List (List UInt8)} {x y : List UInt8}, y ∈ ins x l ↔ y = x ∨ y ∈ l
  | [], x, y => by simp [ins]
  | z :: t, x, y => by
    rw [ins]
    split
    · rw [List.mem_cons, ins_mem, List.mem_cons]
      constructor
      · rintro (h | h | h)
        · exact .inr (.inl h)
        · exact .inl h
        · exact .inr (.inr h)
      · rintro (h | h | h)
        · exact .inr (.inl h)
        · exact .inl h
        · exact .inr (.inr h)
    · split
      · rename_i _ e
        subst e
        simp
      · simp
theorem ins_len : ∀ (l : List (List UInt8)) (x : List UInt8), (ins x l).length ≤ l.length + 1
  | [], _ => Nat.le_refl _
  | y :: t, x => by
    rw [ins]
    have := ins_len t x
    split
    · simp only [List.length_cons]; omega
    · split
      · simp only [List.length_cons]; omega
      · simp only [List.length_cons]; omega
end Go.Proofs.Ytpaehhlhngilcaa.Ct
end
section
/- what is reached of it -/
namespace Go.Proofs.Ytpaehhlhngilcaa.Ct
open Go.Proofs.Ytpaehhlhngilcaa Tx Vc
/-- one more group, at its place -/
theorem ins_at : ∀ {l : List (List UInt8)} {x : List UInt8} {k : Nat}, (∀ i y, i < k → l[i]? = some y → Jd.ltL y x = true) → (∀ y, l[k]? = some y → Jd.ltL y x = false) → k ≤ l.length → ins x l = if l[k]? = some x then l else l.take k ++ x :: l.drop k
  | [], x, k, _, _, hk => by
    obtain rfl : k = 0 := by simpa using hk
    rfl
  | y :: t, x, 0, _, h2, _ => by
    have h3 : Jd.ltL y x = false := h2 y rfl
    rw [ins, if_neg (by rw [h3]; decide)]
    by_cases e : y = x
    · rw [if_pos e, if_pos (by rw [e]; rfl)]
    · rw [if_neg e, if_neg (show ¬ (y :: t)[0]? = some x from fun h => e (Option.some.inj h))]
      rfl
  | y :: t, x, k + 1, h1, h2, hk => by
    have h3 : Jd.ltL y x = true := h1 0 y (Nat.succ_pos _) rfl
    rw [ins, if_pos h3, ins_at (l := t) (x := x) (k := k) (fun i z hi hz => h1 (i + 1) z (by omega) hz) (fun z hz => h2 z hz) (by simpa using hk)]
    by_cases e : t[k]? = some x
    · rw [if_pos e, if_pos (show (y :: t)[k + 1]? = some x from e)]
    · rw [if_neg e, if_neg (show ¬ (y :: t)[k + 1]? = some x from e)]
      rfl
end Go.Proofs.Ytpaehhlhngilcaa.Ct
end
