import Derived.Test.YtpaehhlhngilcaaM19
import Derived.Test.YtpaehhlhngilcaaM18
import Derived.Lib.Hide
import Derived.Deep.RegionLaw
import Derived.Test.YtpaehhlhngilcaaShelf
import Derived.Laws.EntriesVeiled
import Derived.Test.YtpaehhlhngilcaaRows
import Derived.Test.YtpaehhlhngilcaaM03
import Derived.Test.YtpaehhlhngilcaaM04
import Derived.Test.YtpaehhlhngilcaaM06
import Derived.WalkKit
import Derived.WalkSpells
import Derived.WalkLawsBesides
import Derived.Lib.SplitLaws
import Derived.Shelf.Abstract
import Derived.Deep.RegionHeld3
section
/- what is reached of it -/
namespace Go.Proofs.Ytpaehhlhngilcaa
open Go.RowKit Rg Tx
/-- The slice v, made by the call (above block B), holds just the bytes l. -/
def OwnB (B : Nat) (w : World) (v : Value) (l : List UInt8) : Prop := w.ownsRow B 5 1 v l.length (Lib.byteCells l)
theorem OwnB.nil (B : Nat) (w : World) : OwnB B w (.slice none 0 0) [] := World.ownsRow_nil _ _ _ _
theorem OwnB.slice {B : Nat} {w : World} {v : Value} {l : List UInt8} (h : OwnB B w v l) : ∃ A cap, v = .slice A l.length cap := by
  rcases h.2 with ⟨rfl, h0⟩ | ⟨g, cap, cur, rfl, _⟩
  · exact ⟨none, 0, by rw [h0]⟩
  · exact ⟨_, _, rfl⟩
theorem Reads.cells {B : Nat} {w : World} {A : Option Addr} {n cap : Nat} {x : List Nat} (h : Reads B w (.slice A n cap) x) : n = x.length ∧ (0 < x.length → ∃ ad : Addr, A = some ad ∧ ad.block < B ∧ ∀ i, i < x.length → w.cell? (ad.add i) = some (.int .i64 (x.getD i 0 : Nat))) := by
  obtain ⟨A', cap', e, h2⟩ := h
  injection e with e1 e2 e3
  subst e1
  exact ⟨e2, h2⟩
end Go.Proofs.Ytpaehhlhngilcaa
end
section
/- what is reached of it -/
namespace Go.Proofs.Ytpaehhlhngilcaa
open Go.RowKit Tx
/-- What utf.Runes hands on: the characters, none where it is no text; in memory of its own. -/
def RunesOf (B : Nat) (w : World) (l : List UInt8) (e : Ending) (w' : World) : Prop :=
  ∃ v, e = .returned (.tuple #[v, .bool (valid l)]) ∧ Owned B w' v (runes l) ∧ Below B w w'

theorem RunesOf.some {B : Nat} {w w' : World} {l : List UInt8} {x : List Nat} {v : Value} (h : ch l = .some x) (ho : Owned B w' v x) (hb : Below B w w') : RunesOf B w l (.returned (.tuple #[v, .bool true])) w' :=
  ⟨v, by rw [valid_some h], by rw [runes_some h]; exact ho, hb⟩
theorem RunesOf.none {B : Nat} {w w' : World} {l : List UInt8} (h : ch l = .none) (hb : Below B w w') : RunesOf B w l (.returned (.tuple #[.slice .none 0 0, .bool false])) w' :=
  ⟨_, by rw [valid_none h], by rw [runes_none h]; exact Owned.nil _ _, hb⟩
end Go.Proofs.Ytpaehhlhngilcaa
end
section
/- what is reached of it -/
namespace Go.Proofs.Ytpaehhlhngilcaa
open Go.Proofs.Ytpaehhlhngilcaa Rg Tx
theorem Jd.flat_cons (c : Nat) (l : List Nat) : flat (c :: l) = enc c ++ flat l := by rw [show c :: l = [c] ++ l from rfl, flat_append, flat_one]
namespace Jd
/-- the pieces between the signs c -/
def pcs (c : UInt8) : List UInt8 → List (List UInt8)
  | [] => [[]]
  | b :: l => if b = c then [] :: pcs c l else (b :: (pcs c l).headD []) :: (pcs c l).tail
theorem pcs_ne (c : UInt8) : ∀ l : List UInt8, pcs c l ≠ []
  | [] => by simp [pcs]
  | b :: l => by unfold pcs; split <;> simp
theorem pcs_none {c : UInt8} : ∀ {l : List UInt8}, c ∉ l → pcs c l = [l]
  | [], _ => rfl
  | b :: l, h => by
    have h1 : b ≠ c := fun e => h (by rw [e]; exact List.mem_cons_self ..)
    have h2 := pcs_none (c := c) (l := l) (fun e => h (List.mem_cons_of_mem _ e))
    unfold pcs
    rw [if_neg h1, h2]
    rfl
theorem pcs_snoc (c : UInt8) : ∀ l : List UInt8, pcs c (l ++ [c]) = pcs c l ++ [[]]
  | [] => by simp [pcs]
  | b :: l => by
    have ih := pcs_snoc c l
    have hn := pcs_ne c l
    have e1 : pcs c (b :: (l ++ [c])) = if b = c then [] :: pcs c (l ++ [c]) else (b :: (pcs c (l ++ [c])).headD []) :: (pcs c (l ++ [c])).tail := rfl
    have e2 : pcs c (b :: l) = if b = c then [] :: pcs c l else (b :: (pcs c l).headD []) :: (pcs c l).tail := rfl
    rw [List.cons_append, e1, e2, ih]
    by_cases h : b = c
    · rw [if_pos h, if_pos h]; rfl
    · rw [if_neg h, if_neg h]
      cases hp : pcs c l with
      | nil => exact absurd hp hn
      | cons y ys => rfl
theorem pcs_end (c : UInt8) (l : List UInt8) : [] ∈ pcs c (l ++ [c]) := by rw [pcs_snoc]; simp
/-- May the piece not stand in a domain? -/
def badB (x : List UInt8) : Bool := x.isEmpty || x.headD 0 == 45 || x.getLastD 0 == 45
/-- without one "." at its end -/
def trimD (l : List UInt8) : List UInt8 := if l.getLast? = some 46 then l.dropLast else l
/-- 1 to most bytes, or why not -/
def sizedL (most : Nat) (r : List UInt8 × Nat) : List UInt8 × Nat := if r.2 = 0 then (if r.1 = [] ∨ most < r.1.length then ([], 14) else r) else ([], r.2)
def hostL (s : List UInt8) : List UInt8 × Nat := (trimD (Pr.prepL 2 s).1, (Pr.prepL 2 s).2)
/-- are its pieces right? -/
def pieced (r : List UInt8 × Nat) : List UInt8 × Nat := if r.2 = 0 then (if (pcs 46 r.1).any badB then ([], 14) else r) else ([], r.2)
/-- A text as a domain, or why not. -/
def domL (s : List UInt8) : List UInt8 × Nat := pieced (sizedL 100 (hostL s))
/-- local part, domain, resource -/
abbrev J := List UInt8 × List UInt8 × List UInt8
theorem sized_of {m : Nat} {a : List UInt8} (h : a ≠ []) (h2 : a.length ≤ m) : sizedL m (a, 0) = (a, 0) := by
  unfold sizedL
  rw [if_pos rfl, if_neg (by rintro (h3 | h3); exact h h3; exact absurd h3 (by simpa using h2))]
theorem trim_pieces {d : List UInt8} (h : (pcs 46 d).any badB = false) : trimD d = d := by
  unfold trimD
  refine if_neg fun hl => ?_
  rcases List.eq_nil_or_concat d with rfl | ⟨d', c, rfl⟩
  · simp at hl
  · rw [List.concat_eq_append] at *
    simp at hl
    subst hl
    have := List.any_eq_false.1 h _ (pcs_end 46 d')
    exact this rfl
theorem dom_of {d : List UInt8} (h1 : Pr.prepL 2 d = (d, 0)) (h2 : d ≠ []) (h3 : d.length ≤ 100) (h4 : (pcs 46 d).any badB = false) : domL d = (d, 0) := by
  have e : hostL d = (d, 0) := by unfold hostL; rw [h1]; simp only; rw [trim_pieces h4]
  unfold domL
  rw [e, sized_of h2 h3]
  unfold pieced
  rw [if_pos rfl, h4]
  rfl
/-- What a right address's parts are. -/
structure Right (j : J) : Prop where
  dom : domL j.2.1 = (j.2.1, 0)
  dne : j.2.1 ≠ []
  loc : j.1 = [] ∨ (Pr.prepL 1 j.1 = (j.1, 0) ∧ j.1.length ≤ 64)
  res : j.2.2 = [] ∨ (Pr.prepL 3 j.2.2 = (j.2.2, 0) ∧ j.2.2.length ≤ 64)
def ltL (a b : List UInt8) : Bool := Op.bytesLess a b
attribute [irreducible] ltL
end Jd
end Go.Proofs.Ytpaehhlhngilcaa
end
section
/- what is reached of it -/
namespace Go.Proofs.Ytpaehhlhngilcaa
open Go.RowKit Rg Tx
/-- a text and a number -/
def twoV (r : List UInt8 × Nat) : Value := .tuple #[.string ⟨r.1.toArray⟩, .int .i64 (r.2 : Nat)]
def Keeps (w : World) (v : Value) (f : List UInt8 → List UInt8 × Nat) : Prop := ∃ (F : FuncId) (cb : Array Value), v = .func (.func F) #[] cb ∧ (∀ args W, (callFunc F args).run Try.prog W = .ok (.enter F args) W) ∧
  ∀ (s : ByteArray) W, Below w.heap.size w W → s.size ≤ 100000000 → Calls Try.prog F (#[.string s] ++ cb) W fun e w' => e = .returned (twoV (f s.data.toList)) ∧ Below W.heap.size W w'
theorem Keeps.below {w w' : World} {v : Value} {f : List UInt8 → List UInt8 × Nat} (h : Keeps w v f) (hb : Below w.heap.size w w') : Keeps w' v f := by
  obtain ⟨F, cb, rfl, eg, hp⟩ := h
  exact ⟨F, cb, rfl, eg, fun s W hW => hp s W (hb.trans (hW.mono hb.size))⟩
end Go.Proofs.Ytpaehhlhngilcaa
end
section
/- what is reached of it -/
namespace Go.Proofs.Ytpaehhlhngilcaa
open Go.RowKit Rg Tx
section
variable {P : Program} {ops : Array Oper} {Q : Exit → Act → World → Prop} {md : Region.Mode} {S : World → Prop}
/-- An operation of a drawn region that is wanted, taken first. -/
theorem take_w (i d : _) (v : Value) {oi : Oper} {fuel : Nat} {listed : Array Bool} {a : Act} {w : World} (hi : ops[i]? = some oi) (hd : oi.dst = d)
    (hs : Region.noSelect ops = true) (hf : Region.free md ops listed i = true) (hr : (Region.ready md ops listed).contains i = true)
    (hw : Region.wanted oi (yielded ops a.tmps) = true) (hv : ∀ w, S w → (execOp a.eval oi).run P w = .ok (.value v) w)
    (hQ : ∀ c a w, Q (.panic c) (a.put d v) w → Q (.panic c) a w) (hS : S w)
    (h : wpAnyH P md ops Q S fuel (listed.setIfInBounds i true) (a.put d v) w) : wpAnyH P md ops Q S (fuel + 1) listed a w := by
  subst hd
  exact wpAnyH_take hi hs hf hr hQ (.inl ⟨hw, hv⟩) hS h
end
end Go.Proofs.Ytpaehhlhngilcaa
end
