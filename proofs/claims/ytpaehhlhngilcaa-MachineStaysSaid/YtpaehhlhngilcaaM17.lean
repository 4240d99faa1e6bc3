import Derived.Test.YtpaehhlhngilcaaM04
import Derived.Test.YtpaehhlhngilcaaM06
import Derived.Laws.IdiomStrings
import Derived.Laws.Cover4
import Derived.Test.YtpaehhlhngilcaaM16
import Derived.Test.YtpaehhlhngilcaaRows
import Derived.Test.YtpaehhlhngilcaaShelf
import Derived.Lib.FrozenHead2
import Derived.WalkKit
import Derived.WalkSpells
import Derived.WalkLawsBesides
import Derived.Test.YtpaehhlhngilcaaM15
import Derived.Lib.OthersKept
import Derived.Scope
import Derived.Deep.RegionWith
import Derived.Lib.IndexBytes
import Derived.Deep.QuietTactic
import Derived.BigQuiet
section
/- what is reached of it -/
namespace Go.Proofs.Ytpaehhlhngilcaa.Tx
open Go.Lib
/-- A row of characters, written. -/
def flat (cs : List Nat) : List UInt8 := cs.flatMap enc
theorem flat_nil : flat [] = [] := rfl
theorem flat_append (a b : List Nat) : flat (a ++ b) = flat a ++ flat b := by simp [flat]
theorem flat_one (c : Nat) : flat [c] = enc c := by simp [flat]
/-- Characters that a line may have. -/
def Good (cs : List Nat) : Prop := ∀ c ∈ cs, sane c ∧ okc c = true ∧ 32 ≤ c
theorem Good.nil : Good [] := fun c h => by cases h
theorem Good.take {cs : List Nat} (h : Good cs) (k : Nat) : Good (cs.take k) := fun c hc => h c (List.mem_of_mem_take hc)
theorem Good.drop {cs : List Nat} (h : Good cs) (k : Nat) : Good (cs.drop k) := fun c hc => h c (List.mem_of_mem_drop hc)
attribute [irreducible] flat
end Go.Proofs.Ytpaehhlhngilcaa.Tx
end
section
/- what is reached of it -/
namespace Go.Proofs.Ytpaehhlhngilcaa.Tx
open Go.Lib
/-- The rows with their ends: none where one has no end, or a part of one stands elsewhere; cur is what the open one has. -/
def rowsA : List UInt8 → List UInt8 → Option (List (List UInt8))
  | cur, [] => if cur = [] then some [] else none
  | cur, c :: t => if c = 10 then none else if c = 13 then (match t with
    | [] => none
    | d :: u => if d = 10 then (rowsA [] u).map (cur :: ·) else none) else rowsA (cur ++ [c]) t
theorem rowsA_nil (cur : List UInt8) : rowsA cur [] = if cur = [] then some [] else none := rfl
theorem rowsA_13 (cur : List UInt8) : rowsA cur [13] = none := by unfold rowsA; rw [if_neg (by decide), if_pos rfl]
theorem rowsA_end (cur u : List UInt8) : rowsA cur (13 :: 10 :: u) = (rowsA [] u).map (cur :: ·) := by
  conv => lhs; unfold rowsA
  rw [if_neg (by decide), if_pos rfl]
  simp only [if_true]
theorem rowsA_on (cur : List UInt8) {c : UInt8} (t : List UInt8) (h1 : c ≠ 10) (h2 : c ≠ 13) : rowsA cur (c :: t) = rowsA (cur ++ [c]) t := by
  conv => lhs; unfold rowsA
  rw [if_neg h1, if_neg h2]
/-- a row without a part of an end -/
def clean (r : List UInt8) : Prop := ∀ c ∈ r, c ≠ 10 ∧ c ≠ 13
theorem rowsA_run : ∀ (p t cur : List UInt8), clean p → rowsA cur (p ++ t) = rowsA (cur ++ p) t
  | [], t, cur, _ => by simp
  | c :: p, t, cur, h => by
    rw [List.cons_append, rowsA_on cur _ (h c (by simp)).1 (h c (by simp)).2, rowsA_run p t _ (fun d hd => h d (by simp [hd]))]
    simp
theorem rowsA_ends : ∀ rs : List (List UInt8), (∀ r ∈ rs, clean r) → rowsA [] (ends rs) = some rs
  | [], _ => rfl
  | r :: rs, h => by
    rw [ends_cons, rowsA_run r _ [] (h r (by simp)), rowsA_end, rowsA_ends rs (fun x hx => h x (by simp [hx]))]
    rfl
/-- Does the row go on with the line ahead? -/
def cont : List UInt8 → Bool
  | [] => false
  | c :: _ => c == 32 || c == 9
/-- the last one of them with more behind it -/
def addLast (acc : List (List UInt8)) (x : List UInt8) : List (List UInt8) := acc.dropLast ++ [acc.getLastD [] ++ x]
theorem addLast_snoc (a : List (List UInt8)) (y x : List UInt8) : addLast (a ++ [y]) x = a ++ [y ++ x] := by simp [addLast]
theorem addLast_len {acc : List (List UInt8)} (h : acc ≠ []) (x : List UInt8) : (addLast acc x).length = acc.length := by
  have : 0 < acc.length := List.length_pos_iff.2 h
  simp [addLast]; omega
/-- The lines that rows make. -/
def linesA : List (List UInt8) → List (List UInt8) → Option (List (List UInt8))
  | acc, [] => some acc
  | acc, r :: t => if cont r then (if acc = [] then none else linesA (addLast acc r.tail) t) else linesA (acc ++ [r]) t
theorem linesA_nil (acc : List (List UInt8)) : linesA acc [] = some acc := rfl
theorem linesA_more {acc : List (List UInt8)} {r : List UInt8} (t : List (List UInt8)) (h : cont r = true) (ha : acc ≠ []) : linesA acc (r :: t) = linesA (addLast acc r.tail) t := by
  conv => lhs; unfold linesA
  rw [if_pos h, if_neg ha]
theorem linesA_new (acc : List (List UInt8)) {r : List UInt8} (t : List (List UInt8)) (h : cont r = false) : linesA acc (r :: t) = linesA (acc ++ [r]) t := by
  conv => lhs; unfold linesA
  rw [h]; rfl
/-- The lines of a text in rows. -/
def unfold (l : List UInt8) : Option (List (List UInt8)) := (rowsA [] l).bind (linesA [])

def jn : List (List UInt8) → List UInt8
  | [] => []
  | r :: t => r ++ t.flatMap List.tail
instance (r : List UInt8) : Decidable (clean r) := List.decidableBAll _ r
end Go.Proofs.Ytpaehhlhngilcaa.Tx
end
section
/- what is reached of it -/
namespace Go.Proofs.Ytpaehhlhngilcaa
open Go.RowKit
/-- What a builder's call may turn: block b, and blocks from C on. -/
structure Btw (b C : Nat) (w w' : World) : Prop where
  below : Below b w w'
  mid : ∀ g, b < g → g < C → w'.heap[g]? = w.heap[g]?
theorem Btw.refl (b C : Nat) (w : World) : Btw b C w w := ⟨Below.refl _ _, fun _ _ _ => rfl⟩
theorem Btw.trans {b C : Nat} {w x y : World} (h : Btw b C w x) (k : Btw b C x y) : Btw b C w y := ⟨h.below.trans k.below, fun g h1 h2 => (k.mid g h1 h2).trans (h.mid g h1 h2)⟩
theorem Btw.of {b C D : Nat} {w x : World} (h : Below D w x) (h1 : b ≤ D) (h2 : C ≤ D) : Btw b C w x := ⟨h.mono h1, fun g _ hg => h.block g (by omega)⟩
end Go.Proofs.Ytpaehhlhngilcaa
end
section
/- what is reached of it -/
namespace Go.Proofs.Ytpaehhlhngilcaa
open Go.RowKit Tx
/-- a part of a slice -/
def slv (g cap : Nat) (x : Nat × Nat) : Value := .slice (some ⟨g, x.1, none⟩) (x.2 - x.1) (cap - x.1)
def slvs (g cap : Nat) (l : List (Nat × Nat)) : List Value := l.map (slv g cap)
theorem slvs_get {g cap : Nat} {l : List (Nat × Nat)} {j : Nat} {x : Nat × Nat} (h : l[j]? = some x) : (slvs g cap l)[j]? = some (slv g cap x) := by simp [slvs, h]
attribute [irreducible] slvs
/-- how the gathering stands: R are told, the open row goes from o to k -/
def GStand (bs : List Bool) (R : List (Nat × Nat)) (o k : Nat) : Prop := R.length ≤ k ∧ ivs 0 0 bs = R ++ ivs o k (bs.drop k)
theorem GStand.start (bs : List Bool) : GStand bs [] 0 0 := ⟨Nat.le_refl _, rfl⟩
theorem GStand.done {bs : List Bool} {R : List (Nat × Nat)} {o k : Nat} (h : GStand bs R o k) (hk : bs.length ≤ k) : ivs 0 0 bs = R ++ [(o, k)] := by
  rw [h.2, List.drop_eq_nil_of_le hk]
  rfl
/-- A slice of slices, each a part of the one at g. -/
def Rows2 (C : Nat) (w : World) (v : Value) (g cap : Nat) (l : List (Nat × Nat)) : Prop :=
  ∃ g' cap', v = .slice (some ⟨g', 0, none⟩) l.length cap' ∧ l.length ≤ cap' ∧ C ≤ g' ∧ g' < w.heap.size ∧ ∀ j x, l[j]? = some x → w.cell? ⟨g', j, none⟩ = some (slv g cap x)
theorem Rows2.of {C : Nat} {w : World} {v : Value} {g cap : Nat} {l : List (Nat × Nat)} {e : TypeId} (h : w.ownsRow C e 1 v l.length (slvs g cap l)) (hl : 0 < l.length) : Rows2 C w v g cap l := by
  rcases h.2 with ⟨_, h0⟩ | ⟨g', cap', cur, rfl, hC, hg, hc, _⟩
  · omega
  · refine ⟨g', cap', rfl, hc, hC, lt_of_block hg, fun j x hj => ?_⟩
    have := h.cells (g := g') rfl j _ (slvs_get hj)
    rwa [add_at, Nat.zero_add] at this
end Go.Proofs.Ytpaehhlhngilcaa
end
section
/- what is reached of it -/
namespace Go.Proofs.Ytpaehhlhngilcaa
open Go.RowKit Tx
/-- signs of one byte -/
def Asc (C : ByteArray) : Prop := ∀ i (h : i < C.size), (C[i]'h).toNat < 128
theorem Asc.all {C : ByteArray} (h : Asc C) : ∀ b ∈ C.data.toList, b.toNat < 128 := fun b hb => by
  obtain ⟨i, hi, e⟩ := List.mem_iff_getElem.1 hb
  have hi2 : i < C.size := by rw [Lib.size_eq]; exact hi
  have h2 := Lib.data_getElem? C i hi2
  rw [List.getElem?_eq_getElem hi, e] at h2
  have := h i hi2
  rwa [← Option.some.inj h2] at this
theorem Asc.of {C : ByteArray} (h : C.data.toList.all (fun b => decide (b.toNat < 128)) = true) : Asc C := fun i hi => of_decide_eq_true (List.all_eq_true.1 h _ (List.mem_of_getElem? (Lib.data_getElem? C i hi)))
end Go.Proofs.Ytpaehhlhngilcaa
end
