import Derived.Test.YtbgaglcgennhiaaGreatDoorB24
import Derived.Test.YtbgaglcgennhiaaGreatDoorB05
import Derived.Laws.AppendOwn
import Derived.Test.YtbgaglcgennhiaaGreatDoorB14
import Derived.Test.YtbgaglcgennhiaaGreatDoorB04
import Derived.Test.YtbgaglcgennhiaaGreatDoorB17
import Derived.Lib.OthersKept
import Derived.Scope
import Derived.Deep.RegionWith
import Derived.Test.YtbgaglcgennhiaaGreatDoorShelf
import Derived.ScopeJumps
import Derived.WalkMore
import Derived.Lib.Fold
import Derived.Deep.LoopGhost
import Derived.Laws.RangeString
import Derived.Shelf.Strings.SlTrimAscii
import Derived.Lib.Case
import Derived.Deep.RegionLaw
import Derived.Deep.QuietTactic
import Derived.BigQuiet
import Derived.Lib.Hide
import Derived.Laws.StructEq
import Derived.Lib.SlicesS
import Derived.Deep.Cut
import Derived.Deep.DeepCutAuto
import Derived.Laws.AppendOwnNone
section
/- what is reached of it -/
namespace Go.Proofs.YtbgaglcgennhiaaGreatDoor.Vc
open Go.Lib Tx
/-- A parameter: its name, its value. A property: its group, name, parameters, value. -/
abbrev Par := List UInt8 × List UInt8
abbrev Pr := List UInt8 × List UInt8 × List Par × List UInt8
instance decPr : DecidableEq Pr := @instDecidableEqProd _ _ inferInstance (@instDecidableEqProd _ _ inferInstance (@instDecidableEqProd _ _ inferInstance inferInstance))
def lett (c : UInt8) : Bool := (decide (65 ≤ c.toNat) && decide (c.toNat ≤ 90)) || (decide (97 ≤ c.toNat) && decide (c.toNat ≤ 122))
def wc (c : UInt8) : Bool := lett c || (decide (48 ≤ c.toNat) && decide (c.toNat ≤ 57)) || c == 45
def upC (c : UInt8) : UInt8 := if 97 ≤ c.toNat ∧ c.toNat ≤ 122 then c - 32 else c
def up (l : List UInt8) : List UInt8 := l.map upC
/-- What a parameter's value may have in it without quotes. -/
def free (c : UInt8) : Bool := c != 34 && c != 59 && c != 58 && c != 44
/-- A value behind its "=", and what is behind it. -/
def pvalL : List UInt8 → Option (List UInt8 × List UInt8)
  | 34 :: q => match q.dropWhile (· != 34) with
    | [] => none
    | _ :: m => some (q.takeWhile (· != 34), m)
  | r => some (r.takeWhile free, r.dropWhile free)
/-- A parameter behind its ";". -/
def parL (l : List UInt8) : Option (Par × List UInt8) :=
  if l.takeWhile wc = [] then none else
  match l.dropWhile wc with
  | 61 :: r => (pvalL r).map fun v => ((up (l.takeWhile wc), v.1), v.2)
  | _ => none
/-- As many as there are. -/
def parsF : Nat → List Par → List UInt8 → Option (List Par × List UInt8)
  | 0, ps, l => some (ps, l)
  | f + 1, ps, l => match l with
    | 59 :: r => match parL r with
      | some p => parsF f (ps ++ [p.1]) p.2
      | none => none
    | l => some (ps, l)
/-- Its group, its name, and what is behind them. -/
def headL (l : List UInt8) : List UInt8 × List UInt8 × List UInt8 :=
  match l.takeWhile wc, l.dropWhile wc with
  | c :: w, 46 :: m => (c :: w, up (m.takeWhile wc), m.dropWhile wc)
  | w, r => ([], up w, r)
def propL (l : List UInt8) : Option Pr :=
  if (headL l).2.1 = [] then none else
  match parsF (l.length + 1) [] (headL l).2.2 with
  | some (ps, 58 :: v) => some ((headL l).1, (headL l).2.1, ps, v)
  | _ => none

def beginT : List UInt8 := [66, 69, 71, 73, 78, 58, 86, 67, 65, 82, 68]
def endT : List UInt8 := [69, 78, 68, 58, 86, 67, 65, 82, 68]
def versT : List UInt8 := [86, 69, 82, 83, 73, 79, 78, 58, 52, 46, 48]
def beginN : List UInt8 := [66, 69, 71, 73, 78]
def versN : List UInt8 := [86, 69, 82, 83, 73, 79, 78]
def fourT : List UInt8 := [52, 46, 48]
/-- Where a reader stands: the cards that are whole; is one open, is its first line still to come, what it has. -/
abbrev RSt := List (List Pr) × Option (Bool × List Pr)
/-- One line: what is wrong with it (0: nothing), or what is there behind it. -/
def stepV (st : RSt) (l : List UInt8) : Nat × RSt := match st.2 with
  | none => if up l ≠ beginT then (20, st) else if 60 ≤ st.1.length then (4, st) else (0, (st.1, some (true, [])))
  | some (true, c) => match propL l with
    | some p => if p.2.1 = versN ∧ p.2.2.2 = fourT then (0, (st.1, some (false, c))) else (20, st)
    | none => (20, st)
  | some (false, c) => if up l = endT then (0, (st.1 ++ [c], none)) else match propL l with
    | none => (17, st)
    | some p => if p.2.1 = beginN ∨ p.2.1 = versN then (20, st) else if 40 ≤ c.length then (4, st) else (0, (st.1, some (false, c ++ [p])))
/-- All lines, behind so many: the cards, the line that is wrong, why. -/
def runV : Nat → RSt → List (List UInt8) → List (List Pr) × Nat × Nat
  | n, st, [] => match st.2 with
    | none => (st.1, 0, 0)
    | some _ => ([], n, 20)
  | n, st, l :: t => if (stepV st l).1 = 0 then runV (n + 1) (stepV st l).2 t else ([], n + 1, (stepV st l).1)
def readV (s : List UInt8) : List (List Pr) × Nat × Nat :=
  if 20000 < s.length then ([], 0, 4) else if valid s = false then ([], 0, 3) else match unfold s with
  | none => ([], 0, 17)
  | some ls => runV 0 ([], none) ls

def quoteB (v : List UInt8) : Bool := decide (v = []) || v.any (fun c => c == 59 || c == 58 || c == 44)
def pvalT (v : List UInt8) : List UInt8 := if quoteB v then 34 :: (v ++ [34]) else v
def parT (p : Par) : List UInt8 := 59 :: (p.1 ++ 61 :: pvalT p.2)
def groupT (g : List UInt8) : List UInt8 := if g = [] then [] else g ++ [46]
def lineT (p : Pr) : List UInt8 := groupT p.1 ++ (p.2.1 ++ (p.2.2.1.flatMap parT ++ 58 :: p.2.2.2))
/-- May a property's line be read as it is, within a card? -/
def mayB (p : Pr) : Bool := decide (propL (lineT p) = some p) && valid (lineT p) && (lineT p).all (fun c => c != 10 && c != 13) && decide (p.2.1 ≠ beginN) && decide (p.2.1 ≠ versN) && decide (up (lineT p) ≠ endT)
def cardT (c : List Pr) : List (List UInt8) := beginT :: versT :: (c.map lineT ++ [endT])
def rightV (l : List (List Pr)) : Bool := decide (l.length ≤ 60) && l.all (fun c => decide (c.length ≤ 40) && c.all mayB)
def writeV (l : List (List Pr)) : List UInt8 × Nat :=
  if rightV l then (if 20000 < (foldL (l.flatMap cardT)).length then ([], 4) else (foldL (l.flatMap cardT), 0)) else ([], 12)

end Go.Proofs.YtbgaglcgennhiaaGreatDoor.Vc
end
section
/- what is reached of it -/
namespace Go.Proofs.YtbgaglcgennhiaaGreatDoor.Vc
open Go.Lib Tx
theorem up_word : ∀ c : UInt8, wc c = true → wc (upC c) = true ∧ upC (upC c) = upC c := by
  have h : ∀ n : Nat, n < 256 → wc (UInt8.ofNat n) = true → wc (upC (UInt8.ofNat n)) = true ∧ upC (upC (UInt8.ofNat n)) = upC (UInt8.ofNat n) := by decide +kernel
  intro c hc
  have := h c.toNat c.toNat_lt (by simpa using hc)
  simpa using this
def Word (w : List UInt8) : Prop := w ≠ [] ∧ ∀ c ∈ w, wc c = true
def NameV (n : List UInt8) : Prop := Word n ∧ up n = n
theorem Word.up {w : List UInt8} (h : Word w) : NameV (up w) := by
  refine ⟨⟨fun e => h.1 (List.map_eq_nil_iff.1 e), fun c hc => ?_⟩, ?_⟩
  · obtain ⟨d, hd, rfl⟩ := List.mem_map.1 hc
    exact (up_word d (h.2 d hd)).1
  · unfold Vc.up
    rw [List.map_map]
    exact List.map_congr_left fun c hc => (up_word c (h.2 c hc)).2
theorem flat_len (ts : List Par) : ts.length ≤ (ts.flatMap parT).length := by
  induction ts with
  | nil => exact Nat.le_refl _
  | cons a ts ih =>
    rw [List.flatMap_cons, List.length_append, List.length_cons]
    unfold parT at ih ⊢
    simp only [List.length_cons]
    omega
end Go.Proofs.YtbgaglcgennhiaaGreatDoor.Vc
end
section
/- what is reached of it -/
namespace Go.Proofs.YtbgaglcgennhiaaGreatDoor
open Go.RowKit Vc
/-- Four cells of a property. -/
def AtP (w : World) (p : Addr) (x : Pr) (u : Value) : Prop := w.cell? p = some (.string (bts x.1)) ∧ w.cell? ⟨p.block, p.off + 1, none⟩ = some (.string (bts x.2.1)) ∧ w.cell? ⟨p.block, p.off + 2, none⟩ = some u ∧ w.cell? ⟨p.block, p.off + 3, none⟩ = some (.string (bts x.2.2.2))
theorem AtP.of {w w' : World} {p : Addr} {x : Pr} {u : Value} (h : AtP w p x u) (hb : w'.heap[p.block]? = w.heap[p.block]?) : AtP w' p x u := by
  have hk : ∀ j s, w'.cell? ⟨p.block, j, s⟩ = w.cell? ⟨p.block, j, s⟩ := fun j s => World.cell?_of_block (a := ⟨p.block, j, s⟩) hb
  obtain ⟨h0, h1, h2, h3⟩ := h
  refine ⟨?_, ?_, ?_, ?_⟩
  · exact (hk p.off p.spot).trans h0
  · rw [hk]; exact h1
  · rw [hk]; exact h2
  · rw [hk]; exact h3
/-- A slice of properties that can be read. -/
def ReadP (w : World) (v : Value) (ps : List Pr) : Prop := ∃ A cap, v = .slice A ps.length cap ∧ (0 < ps.length → ∃ ad : Addr, A = some ad ∧ ad.block < w.heap.size ∧ ∀ i x, ps[i]? = some x → ∃ u, AtP w (ad.add (i * 4)) x u ∧ ReadA w u x.2.2.1)
theorem ReadP.below {w w' : World} {v : Value} {ps : List Pr} (h : ReadP w v ps) (hb : Below w.heap.size w w') : ReadP w' v ps := by
  obtain ⟨A, cap, rfl, h2⟩ := h
  refine ⟨A, cap, rfl, fun h0 => ?_⟩
  obtain ⟨ad, rfl, hl, hc⟩ := h2 h0
  refine ⟨ad, rfl, Nat.lt_of_lt_of_le hl hb.size, fun i x hi => ?_⟩
  obtain ⟨u, h3, h4⟩ := hc i x hi
  exact ⟨u, h3.of (hb.block _ (by rw [addBlock]; exact hl)), h4.below hb⟩
theorem ReadP.nil (w : World) : ReadP w (.slice none 0 0) [] := ⟨none, 0, rfl, fun h => absurd h (Nat.not_lt_zero _)⟩
theorem ReadP.slice {w : World} {v : Value} {ps : List Pr} (h : ReadP w v ps) : ∃ A cap, v = .slice A ps.length cap := by
  obtain ⟨A, cap, rfl, _⟩ := h
  exact ⟨A, cap, rfl⟩
theorem ReadP.one {w : World} {v : Value} {ps : List Pr} (h : ReadP w v ps) : v.oneCell' = true := by
  obtain ⟨A, cap, rfl, _⟩ := h
  rfl

end Go.Proofs.YtbgaglcgennhiaaGreatDoor
end
section
/- what is reached of it -/
namespace Go.Proofs.YtbgaglcgennhiaaGreatDoor.Vc
open Go.Lib Tx
def Good (l : List UInt8) : Prop := clean l ∧ valid l = true
end Go.Proofs.YtbgaglcgennhiaaGreatDoor.Vc
end
section
/- what is reached of it -/
namespace Go.Proofs.YtbgaglcgennhiaaGreatDoor
open Go.RowKit Tx
/-- The character that a sign of one byte folds to. -/
def foldN (x : Nat) : Nat := if 65 ≤ x ∧ x ≤ 90 then x + 32 else if x = 107 then 8490 else if x = 115 then 383 else if 97 ≤ x ∧ x ≤ 122 then x - 32 else x
/-- a mark of such signs -/
def Plainly (M : ByteArray) : Prop := ∀ i (h : i < M.size), (M[i]'h).toNat < 128 ∧ (foldN (M[i]'h).toNat = (M[i]'h).toNat ∨ foldN (M[i]'h).toNat < 128 ∧ foldN (foldN (M[i]'h).toNat) = (M[i]'h).toNat ∧ foldN (M[i]'h).toNat ≠ (M[i]'h).toNat)
theorem Plainly.of {M : ByteArray} (h : M.data.toList.all (fun b => decide (b.toNat < 128 ∧ (foldN b.toNat = b.toNat ∨ foldN b.toNat < 128 ∧ foldN (foldN b.toNat) = b.toNat ∧ foldN b.toNat ≠ b.toNat))) = true) : Plainly M := fun i hi => of_decide_eq_true (List.all_eq_true.1 h _ (List.mem_of_getElem? (Lib.data_getElem? M i hi)))

/-- How the call stands where it leaves its first loop for a sign of more than one byte. -/
def JumpE (s M : ByteArray) (w : World) (a' : Act) (w' : World) : Prop := ∃ (i : Nat) (u : Nat → Value), a' = { tmps := #[.string s, .string M, u 2, u 3, u 4, .int .i64 (i : Nat), u 6, u 7, u 8, u 9, u 10, u 11, u 12, u 13, u 14, u 15, u 16, u 17, u 18, u 19, u 20, u 21, u 22, u 23, u 24, u 25, u 26, u 27, u 28, u 29, u 30, u 31, u 32, u 33, u 34, u 35, u 36, u 37, u 38, u 39, u 40, u 41, u 42, u 43, u 44, u 45, u 46, u 47, u 48, u 49, u 50, u 51, u 52, u 53, u 54, u 55, u 56, u 57, u 58, u 59, u 60, u 61, u 62, u 63, u 64, u 65, u 66, u 67, u 68, u 69, u 70, u 71, u 72, u 73, u 74, u 75, u 76, u 77, u 78, u 79, u 80, u 81, u 82, u 83, u 84, u 85, u 86, u 87, u 88, u 89, u 90, u 91, u 92, u 93, u 94, u 95, u 96, u 97, u 98, u 99, u 100, u 101, u 102, u 103, u 104, u 105, u 106, u 107, u 108, u 109, u 110, u 111, u 112, u 113, u 114, u 115, u 116, u 117, u 118, u 119, u 120, u 121, u 122], defers := [] } ∧ w' = w ∧ i < s.size ∧ i < M.size ∧ Hid (∃ x : UInt8, s.data.toList[i]? = some x ∧ 128 ≤ x.toNat)
theorem JumpE.mk {s M : ByteArray} {w : World} {a' : Act} {w' : World} (i : Nat) (h : a' = { tmps := #[.string s, .string M, a'.tmps.getD 2 undef, a'.tmps.getD 3 undef, a'.tmps.getD 4 undef, .int .i64 (i : Nat), a'.tmps.getD 6 undef, a'.tmps.getD 7 undef, a'.tmps.getD 8 undef, a'.tmps.getD 9 undef, a'.tmps.getD 10 undef, a'.tmps.getD 11 undef, a'.tmps.getD 12 undef, a'.tmps.getD 13 undef, a'.tmps.getD 14 undef, a'.tmps.getD 15 undef, a'.tmps.getD 16 undef, a'.tmps.getD 17 undef, a'.tmps.getD 18 undef, a'.tmps.getD 19 undef, a'.tmps.getD 20 undef, a'.tmps.getD 21 undef, a'.tmps.getD 22 undef, a'.tmps.getD 23 undef, a'.tmps.getD 24 undef, a'.tmps.getD 25 undef, a'.tmps.getD 26 undef, a'.tmps.getD 27 undef, a'.tmps.getD 28 undef, a'.tmps.getD 29 undef, a'.tmps.getD 30 undef, a'.tmps.getD 31 undef, a'.tmps.getD 32 undef, a'.tmps.getD 33 undef, a'.tmps.getD 34 undef, a'.tmps.getD 35 undef, a'.tmps.getD 36 undef, a'.tmps.getD 37 undef, a'.tmps.getD 38 undef, a'.tmps.getD 39 undef, a'.tmps.getD 40 undef, a'.tmps.getD 41 undef, a'.tmps.getD 42 undef, a'.tmps.getD 43 undef, a'.tmps.getD 44 undef, a'.tmps.getD 45 undef, a'.tmps.getD 46 undef, a'.tmps.getD 47 undef, a'.tmps.getD 48 undef, a'.tmps.getD 49 undef, a'.tmps.getD 50 undef, a'.tmps.getD 51 undef, a'.tmps.getD 52 undef, a'.tmps.getD 53 undef, a'.tmps.getD 54 undef, a'.tmps.getD 55 undef, a'.tmps.getD 56 undef, a'.tmps.getD 57 undef, a'.tmps.getD 58 undef, a'.tmps.getD 59 undef, a'.tmps.getD 60 undef, a'.tmps.getD 61 undef, a'.tmps.getD 62 undef, a'.tmps.getD 63 undef, a'.tmps.getD 64 undef, a'.tmps.getD 65 undef, a'.tmps.getD 66 undef, a'.tmps.getD 67 undef, a'.tmps.getD 68 undef, a'.tmps.getD 69 undef, a'.tmps.getD 70 undef, a'.tmps.getD 71 undef, a'.tmps.getD 72 undef, a'.tmps.getD 73 undef, a'.tmps.getD 74 undef, a'.tmps.getD 75 undef, a'.tmps.getD 76 undef, a'.tmps.getD 77 undef, a'.tmps.getD 78 undef, a'.tmps.getD 79 undef, a'.tmps.getD 80 undef, a'.tmps.getD 81 undef, a'.tmps.getD 82 undef, a'.tmps.getD 83 undef, a'.tmps.getD 84 undef, a'.tmps.getD 85 undef, a'.tmps.getD 86 undef, a'.tmps.getD 87 undef, a'.tmps.getD 88 undef, a'.tmps.getD 89 undef, a'.tmps.getD 90 undef, a'.tmps.getD 91 undef, a'.tmps.getD 92 undef, a'.tmps.getD 93 undef, a'.tmps.getD 94 undef, a'.tmps.getD 95 undef, a'.tmps.getD 96 undef, a'.tmps.getD 97 undef, a'.tmps.getD 98 undef, a'.tmps.getD 99 undef, a'.tmps.getD 100 undef, a'.tmps.getD 101 undef, a'.tmps.getD 102 undef, a'.tmps.getD 103 undef, a'.tmps.getD 104 undef, a'.tmps.getD 105 undef, a'.tmps.getD 106 undef, a'.tmps.getD 107 undef, a'.tmps.getD 108 undef, a'.tmps.getD 109 undef, a'.tmps.getD 110 undef, a'.tmps.getD 111 undef, a'.tmps.getD 112 undef, a'.tmps.getD 113 undef, a'.tmps.getD 114 undef, a'.tmps.getD 115 undef, a'.tmps.getD 116 undef, a'.tmps.getD 117 undef, a'.tmps.getD 118 undef, a'.tmps.getD 119 undef, a'.tmps.getD 120 undef, a'.tmps.getD 121 undef, a'.tmps.getD 122 undef], defers := [] }) (h1 : w' = w) (h2 : i < s.size) (h3 : i < M.size) (h4 : Hid (∃ x : UInt8, s.data.toList[i]? = some x ∧ 128 ≤ x.toNat)) : JumpE s M w a' w' := ⟨i, fun n => a'.tmps.getD n undef, h, h1, h2, h3, h4⟩
theorem Plainly.all {M : ByteArray} (h : Plainly M) : ∀ b ∈ M.data.toList, b.toNat < 128 := fun b hb => by
  obtain ⟨i, hi, e⟩ := List.mem_iff_getElem.1 hb
  have hi2 : i < M.size := by rw [Lib.size_eq]; exact hi
  have h2 := Lib.data_getElem? M i hi2
  rw [List.getElem?_eq_getElem hi, e] at h2
  have := (h i hi2).1
  rwa [← Option.some.inj h2] at this
end Go.Proofs.YtbgaglcgennhiaaGreatDoor
end
section
/- what is reached of it -/
namespace Go.Proofs.YtbgaglcgennhiaaGreatDoor
open Go.RowKit Vc
theorem drop_le (p : UInt8 → Bool) (l : List UInt8) : (l.dropWhile p).length ≤ l.length := (List.dropWhile_sublist p).length_le
theorem take_le (p : UInt8 → Bool) (l : List UInt8) : (l.takeWhile p).length ≤ l.length := (List.takeWhile_sublist p).length_le
theorem pval_le {r v m : List UInt8} (h : pvalL r = some (v, m)) : v.length ≤ r.length ∧ m.length ≤ r.length := by
  unfold pvalL at h
  split at h
  · rename_i q
    split at h
    · cases h
    · rename_i m' hm
      injection h with h
      injection h with h1 h2
      have a := take_le (· != 34) q
      have b := drop_le (· != 34) q
      rw [hm] at b
      rw [← h1, ← h2]
      simp only [List.length_cons] at b ⊢
      omega
  · injection h with h
    injection h with h1 h2
    rw [← h1, ← h2]
    exact ⟨take_le _ _, drop_le _ _⟩
theorem par_le {r m : List UInt8} {a : Par} (h : parL r = some (a, m)) : m.length ≤ r.length ∧ a.1.length ≤ r.length ∧ a.2.length ≤ r.length := by
  unfold parL at h
  split at h
  · cases h
  · split at h
    · rename_i q hq
      obtain ⟨v, hv, e⟩ := Option.map_eq_some_iff.1 h
      obtain ⟨h1, h2⟩ := pval_le (v := v.1) (m := v.2) hv
      injection e with e1 e2
      have a := drop_le wc r
      have b := take_le wc r
      rw [hq] at a
      subst e1 e2
      simp only [List.length_cons] at a
      refine ⟨by omega, ?_, by show v.1.length ≤ _; omega⟩
      show (up (r.takeWhile wc)).length ≤ _
      unfold up
      rw [List.length_map]
      exact b
    · cases h
theorem pars_fuel : ∀ (f g : Nat) (t : List UInt8) (ps : List Par), t.length < f → t.length < g → parsF f ps t = parsF g ps t
  | 0, _, _, _, h, _ => by omega
  | _, 0, _, _, _, h => by omega
  | f + 1, g + 1, t, ps, hf, hg => by
    unfold parsF
    cases t with
    | nil => rfl
    | cons c r =>
      by_cases hc : c = 59
      · subst hc
        simp only
        cases hp : parL r with
        | none => rfl
        | some p =>
          obtain ⟨h1, -⟩ := par_le (a := p.1) (m := p.2) hp
          simp only [List.length_cons] at hf hg
          exact pars_fuel f g p.2 (ps ++ [p.1]) (by omega) (by omega)
      · split
        · rename_i e; injection e with e; exact absurd e hc
        · rfl
theorem pars_more (f : Nat) (ps : List Par) (r : List UInt8) : parsF (f + 1) ps (59 :: r) = match parL r with
    | some p => parsF f (ps ++ [p.1]) p.2
    | none => none := rfl
/-- How the parameters stand: ps are told, t is left. -/
def PStandV (l : List UInt8) (ps : List Par) (t : List UInt8) : Prop := t.length ≤ l.length ∧ parsF (l.length + 1) [] l = parsF (t.length + 1) ps t ∧ ps.length ≤ l.length - t.length
theorem PStandV.start (l : List UInt8) : PStandV l [] l := ⟨Nat.le_refl _, rfl, Nat.zero_le _⟩
theorem PStandV.stop {l t : List UInt8} {ps : List Par} (h : PStandV l ps t) (ht : t.head? ≠ some 59) : parsF (l.length + 1) [] l = some (ps, t) := by
  rw [h.2.1]
  unfold parsF
  cases t with
  | nil => rfl
  | cons c r =>
    split
    · rename_i e; injection e with e; exact absurd (by rw [e]; rfl) ht
    · rfl
theorem PStandV.bad {l r : List UInt8} {ps : List Par} (h : PStandV l ps (59 :: r)) (hp : parL r = none) : parsF (l.length + 1) [] l = none := by
  rw [h.2.1, List.length_cons, pars_more, hp]
theorem PStandV.on {l r m : List UInt8} {ps : List Par} {a : Par} (h : PStandV l ps (59 :: r)) (hp : parL r = some (a, m)) : PStandV l (ps ++ [a]) m ∧ m.length < r.length + 1 := by
  obtain ⟨h1, h2, h3⟩ := h
  obtain ⟨h4, -⟩ := par_le hp
  simp only [List.length_cons] at h1 h3
  refine ⟨⟨by omega, ?_, by simp only [List.length_append, List.length_cons, List.length_nil]; omega⟩, by omega⟩
  rw [h2, List.length_cons, pars_more, hp]
  exact pars_fuel (r.length + 1) (m.length + 1) m _ (by omega) (by omega)
end Go.Proofs.YtbgaglcgennhiaaGreatDoor
end
section
/- what is reached of it -/
namespace Go.Proofs.YtbgaglcgennhiaaGreatDoor
open Go.RowKit Vc
/-- a store into a block -/
theorem Bk.stored {w : World} {g k : Nat} {t tk : TypeId} {cs ck : Array Value} (hk : Bk w k tk ck) (hg : Bk w g t cs) (ht : tk ≠ t) (o : Nat) (x : Value) : Bk (w.setCell ⟨g, o, none⟩ x) k tk ck :=
  (Below.heap_setCell _ _ _ _ (Bk.type_ne hk hg ht)).trans hk
end Go.Proofs.YtbgaglcgennhiaaGreatDoor
end
section
/- what is reached of it -/
namespace Go.Proofs.YtbgaglcgennhiaaGreatDoor
open Go.RowKit Vc
/-- A slice of slices of properties that can be read. -/
def ReadV (w : World) (v : Value) (cs : List (List Pr)) : Prop := ∃ A cap, v = .slice A cs.length cap ∧ (0 < cs.length → ∃ ad : Addr, A = some ad ∧ ad.block < w.heap.size ∧ ∀ i c, cs[i]? = some c → ∃ u, w.cell? (ad.add i) = some u ∧ ReadP w u c)
theorem ReadV.below {w w' : World} {v : Value} {cs : List (List Pr)} (h : ReadV w v cs) (hb : Below w.heap.size w w') : ReadV w' v cs := by
  obtain ⟨A, cap, rfl, h2⟩ := h
  refine ⟨A, cap, rfl, fun h0 => ?_⟩
  obtain ⟨ad, rfl, hl, hc⟩ := h2 h0
  refine ⟨ad, rfl, Nat.lt_of_lt_of_le hl hb.size, fun i c hi => ?_⟩
  obtain ⟨u, h3, h4⟩ := hc i c hi
  exact ⟨u, by rw [hb.cell (by rw [addBlock]; exact hl)]; exact h3, h4.below hb⟩
theorem ReadV.nil (w : World) : ReadV w (.slice none 0 0) [] := ⟨none, 0, rfl, fun h => absurd h (Nat.not_lt_zero _)⟩
theorem ReadV.slice {w : World} {v : Value} {cs : List (List Pr)} (h : ReadV w v cs) : ∃ A cap, v = .slice A cs.length cap := by
  obtain ⟨A, cap, rfl, _⟩ := h
  exact ⟨A, cap, rfl⟩
end Go.Proofs.YtbgaglcgennhiaaGreatDoor
end
section
/- what is reached of it -/
namespace Go.Proofs.YtbgaglcgennhiaaGreatDoor
open Go.RowKit Vc
/-- What Read answers. -/
def ReadsV (B : Nat) (w : World) (l : List UInt8) (e : Ending) (w' : World) : Prop :=
  (∃ v, e = .returned (.tuple #[v, .int .i64 ((readV l).2.1 : Nat), .int .i64 ((readV l).2.2 : Nat)]) ∧ ReadV w' v (readV l).1) ∧ Below B w w'
theorem ReadsV.of {B : Nat} {w w' : World} {l : List UInt8} {v : Value} {r : List (List Pr) × Nat × Nat} {z1 z2 : Int} (h : readV l = r) (hv : ReadV w' v r.1) (h1 : (r.2.1 : Int) = z1) (h2 : (r.2.2 : Int) = z2) (hb : Below B w w') : ReadsV B w l (.returned (.tuple #[v, .int .i64 z1, .int .i64 z2])) w' := by
  subst h h1 h2
  exact ⟨⟨v, rfl, hv⟩, hb⟩
end Go.Proofs.YtbgaglcgennhiaaGreatDoor
end
section
/- what is reached of it -/
namespace Go.Proofs.YtbgaglcgennhiaaGreatDoor
open Go.RowKit Vc
theorem OwnT.kept {B : Nat} {w w' : World} {v : Value} {x : List ByteArray} (h : OwnT B w v x) (hb : ∀ g, v.ownBlock = Option.some g → w'.heap[g]? = w.heap[g]?) : OwnT B w' v x :=
  ⟨h.1, h.2.imp id fun ⟨g, cap, cur, k1, k2, k3, k4⟩ => ⟨g, cap, cur, k1, k2, (hb g (by rw [k1]; rfl)).trans k3, k4⟩⟩
end Go.Proofs.YtbgaglcgennhiaaGreatDoor
end
