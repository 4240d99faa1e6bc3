import Derived.Test.YtogjhpcjjmcjfaaGreatDoorI36
import Derived.Test.YtogjhpcjjmcjfaaGreatDoorI30
import Derived.Laws.AppendOwn
section
/- what is reached of it -/
namespace Go.Proofs.YtogjhpcjjmcjfaaGreatDoor.Vc
open Go.Lib Tx
/-- A parameter: its name, its value. A property: its group, name, parameters, value. -/
abbrev Par := List UInt8 × List UInt8
abbrev Pr := List UInt8 × List UInt8 × List Par × List UInt8
instance decPr : DecidableEq Pr := @instDecidableEqProd _ _ inferInstance (@instDecidableEqProd _ _ inferInstance (@instDecidableEqProd _ _ inferInstance inferInstance))
def lett (c : UInt8) : Bool := (decide (65 ≤ c.toNat) && decide (c.toNat ≤ 90)) || (decide (97 ≤ c.toNat) && decide (c.toNat ≤ 122))
def wc (c : UInt8) : Bool := lett c || (decide (48 ≤ c.toNat) && decide (c.toNat ≤ 57)) || c == 45
def upC (c : UInt8) : UInt8 := if 97 ≤ c.toNat ∧ c.toNat ≤ 122 then c - 32 else c
def up (l : List UInt8) : List UInt8 := l.map upC
/-- What a parameter's value may have in it without quotes. -/
def free (c : UInt8) : Bool := c != 34 && c != 59 && c != 58 && c != 44
/-- A value behind its "=", and what is behind it. -/
def pvalL : List UInt8 → Option (List UInt8 × List UInt8)
  | 34 :: q => match q.dropWhile (· != 34) with
    | [] => none
    | _ :: m => some (q.takeWhile (· != 34), m)
  | r => some (r.takeWhile free, r.dropWhile free)
/-- A parameter behind its ";". -/
def parL (l : List UInt8) : Option (Par × List UInt8) :=
  if l.takeWhile wc = [] then none else
  match l.dropWhile wc with
  | 61 :: r => (pvalL r).map fun v => ((up (l.takeWhile wc), v.1), v.2)
  | _ => none
/-- As many as there are. -/
def parsF : Nat → List Par → List UInt8 → Option (List Par × List UInt8)
  | 0, ps, l => some (ps, l)
  | f + 1, ps, l => match l with
    | 59 :: r => match parL r with
      | some p => parsF f (ps ++ [p.1]) p.2
      | none => none
    | l => some (ps, l)
/-- Its group, its name, and what is behind them. -/
def headL (l : List UInt8) : List UInt8 × List UInt8 × List UInt8 :=
  match l.takeWhile wc, l.dropWhile wc with
  | c :: w, 46 :: m => (c :: w, up (m.takeWhile wc), m.dropWhile wc)
  | w, r => ([], up w, r)
def propL (l : List UInt8) : Option Pr :=
  if (headL l).2.1 = [] then none else
  match parsF (l.length + 1) [] (headL l).2.2 with
  | some (ps, 58 :: v) => some ((headL l).1, (headL l).2.1, ps, v)
  | _ => none

def beginT : List UInt8 := [66, 69, 71, 73, 78, 58, 86, 67, 65, 82, 68]
def endT : List UInt8 := [69, 78, 68, 58, 86, 67, 65, 82, 68]
def beginN : List UInt8 := [66, 69, 71, 73, 78]
def versN : List UInt8 := [86, 69, 82, 83, 73, 79, 78]
def fourT : List UInt8 := [52, 46, 48]
/-- Where a reader stands: the cards that are whole; is one open, is its first line still to come, what it has. -/
abbrev RSt := List (List Pr) × Option (Bool × List Pr)
/-- One line: what is wrong with it (0: nothing), or what is there behind it. -/
def stepV (st : RSt) (l : List UInt8) : Nat × RSt := match st.2 with
  | none => if up l ≠ beginT then (20, st) else if 60 ≤ st.1.length then (4, st) else (0, (st.1, some (true, [])))
  | some (true, c) => match propL l with
    | some p => if p.2.1 = versN ∧ p.2.2.2 = fourT then (0, (st.1, some (false, c))) else (20, st)
    | none => (20, st)
  | some (false, c) => if up l = endT then (0, (st.1 ++ [c], none)) else match propL l with
    | none => (17, st)
    | some p => if p.2.1 = beginN ∨ p.2.1 = versN then (20, st) else if 40 ≤ c.length then (4, st) else (0, (st.1, some (false, c ++ [p])))
/-- All lines, behind so many: the cards, the line that is wrong, why. -/
def runV : Nat → RSt → List (List UInt8) → List (List Pr) × Nat × Nat
  | n, st, [] => match st.2 with
    | none => (st.1, 0, 0)
    | some _ => ([], n, 20)
  | n, st, l :: t => if (stepV st l).1 = 0 then runV (n + 1) (stepV st l).2 t else ([], n + 1, (stepV st l).1)
def readV (s : List UInt8) : List (List Pr) × Nat × Nat :=
  if 20000 < s.length then ([], 0, 4) else if valid s = false then ([], 0, 3) else match unfold s with
  | none => ([], 0, 17)
  | some ls => runV 0 ([], none) ls

def quoteB (v : List UInt8) : Bool := decide (v = []) || v.any (fun c => c == 59 || c == 58 || c == 44)
def pvalT (v : List UInt8) : List UInt8 := if quoteB v then 34 :: (v ++ [34]) else v
def parT (p : Par) : List UInt8 := 59 :: (p.1 ++ 61 :: pvalT p.2)
end Go.Proofs.YtogjhpcjjmcjfaaGreatDoor.Vc
end
section
/- what is reached of it -/
namespace Go.Proofs.YtogjhpcjjmcjfaaGreatDoor.Vc
open Go.Lib Tx
theorem up_word : ∀ c : UInt8, wc c = true → wc (upC c) = true ∧ upC (upC c) = upC c := by
  have h : ∀ n : Nat, n < 256 → wc (UInt8.ofNat n) = true → wc (upC (UInt8.ofNat n)) = true ∧ upC (upC (UInt8.ofNat n)) = upC (UInt8.ofNat n) := by decide +kernel
  intro c hc
  have := h c.toNat c.toNat_lt (by simpa using hc)
  simpa using this
def Word (w : List UInt8) : Prop := w ≠ [] ∧ ∀ c ∈ w, wc c = true
def NameV (n : List UInt8) : Prop := Word n ∧ up n = n
theorem Word.up {w : List UInt8} (h : Word w) : NameV (up w) := by
  refine ⟨⟨fun e => h.1 (List.map_eq_nil_iff.1 e), fun c hc => ?_⟩, ?_⟩
  · obtain ⟨d, hd, rfl⟩ := List.mem_map.1 hc
    exact (up_word d (h.2 d hd)).1
  · unfold Vc.up
    rw [List.map_map]
    exact List.map_congr_left fun c hc => (up_word c (h.2 c hc)).2
theorem flat_len (ts : List Par) : ts.length ≤ (ts.flatMap parT).length := by
  induction ts with
  | nil => exact Nat.le_refl _
  | cons a ts ih =>
    rw [List.flatMap_cons, List.length_append, List.length_cons]
    unfold parT at ih ⊢
    simp only [List.length_cons]
    omega
end Go.Proofs.YtogjhpcjjmcjfaaGreatDoor.Vc
end
section
/- what is reached of it -/
namespace Go.Proofs.YtogjhpcjjmcjfaaGreatDoor
open Go.RowKit Vc
/-- Four cells of a property. -/
def AtP (w : World) (p : Addr) (x : Pr) (u : Value) : Prop := w.cell? p = some (.string (bts x.1)) ∧ w.cell? ⟨p.block, p.off + 1, none⟩ = some (.string (bts x.2.1)) ∧ w.cell? ⟨p.block, p.off + 2, none⟩ = some u ∧ w.cell? ⟨p.block, p.off + 3, none⟩ = some (.string (bts x.2.2.2))
theorem AtP.of {w w' : World} {p : Addr} {x : Pr} {u : Value} (h : AtP w p x u) (hb : w'.heap[p.block]? = w.heap[p.block]?) : AtP w' p x u := by
  have hk : ∀ j s, w'.cell? ⟨p.block, j, s⟩ = w.cell? ⟨p.block, j, s⟩ := fun j s => World.cell?_of_block (a := ⟨p.block, j, s⟩) hb
  obtain ⟨h0, h1, h2, h3⟩ := h
  refine ⟨?_, ?_, ?_, ?_⟩
  · exact (hk p.off p.spot).trans h0
  · rw [hk]; exact h1
  · rw [hk]; exact h2
  · rw [hk]; exact h3
/-- A slice of properties that can be read. -/
def ReadP (w : World) (v : Value) (ps : List Pr) : Prop := ∃ A cap, v = .slice A ps.length cap ∧ (0 < ps.length → ∃ ad : Addr, A = some ad ∧ ad.block < w.heap.size ∧ ∀ i x, ps[i]? = some x → ∃ u, AtP w (ad.add (i * 4)) x u ∧ ReadA w u x.2.2.1)
theorem ReadP.below {w w' : World} {v : Value} {ps : List Pr} (h : ReadP w v ps) (hb : Below w.heap.size w w') : ReadP w' v ps := by
  obtain ⟨A, cap, rfl, h2⟩ := h
  refine ⟨A, cap, rfl, fun h0 => ?_⟩
  obtain ⟨ad, rfl, hl, hc⟩ := h2 h0
  refine ⟨ad, rfl, Nat.lt_of_lt_of_le hl hb.size, fun i x hi => ?_⟩
  obtain ⟨u, h3, h4⟩ := hc i x hi
  exact ⟨u, h3.of (hb.block _ (by rw [addBlock]; exact hl)), h4.below hb⟩
theorem ReadP.nil (w : World) : ReadP w (.slice none 0 0) [] := ⟨none, 0, rfl, fun h => absurd h (Nat.not_lt_zero _)⟩
theorem ReadP.slice {w : World} {v : Value} {ps : List Pr} (h : ReadP w v ps) : ∃ A cap, v = .slice A ps.length cap := by
  obtain ⟨A, cap, rfl, _⟩ := h
  exact ⟨A, cap, rfl⟩
theorem ReadP.one {w : World} {v : Value} {ps : List Pr} (h : ReadP w v ps) : v.oneCell' = true := by
  obtain ⟨A, cap, rfl, _⟩ := h
  rfl

end Go.Proofs.YtogjhpcjjmcjfaaGreatDoor
end
section
/- what is reached of it -/
namespace Go.Proofs.YtogjhpcjjmcjfaaGreatDoor.Vc
open Go.Lib Tx
def Good (l : List UInt8) : Prop := clean l ∧ valid l = true
end Go.Proofs.YtogjhpcjjmcjfaaGreatDoor.Vc
end
