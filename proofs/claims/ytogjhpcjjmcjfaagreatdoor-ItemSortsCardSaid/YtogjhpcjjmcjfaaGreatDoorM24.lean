import Derived.Test.YtogjhpcjjmcjfaaGreatDoorM19
import Derived.Test.YtogjhpcjjmcjfaaGreatDoorM04
import Derived.Laws.AppendOwn
import Derived.Test.YtogjhpcjjmcjfaaGreatDoorRows
import Derived.Test.YtogjhpcjjmcjfaaGreatDoorShelf
import Derived.Lib.FrozenHead2
import Derived.WalkKit
import Derived.WalkSpells
import Derived.WalkLawsBesides
import Derived.Test.YtogjhpcjjmcjfaaGreatDoorM20
import Derived.Lib.OthersKept
import Derived.Scope
import Derived.Deep.RegionWith
import Derived.Deep.QuietTactic
import Derived.BigQuiet
import Derived.Test.YtogjhpcjjmcjfaaGreatDoorM10
import Derived.Laws.MakeOwn
import Derived.Laws.OwnMore
section
/- what is reached of it -/
namespace Go.Proofs.YtogjhpcjjmcjfaaGreatDoor.Tx
open Go.Lib
theorem ends_valid : ∀ rs : List (List UInt8), (∀ r ∈ rs, valid r = true) → valid (ends rs) = true
  | [], _ => valid_some ch_nil
  | r :: t, h => by
    rw [ends_cons]
    exact (valid_append (h r (by simp)) (valid_append (a := [13, 10]) (by decide +kernel) (ends_valid t (fun x hx => h x (by simp [hx])))).1).1
/-- lines that may be folded, and come back -/
def Fine (l : List UInt8) : Prop := clean l ∧ valid l = true ∧ cont l = false
end Go.Proofs.YtogjhpcjjmcjfaaGreatDoor.Tx
end
section
/- what is reached of it -/
namespace Go.Proofs.YtogjhpcjjmcjfaaGreatDoor.Vc
open Go.Lib Tx
/-- A parameter: its name, its value. A property: its group, name, parameters, value. -/
abbrev Par := List UInt8 × List UInt8
abbrev Pr := List UInt8 × List UInt8 × List Par × List UInt8
instance decPr : DecidableEq Pr := @instDecidableEqProd _ _ inferInstance (@instDecidableEqProd _ _ inferInstance (@instDecidableEqProd _ _ inferInstance inferInstance))
def lett (c : UInt8) : Bool := (decide (65 ≤ c.toNat) && decide (c.toNat ≤ 90)) || (decide (97 ≤ c.toNat) && decide (c.toNat ≤ 122))
def wc (c : UInt8) : Bool := lett c || (decide (48 ≤ c.toNat) && decide (c.toNat ≤ 57)) || c == 45
def upC (c : UInt8) : UInt8 := if 97 ≤ c.toNat ∧ c.toNat ≤ 122 then c - 32 else c
def up (l : List UInt8) : List UInt8 := l.map upC
/-- What a parameter's value may have in it without quotes. -/
def free (c : UInt8) : Bool := c != 34 && c != 59 && c != 58 && c != 44
/-- A value behind its "=", and what is behind it. -/
def pvalL : List UInt8 → Option (List UInt8 × List UInt8)
  | 34 :: q => match q.dropWhile (· != 34) with
    | [] => none
    | _ :: m => some (q.takeWhile (· != 34), m)
  | r => some (r.takeWhile free, r.dropWhile free)
/-- A parameter behind its ";". -/
def parL (l : List UInt8) : Option (Par × List UInt8) :=
  if l.takeWhile wc = [] then none else
  match l.dropWhile wc with
  | 61 :: r => (pvalL r).map fun v => ((up (l.takeWhile wc), v.1), v.2)
  | _ => none
/-- As many as there are. -/
def parsF : Nat → List Par → List UInt8 → Option (List Par × List UInt8)
  | 0, ps, l => some (ps, l)
  | f + 1, ps, l => match l with
    | 59 :: r => match parL r with
      | some p => parsF f (ps ++ [p.1]) p.2
      | none => none
    | l => some (ps, l)
/-- Its group, its name, and what is behind them. -/
def headL (l : List UInt8) : List UInt8 × List UInt8 × List UInt8 :=
  match l.takeWhile wc, l.dropWhile wc with
  | c :: w, 46 :: m => (c :: w, up (m.takeWhile wc), m.dropWhile wc)
  | w, r => ([], up w, r)
def propL (l : List UInt8) : Option Pr :=
  if (headL l).2.1 = [] then none else
  match parsF (l.length + 1) [] (headL l).2.2 with
  | some (ps, 58 :: v) => some ((headL l).1, (headL l).2.1, ps, v)
  | _ => none

def beginT : List UInt8 := [66, 69, 71, 73, 78, 58, 86, 67, 65, 82, 68]
def endT : List UInt8 := [69, 78, 68, 58, 86, 67, 65, 82, 68]
def versT : List UInt8 := [86, 69, 82, 83, 73, 79, 78, 58, 52, 46, 48]
def beginN : List UInt8 := [66, 69, 71, 73, 78]
def versN : List UInt8 := [86, 69, 82, 83, 73, 79, 78]
def fourT : List UInt8 := [52, 46, 48]
/-- Where a reader stands: the cards that are whole; is one open, is its first line still to come, what it has. -/
abbrev RSt := List (List Pr) × Option (Bool × List Pr)
/-- One line: what is wrong with it (0: nothing), or what is there behind it. -/
def stepV (st : RSt) (l : List UInt8) : Nat × RSt := match st.2 with
  | none => if up l ≠ beginT then (20, st) else if 60 ≤ st.1.length then (4, st) else (0, (st.1, some (true, [])))
  | some (true, c) => match propL l with
    | some p => if p.2.1 = versN ∧ p.2.2.2 = fourT then (0, (st.1, some (false, c))) else (20, st)
    | none => (20, st)
  | some (false, c) => if up l = endT then (0, (st.1 ++ [c], none)) else match propL l with
    | none => (17, st)
    | some p => if p.2.1 = beginN ∨ p.2.1 = versN then (20, st) else if 40 ≤ c.length then (4, st) else (0, (st.1, some (false, c ++ [p])))
/-- All lines, behind so many: the cards, the line that is wrong, why. -/
def runV : Nat → RSt → List (List UInt8) → List (List Pr) × Nat × Nat
  | n, st, [] => match st.2 with
    | none => (st.1, 0, 0)
    | some _ => ([], n, 20)
  | n, st, l :: t => if (stepV st l).1 = 0 then runV (n + 1) (stepV st l).2 t else ([], n + 1, (stepV st l).1)
def readV (s : List UInt8) : List (List Pr) × Nat × Nat :=
  if 20000 < s.length then ([], 0, 4) else if valid s = false then ([], 0, 3) else match unfold s with
  | none => ([], 0, 17)
  | some ls => runV 0 ([], none) ls

def quoteB (v : List UInt8) : Bool := decide (v = []) || v.any (fun c => c == 59 || c == 58 || c == 44)
def pvalT (v : List UInt8) : List UInt8 := if quoteB v then 34 :: (v ++ [34]) else v
def parT (p : Par) : List UInt8 := 59 :: (p.1 ++ 61 :: pvalT p.2)
def groupT (g : List UInt8) : List UInt8 := if g = [] then [] else g ++ [46]
def lineT (p : Pr) : List UInt8 := groupT p.1 ++ (p.2.1 ++ (p.2.2.1.flatMap parT ++ 58 :: p.2.2.2))
/-- May a property's line be read as it is, within a card? -/
def mayB (p : Pr) : Bool := decide (propL (lineT p) = some p) && valid (lineT p) && (lineT p).all (fun c => c != 10 && c != 13) && decide (p.2.1 ≠ beginN) && decide (p.2.1 ≠ versN) && decide (up (lineT p) ≠ endT)
def cardT (c : List Pr) : List (List UInt8) := beginT :: versT :: (c.map lineT ++ [endT])
def rightV (l : List (List Pr)) : Bool := decide (l.length ≤ 60) && l.all (fun c => decide (c.length ≤ 40) && c.all mayB)
def writeV (l : List (List Pr)) : List UInt8 × Nat :=
  if rightV l then (if 20000 < (foldL (l.flatMap cardT)).length then ([], 4) else (foldL (l.flatMap cardT), 0)) else ([], 12)

end Go.Proofs.YtogjhpcjjmcjfaaGreatDoor.Vc
end
section
/- what is reached of it -/
namespace Go.Proofs.YtogjhpcjjmcjfaaGreatDoor.Vc
open Go.Lib Tx
theorem up_word : ∀ c : UInt8, wc c = true → wc (upC c) = true ∧ upC (upC c) = upC c := by
  have h : ∀ n : Nat, n < 256 → wc (UInt8.ofNat n) = true → wc (upC (UInt8.ofNat n)) = true ∧ upC (upC (UInt8.ofNat n)) = upC (UInt8.ofNat n) := by decide +kernel
  intro c hc
  have := h c.toNat c.toNat_lt (by simpa using hc)
  simpa using this
def Word (w : List UInt8) : Prop := w ≠ [] ∧ ∀ c ∈ w, wc c = true
def NameV (n : List UInt8) : Prop := Word n ∧ up n = n
theorem Word.up {w : List UInt8} (h : Word w) : NameV (up w) := by
  refine ⟨⟨fun e => h.1 (List.map_eq_nil_iff.1 e), fun c hc => ?_⟩, ?_⟩
  · obtain ⟨d, hd, rfl⟩ := List.mem_map.1 hc
    exact (up_word d (h.2 d hd)).1
  · unfold Vc.up
    rw [List.map_map]
    exact List.map_congr_left fun c hc => (up_word c (h.2 c hc)).2
theorem flat_len (ts : List Par) : ts.length ≤ (ts.flatMap parT).length := by
  induction ts with
  | nil => exact Nat.le_refl _
  | cons a ts ih =>
    rw [List.flatMap_cons, List.length_append, List.length_cons]
    unfold parT at ih ⊢
    simp only [List.length_cons]
    omega
end Go.Proofs.YtogjhpcjjmcjfaaGreatDoor.Vc
end
section
/- what is reached of it -/
namespace Go.Proofs.YtogjhpcjjmcjfaaGreatDoor
open Go.RowKit Vc
/-- Four cells of a property. -/
def AtP (w : World) (p : Addr) (x : Pr) (u : Value) : Prop := w.cell? p = some (.string (bts x.1)) ∧ w.cell? ⟨p.block, p.off + 1, none⟩ = some (.string (bts x.2.1)) ∧ w.cell? ⟨p.block, p.off + 2, none⟩ = some u ∧ w.cell? ⟨p.block, p.off + 3, none⟩ = some (.string (bts x.2.2.2))
theorem AtP.of {w w' : World} {p : Addr} {x : Pr} {u : Value} (h : AtP w p x u) (hb : w'.heap[p.block]? = w.heap[p.block]?) : AtP w' p x u := by
  have hk : ∀ j s, w'.cell? ⟨p.block, j, s⟩ = w.cell? ⟨p.block, j, s⟩ := fun j s => World.cell?_of_block (a := ⟨p.block, j, s⟩) hb
  obtain ⟨h0, h1, h2, h3⟩ := h
  refine ⟨?_, ?_, ?_, ?_⟩
  · exact (hk p.off p.spot).trans h0
  · rw [hk]; exact h1
  · rw [hk]; exact h2
  · rw [hk]; exact h3
/-- A slice of properties that can be read. -/
def ReadP (w : World) (v : Value) (ps : List Pr) : Prop := ∃ A cap, v = .slice A ps.length cap ∧ (0 < ps.length → ∃ ad : Addr, A = some ad ∧ ad.block < w.heap.size ∧ ∀ i x, ps[i]? = some x → ∃ u, AtP w (ad.add (i * 4)) x u ∧ ReadA w u x.2.2.1)
theorem ReadP.below {w w' : World} {v : Value} {ps : List Pr} (h : ReadP w v ps) (hb : Below w.heap.size w w') : ReadP w' v ps := by
  obtain ⟨A, cap, rfl, h2⟩ := h
  refine ⟨A, cap, rfl, fun h0 => ?_⟩
  obtain ⟨ad, rfl, hl, hc⟩ := h2 h0
  refine ⟨ad, rfl, Nat.lt_of_lt_of_le hl hb.size, fun i x hi => ?_⟩
  obtain ⟨u, h3, h4⟩ := hc i x hi
  exact ⟨u, h3.of (hb.block _ (by rw [addBlock]; exact hl)), h4.below hb⟩
theorem ReadP.nil (w : World) : ReadP w (.slice none 0 0) [] := ⟨none, 0, rfl, fun h => absurd h (Nat.not_lt_zero _)⟩
theorem ReadP.slice {w : World} {v : Value} {ps : List Pr} (h : ReadP w v ps) : ∃ A cap, v = .slice A ps.length cap := by
  obtain ⟨A, cap, rfl, _⟩ := h
  exact ⟨A, cap, rfl⟩
theorem ReadP.one {w : World} {v : Value} {ps : List Pr} (h : ReadP w v ps) : v.oneCell' = true := by
  obtain ⟨A, cap, rfl, _⟩ := h
  rfl

end Go.Proofs.YtogjhpcjjmcjfaaGreatDoor
end
section
/- what is reached of it -/
namespace Go.Proofs.YtogjhpcjjmcjfaaGreatDoor.Vc
open Go.Lib Tx
def Good (l : List UInt8) : Prop := clean l ∧ valid l = true
end Go.Proofs.YtogjhpcjjmcjfaaGreatDoor.Vc
end
section
/- what is reached of it -/
namespace Go.Proofs.YtogjhpcjjmcjfaaGreatDoor
open Go.RowKit
/-- What a builder's call may turn: block b, and blocks from C on. -/
structure Btw (b C : Nat) (w w' : World) : Prop where
  below : Below b w w'
  mid : ∀ g, b < g → g < C → w'.heap[g]? = w.heap[g]?
theorem Btw.refl (b C : Nat) (w : World) : Btw b C w w := ⟨Below.refl _ _, fun _ _ _ => rfl⟩
theorem Btw.trans {b C : Nat} {w x y : World} (h : Btw b C w x) (k : Btw b C x y) : Btw b C w y := ⟨h.below.trans k.below, fun g h1 h2 => (k.mid g h1 h2).trans (h.mid g h1 h2)⟩
theorem Btw.of {b C D : Nat} {w x : World} (h : Below D w x) (h1 : b ≤ D) (h2 : C ≤ D) : Btw b C w x := ⟨h.mono h1, fun g _ hg => h.block g (by omega)⟩
theorem Btw.keeps {b C g : Nat} {w x : World} (h : Btw b C w x) (h1 : g ≠ b) (h2 : g < C) : x.heap[g]? = w.heap[g]? := by
  rcases Nat.lt_or_ge g b with h3 | h3
  · exact h.below.block g h3
  · exact h.mid g (by omega) h2
end Go.Proofs.YtogjhpcjjmcjfaaGreatDoor
end
section
/- what is reached of it -/
namespace Go.Proofs.YtogjhpcjjmcjfaaGreatDoor
open Go.RowKit Tx
/-- a part of a slice -/
def slv (g cap : Nat) (x : Nat × Nat) : Value := .slice (some ⟨g, x.1, none⟩) (x.2 - x.1) (cap - x.1)
def slvs (g cap : Nat) (l : List (Nat × Nat)) : List Value := l.map (slv g cap)
theorem slvs_get {g cap : Nat} {l : List (Nat × Nat)} {j : Nat} {x : Nat × Nat} (h : l[j]? = some x) : (slvs g cap l)[j]? = some (slv g cap x) := by simp [slvs, h]
attribute [irreducible] slvs
theorem drop_bit {bs : List Bool} {k : Nat} {b : Bool} (h : bs[k]? = some b) : bs.drop k = b :: bs.drop (k + 1) := by
  obtain ⟨hk, he⟩ := List.getElem?_eq_some_iff.1 h
  rw [List.drop_eq_getElem_cons hk, he]
/-- how the gathering stands: R are told, the open row goes from o to k -/
def GStand (bs : List Bool) (R : List (Nat × Nat)) (o k : Nat) : Prop := R.length ≤ k ∧ ivs 0 0 bs = R ++ ivs o k (bs.drop k)
theorem GStand.start (bs : List Bool) : GStand bs [] 0 0 := ⟨Nat.le_refl _, rfl⟩
theorem GStand.cut {bs : List Bool} {R : List (Nat × Nat)} {o k : Nat} (h : GStand bs R o k) (hb : bs[k]? = some true) : GStand bs (R ++ [(o, k)]) k (k + 1) := by
  refine ⟨by rw [List.length_append, List.length_singleton]; have := h.1; omega, ?_⟩
  rw [h.2, drop_bit hb]
  show R ++ ((o, k) :: ivs k (k + 1) _) = _
  simp
theorem GStand.done {bs : List Bool} {R : List (Nat × Nat)} {o k : Nat} (h : GStand bs R o k) (hk : bs.length ≤ k) : ivs 0 0 bs = R ++ [(o, k)] := by
  rw [h.2, List.drop_eq_nil_of_le hk]
  rfl
/-- A slice of slices, each a part of the one at g. -/
def Rows2 (C : Nat) (w : World) (v : Value) (g cap : Nat) (l : List (Nat × Nat)) : Prop :=
  ∃ g' cap', v = .slice (some ⟨g', 0, none⟩) l.length cap' ∧ l.length ≤ cap' ∧ C ≤ g' ∧ g' < w.heap.size ∧ ∀ j x, l[j]? = some x → w.cell? ⟨g', j, none⟩ = some (slv g cap x)
theorem Rows2.of {C : Nat} {w : World} {v : Value} {g cap : Nat} {l : List (Nat × Nat)} {e : TypeId} (h : w.ownsRow C e 1 v l.length (slvs g cap l)) (hl : 0 < l.length) : Rows2 C w v g cap l := by
  rcases h.2 with ⟨_, h0⟩ | ⟨g', cap', cur, rfl, hC, hg, hc, _⟩
  · omega
  · refine ⟨g', cap', rfl, hc, hC, lt_of_block hg, fun j x hj => ?_⟩
    have := h.cells (g := g') rfl j _ (slvs_get hj)
    rwa [add_at, Nat.zero_add] at this
end Go.Proofs.YtogjhpcjjmcjfaaGreatDoor
end
section
/- what is reached of it -/
namespace Go.Proofs.YtogjhpcjjmcjfaaGreatDoor
open Go.RowKit Tx
/-- signs of one byte -/
def Asc (C : ByteArray) : Prop := ∀ i (h : i < C.size), (C[i]'h).toNat < 128
theorem Asc.all {C : ByteArray} (h : Asc C) : ∀ b ∈ C.data.toList, b.toNat < 128 := fun b hb => by
  obtain ⟨i, hi, e⟩ := List.mem_iff_getElem.1 hb
  have hi2 : i < C.size := by rw [Lib.size_eq]; exact hi
  have h2 := Lib.data_getElem? C i hi2
  rw [List.getElem?_eq_getElem hi, e] at h2
  have := h i hi2
  rwa [← Option.some.inj h2] at this
theorem Asc.of {C : ByteArray} (h : C.data.toList.all (fun b => decide (b.toNat < 128)) = true) : Asc C := fun i hi => of_decide_eq_true (List.all_eq_true.1 h _ (List.mem_of_getElem? (Lib.data_getElem? C i hi)))
end Go.Proofs.YtogjhpcjjmcjfaaGreatDoor
end
section
/- what is reached of it -/
namespace Go.Proofs.YtogjhpcjjmcjfaaGreatDoor
open Go.RowKit Tx
/-- how the document's loop stands: o ahead, so much room, the rest from k on -/
def FStand (l : List UInt8) (k room : Nat) (o : List UInt8) : Prop := foldOne l = o ++ fr room (chs (l.drop k))
theorem FStand.start (l : List UInt8) : FStand l 0 75 [] := by unfold FStand; rw [List.drop_zero, foldOne_fr]; rfl
theorem FStand.done {l o : List UInt8} {k room : Nat} (h : FStand l k room o) (hk : l.length ≤ k) : foldOne l = o ++ [13, 10] := by
  unfold FStand at h
  rw [List.drop_eq_nil_of_le hk, chs_nil, fr_nil] at h
  exact h
theorem chs_at {l : List UInt8} {k n : Nat} (hk : k < l.length) (hn : (dc (l.drop k)).2 = n) : chs (l.drop k) = (l.drop k).take n :: chs (l.drop (k + n)) := by
  rw [chs_step (drop_ne hk), hn, List.drop_drop]
theorem take_len {l : List UInt8} {k n : Nat} (hk : k + n ≤ l.length) : ((l.drop k).take n).length = n := by
  rw [List.length_take, List.length_drop]; omega
theorem FStand.cut {l o : List UInt8} {k room n : Nat} (h : FStand l k room o) (hk : k < l.length) (hn : (dc (l.drop k)).2 = n) (hkn : k + n ≤ l.length) (hr : room < n) : FStand l (k + n) (74 - n) (o ++ [13, 10, 32] ++ (l.drop k).take n) := by
  unfold FStand at h ⊢
  rw [h, chs_at hk hn, fr_cut _ (by rw [take_len hkn]; omega), take_len hkn]
  simp
end Go.Proofs.YtogjhpcjjmcjfaaGreatDoor
end
section
/- what is reached of it -/
namespace Go.Proofs.YtogjhpcjjmcjfaaGreatDoor
open Go.RowKit Tx
/-- how the package's loop stands: acc are told, t is ahead -/
def CStand (l : List UInt8) (acc : List (List UInt8)) (t : List UInt8) : Prop := chs l = acc ++ chs t ∧ acc.length + t.length ≤ l.length
theorem CStand.start (l : List UInt8) : CStand l [] l := ⟨rfl, by simp⟩
theorem CStand.next {l t : List UInt8} {acc : List (List UInt8)} (h : CStand l acc t) (ht : t ≠ []) {n : Nat} (hn : (dc t).2 = n) : CStand l (acc ++ [t.take n]) (t.drop n) := by
  have h1 := dc_ge1 t
  have h2 : 0 < t.length := List.length_pos_iff.2 ht
  refine ⟨by rw [h.1, chs_step ht, hn]; simp, ?_⟩
  have := h.2
  rw [List.length_append, List.length_singleton, List.length_drop]
  omega
end Go.Proofs.YtogjhpcjjmcjfaaGreatDoor
end
section
/- what is reached of it -/
namespace Go.Proofs.YtogjhpcjjmcjfaaGreatDoor
open Go.RowKit Tx
theorem OwnT.weak {B B' : Nat} {w : World} {v : Value} {x : List ByteArray} (h : OwnT B w v x) (hB : B' ≤ B) : OwnT B' w v x :=
  ⟨h.1, h.2.imp id fun ⟨g, cap, cur, h1, h2, h3⟩ => ⟨g, cap, cur, h1, Nat.le_trans hB h2, h3⟩⟩
end Go.Proofs.YtogjhpcjjmcjfaaGreatDoor
end
section
/- what is reached of it -/
namespace Go.Proofs.YtogjhpcjjmcjfaaGreatDoor
open Go.RowKit Tx
/-- nothing turns below C where block b is as it was -/
theorem Btw.whole {b C : Nat} {w w' : World} (h : Btw b C w w') (hb : w'.heap[b]? = w.heap[b]?) : Below C w w' :=
  ⟨h.below.os, h.below.tape, h.below.output, h.below.size, fun g hg => by
    rcases Nat.lt_trichotomy g b with h1 | h1 | h1
    · exact h.below.block g h1
    · subst h1; exact hb
    · exact h.mid g h1 hg⟩
end Go.Proofs.YtogjhpcjjmcjfaaGreatDoor
end
section
/- what is reached of it -/
namespace Go.Proofs.YtogjhpcjjmcjfaaGreatDoor
open Go.RowKit Tx
theorem OwnT.cap {B : Nat} {w : World} {g cap n : Nat} {x : List ByteArray} (h : OwnT B w (.slice (Option.some ⟨g, 0, none⟩) n cap) x) : x.length ≤ cap := by
  rcases h.2 with ⟨e, _⟩ | ⟨g', cap', cur, e, _, _, h4, _⟩
  · simp at e
  · simp at e
    rw [e.2.2]
    exact h4
end Go.Proofs.YtogjhpcjjmcjfaaGreatDoor
end
