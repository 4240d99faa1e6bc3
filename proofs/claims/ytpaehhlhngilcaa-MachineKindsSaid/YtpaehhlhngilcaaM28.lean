import Derived.Test.YtpaehhlhngilcaaM27
import Derived.Test.YtpaehhlhngilcaaM15
import Derived.Test.YtpaehhlhngilcaaM16
import Derived.Test.YtpaehhlhngilcaaM25
import Derived.Laws.EntriesVeiled
import Derived.Test.YtpaehhlhngilcaaM17
import Derived.Deep.RegionWith
import Derived.Deep.RegionLaw
import Derived.Deep.QuietTactic
import Derived.BigQuiet
import Derived.Test.YtpaehhlhngilcaaM21
import Derived.Sort.Grow
import Derived.Sort.KeysCollected
import Derived.Sort.Walk0
import Derived.Lib.SlicesCompact
import Derived.Lib.Strings
section
/- what is reached of it -/
namespace Go.Proofs.Ytpaehhlhngilcaa
open Go.RowKit Vc Ct
def conCells (c : Con) (g o : Value) : Array Value := #[.string (bts c.name), .string (bts c.family), .string (bts c.given), .string (bts c.nick), .string (bts c.jid), .string (bts c.email), .string (bts c.tel), .string (bts c.note), .string (bts c.uid), g, o]
abbrev agC (c : Con) (g o : Value) : Value := .agg (conCells c g o)
/-- Attributes, properties that can be read, each at a place of its own. -/
def SeenA (w : World) (u : Value) (l : List Att) : Prop := ∃ A cap, u = .slice A l.length cap ∧ (0 < l.length → ∃ b o : Nat, A = some ⟨b, o, none⟩ ∧ b < w.heap.size ∧ ∀ i a, l[i]? = some a → w.cell? ⟨b, o + i * 2, none⟩ = some (.string (bts a.1)) ∧ w.cell? ⟨b, o + i * 2 + 1, none⟩ = some (.string (bts a.2)))
theorem SeenA.below {w w' : World} {u : Value} {l : List Att} (h : SeenA w u l) (hb : Below w.heap.size w w') : SeenA w' u l := by
  obtain ⟨A, cap, rfl, h2⟩ := h
  refine ⟨A, cap, rfl, fun h0 => ?_⟩
  obtain ⟨b, o, rfl, hl, hc⟩ := h2 h0
  refine ⟨b, o, rfl, Nat.lt_of_lt_of_le hl hb.size, fun i a hi => ?_⟩
  rw [hb.cell (p := ⟨b, o + i * 2, none⟩) hl, hb.cell (p := ⟨b, o + i * 2 + 1, none⟩) hl]
  exact hc i a hi
def SeenP (w : World) (v : Value) (ps : List Pr) : Prop := ∃ A cap, v = .slice A ps.length cap ∧ (0 < ps.length → ∃ ad : Addr, A = some ad ∧ ad.block < w.heap.size ∧ ∀ i x, ps[i]? = some x → ∃ u, AtP w (ad.add (i * 4)) x u ∧ SeenA w u x.2.2.1)
theorem SeenP.below {w w' : World} {v : Value} {ps : List Pr} (h : SeenP w v ps) (hb : Below w.heap.size w w') : SeenP w' v ps := by
  obtain ⟨A, cap, rfl, h2⟩ := h
  refine ⟨A, cap, rfl, fun h0 => ?_⟩
  obtain ⟨ad, rfl, hl, hc⟩ := h2 h0
  refine ⟨ad, rfl, Nat.lt_of_lt_of_le hl hb.size, fun i x hi => ?_⟩
  obtain ⟨u, h3, h4⟩ := hc i x hi
  exact ⟨u, h3.of (hb.block _ (by rw [addBlock]; exact hl)), h4.below hb⟩
theorem SeenP.nil (w : World) : SeenP w (.slice none 0 0) [] := ⟨none, 0, rfl, fun h => absurd h (Nat.not_lt_zero _)⟩
/-- A contact that can be read. -/
def SeenC (w : World) (v : Value) (c : Con) : Prop := ∃ g o, v = agC c g o ∧ ReadT w.heap.size w g (sts c.groups) ∧ SeenP w o c.other
theorem ReadT.upon {w w' : World} {v : Value} {x : List ByteArray} (h : ReadT w.heap.size w v x) (hb : Below w.heap.size w w') : ReadT w'.heap.size w' v x := (h.below hb).more hb.size
theorem SeenC.below {w w' : World} {v : Value} {c : Con} (h : SeenC w v c) (hb : Below w.heap.size w w') : SeenC w' v c := by
  obtain ⟨g, o, rfl, h1, h2⟩ := h
  exact ⟨g, o, rfl, h1.upon hb, h2.below hb⟩
end Go.Proofs.Ytpaehhlhngilcaa
end
section
/- what is reached of it -/
namespace Go.Proofs.Ytpaehhlhngilcaa
open Go.RowKit Vc Ct
/-- Only blocks that S names may have turned. -/
structure But (S : Nat → Prop) (w w' : World) : Prop where
  os : w'.os = w.os
  tape : w'.tape = w.tape
  output : w'.output = w.output
  size : w.heap.size ≤ w'.heap.size
  block : ∀ k, k < w.heap.size → ¬ S k → w'.heap[k]? = w.heap[k]?
theorem But.refl (S : Nat → Prop) (w : World) : But S w w := ⟨rfl, rfl, rfl, Nat.le_refl _, fun _ _ _ => rfl⟩
theorem But.trans {S : Nat → Prop} {a b c : World} (h : But S a b) (k : But S b c) : But S a c :=
  ⟨k.os.trans h.os, k.tape.trans h.tape, k.output.trans h.output, Nat.le_trans h.size k.size, fun i hi hs => (k.block i (Nat.lt_of_lt_of_le hi h.size) hs).trans (h.block i hi hs)⟩
theorem But.new {S : Nat → Prop} {a b : World} (h : Below a.heap.size a b) : But S a b := ⟨h.os, h.tape, h.output, h.size, fun i hi _ => h.block i hi⟩
theorem But.below {S : Nat → Prop} {a b : World} {B : Nat} (h : But S a b) (hB : B ≤ a.heap.size) (hn : ∀ i, i < B → ¬ S i) : Below B a b := ⟨h.os, h.tape, h.output, h.size, fun i hi => h.block i (by omega) (hn i hi)⟩
theorem But.grown {a b : World} {g : Nat} (h : But (· = g) a b) : a.grownBy b (some g) := ⟨h.os, h.tape, h.output, h.size, fun i hi hn => h.block i hi (fun e => hn (by rw [e]))⟩
/-- A block of texts. -/
def Txts (w : World) (h : Nat) (xs : List (List UInt8)) : Prop := ∃ cs : Array Value, Bk w h 9 cs ∧ ∀ (j : Nat) (x : List UInt8), xs[j]? = some x → cs[j]? = some (Value.string (bts x))
theorem Txts.cell {w : World} {h : Nat} {xs : List (List UInt8)} (t : Txts w h xs) {j : Nat} {x : List UInt8} (hj : xs[j]? = some x) : w.cell? ⟨h, j, none⟩ = some (.string (bts x)) := by
  obtain ⟨cs, hk, hc⟩ := t
  rw [hk.cell]
  exact hc j x hj
theorem Txts.lt {w : World} {h : Nat} {xs : List (List UInt8)} (t : Txts w h xs) : h < w.heap.size := by
  obtain ⟨cs, hk, _⟩ := t
  exact hk.lt
theorem Txts.holds {w : World} {h : Nat} {xs : List (List UInt8)} (t : Txts w h xs) : Go.Sort.Holds encStr w h 0 xs.toArray := by
  obtain ⟨cs, hk, hc⟩ := t
  intro j hj
  have hj2 : j < xs.length := by simpa using hj
  rw [Nat.zero_add, hk.cell, hc j xs[j] (List.getElem?_eq_getElem hj2), getElem!_pos _ j hj]
  exact ⟨by simp [encStr], hk.free j⟩
/-- texts laid in the place of as many -/
theorem Txts.put {w : World} {h : Nat} {xs ys : List (List UInt8)} (t : Txts w h xs) (hl : ys.length = xs.length) (n : Nat) (os : Array Obj) : Txts (Go.Sort.grow (Go.Sort.putRow encStr (Go.Sort.ahead w n) h 0 ys.toArray) os) h ys ∧ But (· = h) w (Go.Sort.grow (Go.Sort.putRow encStr (Go.Sort.ahead w n) h 0 ys.toArray) os) := by
  have hH := t.holds
  have hlt := t.lt
  obtain ⟨cs, hk, hc⟩ := t
  have hsz : (Go.Sort.putRow encStr (Go.Sort.ahead w n) h 0 ys.toArray).heap.size = w.heap.size := by rw [Go.Sort.size_putRow]; rfl
  have hK : (Go.Sort.putRow encStr (Go.Sort.ahead w n) h 0 ys.toArray).heap[h]? = some (.cells (Go.Sort.putCells encStr 0 ys.toArray cs) 9 (0, 0)) := by
    unfold Go.Sort.putRow Go.Sort.mapBlock
    have e : (Go.Sort.ahead w n).heap[h]? = some (.cells cs 9 (0, 0)) := hk
    show ((Go.Sort.ahead w n).heap.modify h _)[h]? = _
    rw [Array.getElem?_modify, if_pos rfl, e]
    rfl
  refine ⟨⟨Go.Sort.putCells encStr 0 ys.toArray cs, (Go.Sort.heap_grow_old _ os (by rw [hsz]; exact hlt)).trans hK, fun j y hj => ?_⟩, ⟨rfl, rfl, rfl, ?_, fun i hi hne => ?_⟩⟩
  · have hj2 : j < ys.length := (List.getElem?_eq_some_iff.1 hj).1
    obtain ⟨x, hx⟩ : ∃ x, xs[j]? = some x := ⟨_, List.getElem?_eq_getElem (by omega)⟩
    have hcj := hc j x hx
    unfold Go.Sort.putCells
    rw [Array.getElem?_mapIdx, hcj, Option.map_some, if_pos ⟨Nat.zero_le _, by simpa using hj2⟩, Nat.sub_zero, getElem!_pos _ j (by simpa using hj2)]
    have e3 : ys[j] = y := (List.getElem?_eq_some_iff.1 hj).2
    rw [← e3]
    simp [encStr]
  · rw [Go.Sort.size_grow, hsz]; omega
  · rw [Go.Sort.heap_grow_old _ os (by rw [hsz]; exact hi)]
    unfold Go.Sort.putRow Go.Sort.mapBlock
    show ((Go.Sort.ahead w n).heap.modify h _)[i]? = _
    rw [Array.getElem?_modify, if_neg (fun e => hne e.symm)]
    rfl
theorem Txts.below {w w' : World} {h B : Nat} {xs : List (List UInt8)} (t : Txts w h xs) (hb : Below B w w') (hh : h < B) : Txts w' h xs := by
  obtain ⟨cs, hk, hc⟩ := t
  exact ⟨cs, hk.below hb hh, hc⟩
theorem Txts.set {w : World} {g h o : Nat} {xs : List (List UInt8)} (t : Txts w h xs) (hn : h ≠ g) (u : Value) : Txts (w.setCell ⟨g, o, none⟩ u) h xs := by
  obtain ⟨cs, hk, hc⟩ := t
  exact ⟨cs, hk.far hn u, hc⟩
theorem Txts.more {w : World} {h : Nat} {xs ys : List (List UInt8)} (t : Txts w h (xs ++ ys)) : Txts w h xs := by
  obtain ⟨cs, hk, hc⟩ := t
  exact ⟨cs, hk, fun j x hj => hc j x (by rw [List.getElem?_append_left (List.getElem?_eq_some_iff.1 hj).1]; exact hj)⟩
theorem OwnT.set {B g o : Nat} {w : World} {v u : Value} {x : List ByteArray} (h : OwnT B w v x) (hg : g < B) : OwnT B (w.setCell ⟨g, o, none⟩ u) v x :=
  h.kept fun j hj => Below.heap_setCell _ _ _ _ (by have := (h.low hj).1; show j ≠ g; omega)
end Go.Proofs.Ytpaehhlhngilcaa
end
