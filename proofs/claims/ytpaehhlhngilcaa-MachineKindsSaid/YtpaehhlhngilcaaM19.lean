import Derived.Test.YtpaehhlhngilcaaRows
import Derived.Test.YtpaehhlhngilcaaM06
import Derived.WalkKit
import Derived.WalkSpells
import Derived.WalkLawsBesides
import Derived.Deep.QuietTactic
import Derived.BigQuiet
import Derived.Test.YtpaehhlhngilcaaM02
import Derived.Laws.AppendOwn
import Derived.Laws.AppendOwnNone
import Derived.Laws.MakeOwn
import Derived.Deep.RegionWith
import Derived.Lib.Hide
import Derived.Shelf.Abstract
import Derived.Test.YtpaehhlhngilcaaM18
section
/- what is reached of it -/
namespace Go.Proofs.Ytpaehhlhngilcaa
open Go.RowKit
/-- Integers as values. -/
def ints (x : List Nat) : List Value := x.map fun c => .int .i64 (c : Nat)
theorem ints_get (x : List Nat) (i : Nat) (h : i < x.length) : (ints x)[i]? = some (.int .i64 (x.getD i 0 : Nat)) := by
  simp [ints, List.getElem?_map, List.getD, List.getElem?_eq_getElem h]
attribute [irreducible] ints
/-- The slice v, made by the call (above block B), holds just the numbers x. -/
def Owned (B : Nat) (w : World) (v : Value) (x : List Nat) : Prop := w.ownsRow B 3 1 v x.length (ints x)
theorem Owned.nil (B : Nat) (w : World) : Owned B w (.slice none 0 0) [] := by
  unfold Owned
  rw [show ints [] = [] from by unfold ints; rfl]
  exact World.ownsRow_nil _ _ _ _
theorem Owned.below {B : Nat} {w w' : World} {v : Value} {x : List Nat} (h : Owned B w v x) (hb : Below w.heap.size w w') : Owned B w' v x := by
  have h' : w.ownsRow B 3 1 v x.length (ints x) := h
  refine h'.kept (w' := w') (row := some w.heap.size) ⟨hb.os, hb.tape, hb.output, hb.size, fun i hi _ => hb.block i hi⟩ ?_
  cases ho : v.ownBlock with
  | none => exact .inl rfl
  | some g => exact .inr (fun e => by have := (h'.lt g ho).2; injection e with e; omega)
/-- A slice that can be read: it holds just the numbers x, below block B (nil and empty ones too). -/
def Reads (B : Nat) (w : World) (v : Value) (x : List Nat) : Prop :=
  ∃ A cap, v = .slice A x.length cap ∧ (0 < x.length → ∃ ad : Addr, A = some ad ∧ ad.block < B ∧ ∀ i, i < x.length → w.cell? (ad.add i) = some (.int .i64 (x.getD i 0 : Nat)))
theorem Reads.below {B : Nat} {w w' : World} {v : Value} {x : List Nat} (h : Reads B w v x) (hb : Below B w w') : Reads B w' v x := by
  obtain ⟨A, cap, rfl, h2⟩ := h
  refine ⟨A, cap, rfl, fun h0 => ?_⟩
  obtain ⟨ad, rfl, hl, hc⟩ := h2 h0
  refine ⟨ad, rfl, hl, fun i hi => (hb.cell ?_).trans (hc i hi)⟩
  have : (ad.add i).block = ad.block := by unfold Addr.add; split <;> rfl
  omega
theorem Reads.more {B C : Nat} {w : World} {v : Value} {x : List Nat} (h : Reads B w v x) (hB : B ≤ C) : Reads C w v x := by
  obtain ⟨A, cap, rfl, h2⟩ := h
  refine ⟨A, cap, rfl, fun h0 => ?_⟩
  obtain ⟨ad, rfl, hl, hc⟩ := h2 h0
  exact ⟨ad, rfl, by omega, hc⟩
/-- A list that the text writes out. -/
theorem Reads.made (w : World) (t : TypeId) (x : List Nat) (cs : Array Value) (cap n : Nat) (hcs : (ints x).toArray = cs) (hn : x.length = n) : Reads (w.heap.size + 1) (w.alloc (.cells cs t)) (.slice (some ⟨w.heap.size, 0, none⟩) n cap) x := by
  subst hcs
  subst hn
  refine ⟨_, cap, rfl, fun _ => ⟨_, rfl, Nat.lt_succ_self _, fun i hi => ?_⟩⟩
  have hb := Bk.new w t (ints x).toArray
  have := hb.cell i
  have e : (⟨w.heap.size, 0, none⟩ : Addr).add i = ⟨w.heap.size, i, none⟩ := by unfold Addr.add; split <;> simp_all
  rw [e, this, List.getElem?_toArray, ints_get x i hi]
end Go.Proofs.Ytpaehhlhngilcaa
end
section
/- what is reached of it -/
namespace Go.Proofs.Ytpaehhlhngilcaa
open Go.RowKit Rg
/-- A slice that can be read: it holds just the ranges l, below block B (nil and empty ones too). -/
def ReadR (B : Nat) (w : World) (v : Value) (l : List R) : Prop :=
  ∃ A cap, v = .slice A l.length cap ∧ (l.length ≤ cap ∧ cap ≤ maxLen ∧ (A = none → cap = 0)) ∧ (0 < l.length → ∃ ad : Addr, A = some ad ∧ ad.block < B ∧ ∀ i r, l[i]? = some r → w.cell? (ad.add (i * 2)) = some (.int .i64 r.1) ∧ w.cell? ⟨(ad.add (i * 2)).block, (ad.add (i * 2)).off + 1, none⟩ = some (.int .i64 r.2))
theorem ReadR.below {B : Nat} {w w' : World} {v : Value} {l : List R} (h : ReadR B w v l) (hb : Below B w w') : ReadR B w' v l := by
  obtain ⟨A, cap, rfl, h1, h2⟩ := h
  refine ⟨A, cap, rfl, h1, fun h0 => ?_⟩
  obtain ⟨ad, rfl, hl, hc⟩ := h2 h0
  refine ⟨ad, rfl, hl, fun i r hi => ?_⟩
  have := hc i r hi
  rw [hb.cell (by rw [addBlock]; exact hl), hb.cell (by show (ad.add (i * 2)).block < B; rw [addBlock]; exact hl)]
  exact this
theorem ReadR.more {B C : Nat} {w : World} {v : Value} {l : List R} (h : ReadR B w v l) (hB : B ≤ C) : ReadR C w v l := by
  obtain ⟨A, cap, rfl, h1, h2⟩ := h
  refine ⟨A, cap, rfl, h1, fun h0 => ?_⟩
  obtain ⟨ad, rfl, hl, hc⟩ := h2 h0
  exact ⟨ad, rfl, by omega, hc⟩
theorem ReadR.nil (B : Nat) (w : World) : ReadR B w (.slice none 0 0) [] := ⟨none, 0, rfl, ⟨Nat.le_refl _, Nat.zero_le _, fun _ => rfl⟩, fun h => absurd h (by simp)⟩
/-- A list that lies in a block. -/
theorem ReadR.made {w : World} {g cap n : Nat} {l : List R} (hn : l.length = n) (h1 : n ≤ cap) (h2 : cap ≤ maxLen) (hg : g < w.heap.size) (hc : ∀ i r, l[i]? = some r → w.cell? ⟨g, i * 2, none⟩ = some (.int .i64 r.1) ∧ w.cell? ⟨g, i * 2 + 1, none⟩ = some (.int .i64 r.2)) : ReadR w.heap.size w (.slice (some ⟨g, 0, none⟩) n cap) l := by
  subst hn
  refine ⟨_, cap, rfl, ⟨h1, h2, (fun e => by cases e)⟩, fun _ => ⟨_, rfl, hg, fun i r hi => ?_⟩⟩
  rw [add_at, Nat.zero_add]
  exact hc i r hi
theorem add_zero (a : Addr) : a.add 0 = a := by simp [Addr.add]
/-- the first of a list that can be read -/
theorem ReadR.first {B : Nat} {w : World} {A : Option Addr} {n cap : Nat} {p q : Int} {t : List R} (h : ReadR B w (.slice A n cap) ((p, q) :: t)) : n = t.length + 1 ∧ n ≤ cap ∧ cap ≤ maxLen ∧ ∃ ad, A = Option.some ad ∧ ad.block < B ∧ w.cell? ad = Option.some (.int .i64 p) ∧ w.cell? ⟨ad.block, ad.off + 1, none⟩ = Option.some (.int .i64 q) := by
  obtain ⟨A', cap', e, ⟨h1, h2, _⟩, h3⟩ := h
  injection e with e1 e2 e3
  subst e1
  subst e3
  obtain ⟨ad, rfl, hb, hc⟩ := h3 (by simp)
  have := hc 0 (p, q) rfl
  rw [Nat.zero_mul, add_zero] at this
  exact ⟨e2, by rw [e2]; exact h1, h2, ad, rfl, hb, this.1, this.2⟩
end Go.Proofs.Ytpaehhlhngilcaa
end
section
/- what is reached of it -/
namespace Go.Proofs.Ytpaehhlhngilcaa
open Go.RowKit Rg
/-- A question that may be asked of a character: a function that the call was handed, or has made. -/
def Asks (w : World) (v : Value) (p : Nat → Bool) : Prop := ∃ (F : FuncId) (cb : Array Value), v = .func (.func F) #[] cb ∧ (∀ args W, (callFunc F args).run Try.prog W = .ok (.enter F args) W) ∧
  ∀ (c : Nat) W, Below w.heap.size w W → Calls Try.prog F (#[.int .i64 c] ++ cb) W fun e w' => e = .returned (.bool (p c)) ∧ Below W.heap.size W w'
theorem Asks.below {w w' : World} {v : Value} {p : Nat → Bool} (h : Asks w v p) (hb : Below w.heap.size w w') : Asks w' v p := by
  obtain ⟨F, cb, rfl, eg, hp⟩ := h
  exact ⟨F, cb, rfl, eg, fun c W hW => hp c W (hb.trans (hW.mono hb.size))⟩
/-- What adds to the characters done, c by c. -/
def Adds (w : World) (v : Value) (f : Nat → List Nat) : Prop := ∃ (F : FuncId) (cb : Array Value), v = .func (.func F) #[] cb ∧ (∀ args W, (callFunc F args).run Try.prog W = .ok (.enter F args) W) ∧
  ∀ (B c : Nat) (d : Value) (x : List Nat) W, Below w.heap.size w W → w.heap.size ≤ B → B ≤ W.heap.size → Owned B W d x → x.length ≤ 1000000000000 → c ≤ 1114111 →
    Calls Try.prog F (#[d, .int .i64 c] ++ cb) W fun e w' => ∃ d', e = .returned d' ∧ Owned B w' d' (x ++ f c) ∧ Below B W w'
theorem Adds.below {w w' : World} {v : Value} {f : Nat → List Nat} (h : Adds w v f) (hb : Below w.heap.size w w') : Adds w' v f := by
  obtain ⟨F, cb, rfl, eg, hp⟩ := h
  exact ⟨F, cb, rfl, eg, fun B c d x W hW h1 h2 => hp B c d x W (hb.trans (hW.mono hb.size)) (Nat.le_trans hb.size h1) h2⟩
theorem Owned.slice {B : Nat} {w : World} {v : Value} {x : List Nat} (h : Owned B w v x) : ∃ A cap, v = .slice A x.length cap := by
  rcases h.2 with ⟨rfl, h0⟩ | ⟨g, cap, cur, rfl, _⟩
  · exact ⟨none, 0, by rw [h0]⟩
  · exact ⟨_, _, rfl⟩
end Go.Proofs.Ytpaehhlhngilcaa
end
