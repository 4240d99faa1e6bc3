/-
  SLICES OF INTEGERS: those that the call itself makes, append by append.
-/
import Derived.Test.YtphopnfnjnieaaaGreatDoorRows
import Derived.Test.YtphopnfnjnieaaaGreatDoorMem
import Derived.WalkKit
import Derived.WalkSpells
import Derived.WalkLawsBesides
import Derived.Deep.QuietTactic
import Derived.BigQuiet
namespace Go.Proofs.YtphopnfnjnieaaaGreatDoor
open Go.RowKit

theorem infoInt : (Tryz.prog.info? 3).map (fun i => (i.zero, i.size, i.bytes)) = some (some (.int .i64 0), 1, 8) := by kernel_rfl

/-- Integers as values. -/
def ints (x : List Nat) : List Value := x.map fun c => .int .i64 (c : Nat)
theorem ints_length (x : List Nat) : (ints x).length = x.length := List.length_map _
theorem ints_snoc (x : List Nat) (c : Nat) : ints (x ++ [c]) = ints x ++ [.int .i64 (c : Nat)] := by simp [ints]
theorem ints_get (x : List Nat) (i : Nat) (h : i < x.length) : (ints x)[i]? = some (.int .i64 (x.getD i 0 : Nat)) := by
  simp [ints, List.getElem?_map, List.getD, List.getElem?_eq_getElem h]
theorem ints_nil : (ints []).toArray = #[] := rfl
theorem ints_one (a : Nat) : (ints [a]).toArray = #[.int .i64 (a : Nat)] := rfl
theorem ints_two (a b : Nat) : (ints [a, b]).toArray = #[.int .i64 (a : Nat), .int .i64 (b : Nat)] := rfl
theorem ints_append (x y : List Nat) : ints (x ++ y) = ints x ++ ints y := by simp [ints]
theorem ints_cells (x : List Nat) : ∀ u ∈ ints x, u.oneCell' = true := by
  intro u hu
  obtain ⟨c, _, rfl⟩ := List.mem_map.1 hu
  rfl
attribute [irreducible] ints

/-- The slice v, made by the call (above block B), holds just the numbers x. -/
def Owned (B : Nat) (w : World) (v : Value) (x : List Nat) : Prop := w.ownsRow B 3 1 v x.length (ints x)
theorem Owned.nil (B : Nat) (w : World) : Owned B w (.slice none 0 0) [] := by
  unfold Owned
  rw [show ints [] = [] from by unfold ints; rfl]
  exact World.ownsRow_nil _ _ _ _
theorem Owned.below {B : Nat} {w w' : World} {v : Value} {x : List Nat} (h : Owned B w v x) (hb : Below w.heap.size w w') : Owned B w' v x := by
  have h' : w.ownsRow B 3 1 v x.length (ints x) := h
  refine h'.kept (w' := w') (row := some w.heap.size) ⟨hb.os, hb.tape, hb.output, hb.size, fun i hi _ => hb.block i hi⟩ ?_
  cases ho : v.ownBlock with
  | none => exact .inl rfl
  | some g => exact .inr (fun e => by have := (h'.lt g ho).2; injection e with e; omega)
/-- behind an append: one number more. -/
def Pushed (B : Nat) (w : World) (x : List Nat) (c : Nat) (e : Ending) (w' : World) : Prop := ∃ v', e = .returned v' ∧ Owned B w' v' (x ++ [c]) ∧ Below B w w'
theorem pushed_of {B : Nat} {w w1 : World} {v v' : Value} {x : List Nat} {c : Nat} {o : Obj} (hown : Owned B w v x) (hB : B ≤ w.heap.size)
    (hown' : w1.ownsRow B 3 1 v' (x.length + 1) (ints x ++ [.int .i64 (c : Nat)])) (hg : (w.alloc o).grownBy w1 v.ownBlock) : Owned B w1 v' (x ++ [c]) ∧ Below B w w1 := by
  refine ⟨by unfold Owned; rw [ints_snoc]; simpa using hown', ?_⟩
  exact ((Below.refl B w).alloc hB o).grown hg (by simp; omega) (fun j hj => (hown.lt j hj).1)

theorem appended_of {B : Nat} {w w1 : World} {v v' : Value} {x y : List Nat} (hown : Owned B w v x) (hB : B ≤ w.heap.size)
    (hown' : w1.ownsRow B 3 1 v' (x.length + y.length) (ints x ++ ints y)) (hg : w.grownBy w1 v.ownBlock) : Owned B w1 v' (x ++ y) ∧ Below B w w1 := by
  refine ⟨by unfold Owned; rw [ints_append, List.length_append]; exact hown', ?_⟩
  exact (Below.refl B w).grown hg hB (fun j hj => (hown.lt j hj).1)
/-- A slice that can be read: it holds just the numbers x, below block B (nil and empty ones too). -/
def Reads (B : Nat) (w : World) (v : Value) (x : List Nat) : Prop :=
  ∃ A cap, v = .slice A x.length cap ∧ (0 < x.length → ∃ ad : Addr, A = some ad ∧ ad.block < B ∧ ∀ i, i < x.length → w.cell? (ad.add i) = some (.int .i64 (x.getD i 0 : Nat)))
theorem Reads.below {B : Nat} {w w' : World} {v : Value} {x : List Nat} (h : Reads B w v x) (hb : Below B w w') : Reads B w' v x := by
  obtain ⟨A, cap, rfl, h2⟩ := h
  refine ⟨A, cap, rfl, fun h0 => ?_⟩
  obtain ⟨ad, rfl, hl, hc⟩ := h2 h0
  refine ⟨ad, rfl, hl, fun i hi => (hb.cell ?_).trans (hc i hi)⟩
  have : (ad.add i).block = ad.block := by unfold Addr.add; split <;> rfl
  omega
theorem Reads.more {B C : Nat} {w : World} {v : Value} {x : List Nat} (h : Reads B w v x) (hB : B ≤ C) : Reads C w v x := by
  obtain ⟨A, cap, rfl, h2⟩ := h
  refine ⟨A, cap, rfl, fun h0 => ?_⟩
  obtain ⟨ad, rfl, hl, hc⟩ := h2 h0
  exact ⟨ad, rfl, by omega, hc⟩
theorem Owned.reads {B : Nat} {w : World} {v : Value} {x : List Nat} (h : Owned B w v x) : Reads w.heap.size w v x := by
  have h' : w.ownsRow B 3 1 v x.length (ints x) := h
  rcases h'.2 with ⟨rfl, h0⟩ | ⟨g, cap, cur, rfl, _, hh, _⟩
  · exact ⟨none, 0, by rw [h0], fun h => absurd h (by omega)⟩
  · refine ⟨_, cap, rfl, fun h0 => ⟨_, rfl, lt_of_block hh, fun i hi => ?_⟩⟩
    exact h'.cells (g := g) rfl i _ (ints_get x i hi)
/-- What an append reads of such a slice: nil, or its cells. -/
theorem Owned.source {B : Nat} {w : World} {v : Value} {x : List Nat} (h : Owned B w v x) {A : Option Addr} {n cap : Nat} (hv : v = .slice A n cap) :
    (A = none ∧ cap = 0 ∧ x = []) ∨ ∃ ad, A = some ad ∧ ∀ j u, (ints x)[j]? = some u → w.cell? (ad.add j) = some u := by
  have h' : w.ownsRow B 3 1 v x.length (ints x) := h
  rcases h'.2 with ⟨hn, h0⟩ | ⟨g, cap', cur, hg, _, hh, _⟩
  · rw [hv] at hn
    injection hn with h1 h2 h3
    exact .inl ⟨h1, h3, List.eq_nil_of_length_eq_zero h0⟩
  · rw [hv] at hg
    injection hg with h1 h2 h3
    exact .inr ⟨_, h1, fun j u hj => h'.cells (g := g) (by rw [hv, h1]; rfl) j u hj⟩
/-- A list that the text writes out. -/
theorem Reads.made (w : World) (t : TypeId) (x : List Nat) (cs : Array Value) (cap n : Nat) (hcs : (ints x).toArray = cs) (hn : x.length = n) : Reads (w.heap.size + 1) (w.alloc (.cells cs t)) (.slice (some ⟨w.heap.size, 0, none⟩) n cap) x := by
  subst hcs
  subst hn
  refine ⟨_, cap, rfl, fun _ => ⟨_, rfl, Nat.lt_succ_self _, fun i hi => ?_⟩⟩
  have hb := Bk.new w t (ints x).toArray
  have := hb.cell i
  have e : (⟨w.heap.size, 0, none⟩ : Addr).add i = ⟨w.heap.size, i, none⟩ := by unfold Addr.add; split <;> simp_all
  rw [e, this, List.getElem?_toArray, ints_get x i hi]
end Go.Proofs.YtphopnfnjnieaaaGreatDoor
