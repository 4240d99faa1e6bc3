/-
  SLICES OF STRINGS: those that the call itself makes, append by append, and those that are held against each other (help.Plain).
-/
import Derived.Test.YtphopnfnjnieaaaGreatDoorRows
import Derived.Test.YtphopnfnjnieaaaGreatDoorMem
import Derived.WalkKit
import Derived.WalkSpells
import Derived.WalkLawsBesides
import Derived.Lib.SlicesS
import Derived.Laws.AppendOwn
import Derived.Deep.QuietTactic
import Derived.BigQuiet
namespace Go.Proofs.YtphopnfnjnieaaaGreatDoor
open Go.RowKit

theorem infoStr : (Tryz.prog.info? 9).map (fun i => (i.zero, i.size, i.bytes)) = some (some (.string ⟨#[]⟩), 1, 16) := by kernel_rfl

/-- Strings as values. -/
def strs (x : List ByteArray) : List Value := x.map Value.string
theorem strs_length (x : List ByteArray) : (strs x).length = x.length := List.length_map _
theorem strs_snoc (x : List ByteArray) (c : ByteArray) : strs (x ++ [c]) = strs x ++ [.string c] := by simp [strs]
theorem strs_get {x : List ByteArray} {i : Nat} {b : ByteArray} (h : x[i]? = some b) : (strs x)[i]? = some (.string b) := by simp [strs, h]
attribute [irreducible] strs

/-- The slice v, made by the call (above block B), holds just the strings x. -/
def OwnT (B : Nat) (w : World) (v : Value) (x : List ByteArray) : Prop := w.ownsRow B 9 1 v x.length (strs x)
theorem OwnT.nil (B : Nat) (w : World) : OwnT B w (.slice none 0 0) [] := by
  unfold OwnT
  rw [show strs [] = [] from by unfold strs; rfl]
  exact World.ownsRow_nil _ _ _ _
theorem OwnT.below {B : Nat} {w w' : World} {v : Value} {x : List ByteArray} (h : OwnT B w v x) (hb : Below w.heap.size w w') : OwnT B w' v x := by
  have h' : w.ownsRow B 9 1 v x.length (strs x) := h
  refine h'.kept (w' := w') (row := some w.heap.size) ⟨hb.os, hb.tape, hb.output, hb.size, fun i hi _ => hb.block i hi⟩ ?_
  cases ho : v.ownBlock with
  | none => exact .inl rfl
  | some g => exact .inr (fun e => by have := (h'.lt g ho).2; injection e with e; omega)
theorem OwnT.low {B : Nat} {w : World} {v : Value} {x : List ByteArray} (h : OwnT B w v x) {j : Nat} (hj : v.ownBlock = some j) : B ≤ j ∧ j < w.heap.size := World.ownsRow.lt h j hj
theorem pushedT_of {B : Nat} {w w1 : World} {v v' : Value} {x : List ByteArray} {c : ByteArray} {o : Obj} (hown : OwnT B w v x) (hB : B ≤ w.heap.size)
    (hown' : w1.ownsRow B 9 1 v' (x.length + 1) (strs x ++ [.string c])) (hg : (w.alloc o).grownBy w1 v.ownBlock) : OwnT B w1 v' (x ++ [c]) ∧ Below B w w1 := by
  refine ⟨by unfold OwnT; rw [strs_snoc]; simpa using hown', ?_⟩
  exact ((Below.refl B w).alloc hB o).grown hg (by simp; omega) (fun j hj => (hown.low hj).1)
theorem OwnT.slice {B : Nat} {w : World} {v : Value} {x : List ByteArray} (h : OwnT B w v x) : ∃ A cap, v = .slice A x.length cap := by
  rcases h.2 with ⟨rfl, h0⟩ | ⟨g, cap, cur, rfl, _⟩
  · exact ⟨none, 0, by rw [h0]⟩
  · exact ⟨_, _, rfl⟩

theorem add_at0 (g : Nat) : (⟨g, 0, none⟩ : Addr).add 0 = ⟨g, 0, none⟩ := by unfold Addr.add; split <;> simp_all
/-- An append of one value to a row that the call has made. -/
theorem push_one {ops : Array Oper} {rest : List Oper} {o : Oper} {a : Act} {Q : Exit → Act → World → Prop} {t e : TypeId} {i : TypeInfo} {z : Value} {bytes : Nat} (ht : Tryz.prog.underlying t = some (.slice e)) (hi : Tryz.prog.info? e = some i) (hz : i.zero = some z)
    (h1 : i.size = 1) (hby : i.bytes = bytes) (hzc : z.cells.size = 1) (hgd : o.guard = none) (s x : Operand) (ho : o.op = .call { callee := .builtin .append, args := #[s, x], argTypes := #[t, t] })
    (B : Nat) (v : Value) (n : Nat) (xs : List Value) (u : Value) (w0 : World) (hs : a.eval s = v) (hown : w0.ownsRow B e 1 v n xs) (hx : a.eval x = .slice (some ⟨w0.heap.size, 0, none⟩) 1 1) (hu : u.oneCell' = true)
    (hlen : (n + 1) * bytes ≤ 140737488355328) (hn : n ≤ 1000000000000) (hB : B ≤ w0.heap.size)
    (h : ∀ v' w', w'.ownsRow B e 1 v' (n + 1) (xs ++ [u]) → Below B w0 w' → wpList Tryz.prog ops Q rest (a.put o.dst v') w') : wpList Tryz.prog ops Q (o :: rest) a (w0.alloc (.cells #[u] e)) := by
  refine wpList_append_own _ hgd s x t ho B e i z 1 bytes ht hi hz h1 hby hzc (by decide) v n xs hs (hown.alloc _) ⟨w0.heap.size, 0, none⟩ 1 1 [u] hx rfl ?_ ?_ ?_ hlen (by simp; omega) ?_
  · intro j y hj
    match j, hj with
    | 0, hj =>
      simp at hj
      subst hj
      rw [add_at0]
      exact cell_of_row _ _ 0 #[_] e (0, 0) (heap_alloc_new w0 _)
    | j + 1, hj => simp at hj
  · intro y hy
    simp at hy
    subst hy
    exact hu
  · unfold maxLen; omega
  · intro v' w' hown' hg _
    exact h v' w' hown' (((Below.refl B w0).alloc hB _).grown hg (by simp; omega) (fun j hj => (World.ownsRow.lt hown j hj).1))
theorem push_str {ops : Array Oper} {rest : List Oper} {o : Oper} {a : Act} {Q : Exit → Act → World → Prop} (hgd : o.guard = none) (s x : Operand) (ho : o.op = .call { callee := .builtin .append, args := #[s, x], argTypes := #[43, 43] })
    (B : Nat) (v : Value) (xs : List ByteArray) (b : ByteArray) (w0 : World) (hs : a.eval s = v) (hown : OwnT B w0 v xs) (hx : a.eval x = .slice (some ⟨w0.heap.size, 0, none⟩) 1 1) (hn : xs.length ≤ 1000000000000) (hB : B ≤ w0.heap.size)
    (h : ∀ v' w', OwnT B w' v' (xs ++ [b]) → Below B w0 w' → wpList Tryz.prog ops Q rest (a.put o.dst v') w') : wpList Tryz.prog ops Q (o :: rest) a (w0.alloc (.cells #[.string b] 9)) := by
  obtain ⟨i0, hi, hz0, hz1, hz2⟩ := info_parts infoStr
  refine push_one Tryz.underlying43 hi hz0 hz1 hz2 rfl hgd s x ho B v xs.length (strs xs) (.string b) w0 hs hown hx rfl (by omega) hn hB fun v' w' h1 h2 => h v' w' ?_ h2
  unfold OwnT
  rw [strs_snoc, List.length_append, List.length_singleton]
  exact h1

/-- A slice that can be read: it holds just the strings x, below block B (nil and empty ones too). -/
def ReadT (B : Nat) (w : World) (v : Value) (x : List ByteArray) : Prop :=
  ∃ A cap, v = .slice A x.length cap ∧ (0 < x.length → ∃ ad : Addr, A = some ad ∧ ad.block < B ∧ ∀ i b, x[i]? = some b → w.cell? (ad.add i) = some (.string b))
theorem ReadT.below {B : Nat} {w w' : World} {v : Value} {x : List ByteArray} (h : ReadT B w v x) (hb : Below B w w') : ReadT B w' v x := by
  obtain ⟨A, cap, rfl, h2⟩ := h
  refine ⟨A, cap, rfl, fun h0 => ?_⟩
  obtain ⟨ad, rfl, hl, hc⟩ := h2 h0
  refine ⟨ad, rfl, hl, fun i b hi => (hb.cell ?_).trans (hc i b hi)⟩
  rw [addBlock]
  exact hl
theorem ReadT.more {B C : Nat} {w : World} {v : Value} {x : List ByteArray} (h : ReadT B w v x) (hB : B ≤ C) : ReadT C w v x := by
  obtain ⟨A, cap, rfl, h2⟩ := h
  refine ⟨A, cap, rfl, fun h0 => ?_⟩
  obtain ⟨ad, rfl, hl, hc⟩ := h2 h0
  exact ⟨ad, rfl, by omega, hc⟩
theorem ReadT.nil (B : Nat) (w : World) (cap : Nat) : ReadT B w (.slice none 0 cap) [] := ⟨none, cap, rfl, fun h => absurd h (by simp)⟩
theorem OwnT.reads {B : Nat} {w : World} {v : Value} {x : List ByteArray} (h : OwnT B w v x) : ReadT w.heap.size w v x := by
  have h' : w.ownsRow B 9 1 v x.length (strs x) := h
  rcases h'.2 with ⟨rfl, h0⟩ | ⟨g, cap, cur, rfl, _, hh, _⟩
  · exact ⟨none, 0, by rw [h0], fun h => absurd h (by omega)⟩
  · refine ⟨_, cap, rfl, fun h0 => ⟨_, rfl, lt_of_block hh, fun i b hi => ?_⟩⟩
    exact h'.cells (g := g) rfl i _ (strs_get hi)
/-- A list that lies in a new block. -/
theorem ReadT.made {w : World} {g cap n o : Nat} {x : List ByteArray} (hn : x.length = n) (hg : g < w.heap.size) (hc : ∀ i b, x[i]? = some b → w.cell? ⟨g, o + i, none⟩ = some (.string b)) : ReadT w.heap.size w (.slice (some ⟨g, o, none⟩) n cap) x := by
  subst hn
  refine ⟨_, cap, rfl, fun _ => ⟨_, rfl, hg, fun i b hi => ?_⟩⟩
  rw [add_at]
  exact hc i b hi


theorem below_drewN1 (w : World) (n : Nat) : Below w.heap.size w (w.drewN n) := ⟨rfl, rfl, rfl, Nat.le_refl _, fun _ _ => rfl⟩
theorem below_drewN3 (w : World) (n m : Nat) : Below w.heap.size w ((w.drewN n).drewN m) := ⟨rfl, rfl, rfl, Nat.le_refl _, fun _ _ => rfl⟩
end Go.Proofs.YtphopnfnjnieaaaGreatDoor
