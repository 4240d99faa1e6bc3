import Derived.Test.YtogjhpcjjmcjfaaGreatDoorRows
import Derived.Test.YtogjhpcjjmcjfaaGreatDoorI05
import Derived.Test.YtogjhpcjjmcjfaaGreatDoorShelf
import Derived.WalkKit
import Derived.WalkSpells
import Derived.WalkLawsBesides
import Derived.Laws.AppendOwn
import Derived.Deep.RegionLaw
import Derived.Lib.Hide
import Derived.Lib.FrozenHead2
import Derived.Test.YtogjhpcjjmcjfaaGreatDoorI04
import Derived.Test.YtogjhpcjjmcjfaaGreatDoorI29
import Derived.Test.YtogjhpcjjmcjfaaGreatDoorI28
import Derived.Lib.OthersKept
import Derived.Scope
import Derived.Deep.RegionWith
import Derived.Deep.QuietTactic
import Derived.BigQuiet
section
/- what is reached of it -/
namespace Go.Proofs.YtogjhpcjjmcjfaaGreatDoor
open Go.RowKit
theorem below_drewNP (w : World) (n : Nat) : Below w.heap.size w (w.drewN n) := ⟨rfl, rfl, rfl, Nat.le_refl _, fun _ _ => rfl⟩
/-- Go's own bound on a search, whatever it be -/
def MaxL (w : World) : Prop := ∃ m, w.cell? ⟨0, 0, none⟩ = some (.int .i64 m)
theorem MaxL.below {w w' : World} (h : MaxL w) (hb : Below w.heap.size w w') : MaxL w' := by
  obtain ⟨m, hm⟩ := h
  refine ⟨m, ?_⟩
  rw [hb.cell (p := ⟨0, 0, none⟩) (World.block_lt_of_cell? _ _ hm)]
  exact hm
/-- ahead of the first sign c, and behind it -/
theorem cut_one (c : UInt8) : ∀ l : List UInt8, (Lib.cut l [c] = (l, [], false) ∧ ∀ x ∈ l, x ≠ c) ∨ ∃ p r, l = p ++ c :: r ∧ (∀ x ∈ p, x ≠ c) ∧ Lib.cut l [c] = (p, r, true) := by
  intro l
  rcases Lib.index_spec l [c] with ⟨h1, h2⟩ | ⟨i, h1, h2, h3, h4⟩
  · left
    refine ⟨by unfold Lib.cut; rw [h1]; rfl, fun x hx e => ?_⟩
    subst e
    obtain ⟨j, hj, hx⟩ := List.mem_iff_getElem.1 hx
    have := h2 j (by omega)
    unfold Lib.occAt at this
    rw [List.drop_eq_getElem_cons hj, hx] at this
    simp [List.isPrefixOf] at this
  · right
    unfold Lib.occAt at h3
    rw [List.isPrefixOf_iff_prefix] at h3
    obtain ⟨r, hr⟩ := h3
    have hr2 : l.drop i = c :: r := hr.symm
    have hl : l = l.take i ++ c :: r := by rw [← hr2, List.take_append_drop]
    have hr3 : l.drop (i + 1) = r := by
      have := congrArg (List.drop 1) hr2
      simpa [List.drop_drop] using this
    refine ⟨l.take i, r, hl, fun x hx e => ?_, ?_⟩
    · subst e
      obtain ⟨j, hj, hx⟩ := List.mem_iff_getElem.1 hx
      rw [List.length_take] at hj
      have := h4 j (by omega)
      unfold Lib.occAt at this
      rw [List.getElem_take] at hx
      rw [List.drop_eq_getElem_cons (by omega), hx] at this
      simp [List.isPrefixOf] at this
    · unfold Lib.cut
      rw [h1, if_pos (by omega)]
      simp only [Int.toNat_natCast, List.length_singleton]
      rw [hr3]
end Go.Proofs.YtogjhpcjjmcjfaaGreatDoor
end
section
/- what is reached of it -/
namespace Go.Proofs.YtogjhpcjjmcjfaaGreatDoor
open Go.RowKit
/-- An attribute: its name, its value. -/
abbrev Att := List UInt8 × List UInt8
theorem Bk.type_ne {w : World} {g T : Nat} {t u : TypeId} {cs ds : Array Value} (h : Bk w g t cs) (k : Bk w T u ds) (hn : t ≠ u) : g ≠ T := fun e => by
  subst e
  have e1 : w.heap[g]? = some (.cells cs t (0, 0)) := h
  have e2 : w.heap[g]? = some (.cells ds u (0, 0)) := k
  rw [e1] at e2
  injection e2 with e2
  injection e2 with _ e2
  exact hn e2
abbrev bts (l : List UInt8) : ByteArray := ⟨l.toArray⟩
/-- u is a slice that can be read: these attributes. -/
def ReadA (w : World) (u : Value) (l : List Att) : Prop := ∃ A cap, u = .slice A l.length cap ∧ (0 < l.length → ∃ ad : Addr, A = some ad ∧ ad.block < w.heap.size ∧ ∀ i a, l[i]? = some a → w.cell? (ad.add (i * 2)) = some (.string (bts a.1)) ∧ w.cell? ⟨(ad.add (i * 2)).block, (ad.add (i * 2)).off + 1, none⟩ = some (.string (bts a.2)))
theorem ReadA.below {w w' : World} {u : Value} {l : List Att} (h : ReadA w u l) (hb : Below w.heap.size w w') : ReadA w' u l := by
  obtain ⟨A, cap, rfl, h2⟩ := h
  refine ⟨A, cap, rfl, fun h0 => ?_⟩
  obtain ⟨ad, rfl, hl, hc⟩ := h2 h0
  refine ⟨ad, rfl, Nat.lt_of_lt_of_le hl hb.size, fun i a hi => ?_⟩
  rw [hb.cell (by rw [addBlock]; exact hl), hb.cell (by show (ad.add (i * 2)).block < _; rw [addBlock]; exact hl)]
  exact hc i a hi
theorem ReadA.one {w : World} {u : Value} {l : List Att} (h : ReadA w u l) : u.oneCell' = true := by
  obtain ⟨A, cap, rfl, _⟩ := h
  rfl
end Go.Proofs.YtogjhpcjjmcjfaaGreatDoor
end
section
/- what is reached of it -/
namespace Go.Proofs.YtogjhpcjjmcjfaaGreatDoor
open Go.RowKit
/-- What a builder's call may turn: block b, and blocks from C on. -/
structure Btw (b C : Nat) (w w' : World) : Prop where
  below : Below b w w'
  mid : ∀ g, b < g → g < C → w'.heap[g]? = w.heap[g]?
theorem Btw.refl (b C : Nat) (w : World) : Btw b C w w := ⟨Below.refl _ _, fun _ _ _ => rfl⟩
theorem Btw.trans {b C : Nat} {w x y : World} (h : Btw b C w x) (k : Btw b C x y) : Btw b C w y := ⟨h.below.trans k.below, fun g h1 h2 => (k.mid g h1 h2).trans (h.mid g h1 h2)⟩
theorem Btw.of {b C D : Nat} {w x : World} (h : Below D w x) (h1 : b ≤ D) (h2 : C ≤ D) : Btw b C w x := ⟨h.mono h1, fun g _ hg => h.block g (by omega)⟩
theorem Btw.keeps {b C g : Nat} {w x : World} (h : Btw b C w x) (h1 : g ≠ b) (h2 : g < C) : x.heap[g]? = w.heap[g]? := by
  rcases Nat.lt_or_ge g b with h3 | h3
  · exact h.below.block g h3
  · exact h.mid g (by omega) h2
end Go.Proofs.YtogjhpcjjmcjfaaGreatDoor
end
section
/- what is reached of it -/
namespace Go.Proofs.YtogjhpcjjmcjfaaGreatDoor
open Go.RowKit Tx
/-- a part of a slice -/
def slv (g cap : Nat) (x : Nat × Nat) : Value := .slice (some ⟨g, x.1, none⟩) (x.2 - x.1) (cap - x.1)
def slvs (g cap : Nat) (l : List (Nat × Nat)) : List Value := l.map (slv g cap)
theorem slvs_get {g cap : Nat} {l : List (Nat × Nat)} {j : Nat} {x : Nat × Nat} (h : l[j]? = some x) : (slvs g cap l)[j]? = some (slv g cap x) := by simp [slvs, h]
attribute [irreducible] slvs
theorem drop_bit {bs : List Bool} {k : Nat} {b : Bool} (h : bs[k]? = some b) : bs.drop k = b :: bs.drop (k + 1) := by
  obtain ⟨hk, he⟩ := List.getElem?_eq_some_iff.1 h
  rw [List.drop_eq_getElem_cons hk, he]
/-- how the gathering stands: R are told, the open row goes from o to k -/
def GStand (bs : List Bool) (R : List (Nat × Nat)) (o k : Nat) : Prop := R.length ≤ k ∧ ivs 0 0 bs = R ++ ivs o k (bs.drop k)
theorem GStand.start (bs : List Bool) : GStand bs [] 0 0 := ⟨Nat.le_refl _, rfl⟩
theorem GStand.cut {bs : List Bool} {R : List (Nat × Nat)} {o k : Nat} (h : GStand bs R o k) (hb : bs[k]? = some true) : GStand bs (R ++ [(o, k)]) k (k + 1) := by
  refine ⟨by rw [List.length_append, List.length_singleton]; have := h.1; omega, ?_⟩
  rw [h.2, drop_bit hb]
  show R ++ ((o, k) :: ivs k (k + 1) _) = _
  simp
theorem GStand.done {bs : List Bool} {R : List (Nat × Nat)} {o k : Nat} (h : GStand bs R o k) (hk : bs.length ≤ k) : ivs 0 0 bs = R ++ [(o, k)] := by
  rw [h.2, List.drop_eq_nil_of_le hk]
  rfl
/-- A slice of slices, each a part of the one at g. -/
def Rows2 (C : Nat) (w : World) (v : Value) (g cap : Nat) (l : List (Nat × Nat)) : Prop :=
  ∃ g' cap', v = .slice (some ⟨g', 0, none⟩) l.length cap' ∧ l.length ≤ cap' ∧ C ≤ g' ∧ g' < w.heap.size ∧ ∀ j x, l[j]? = some x → w.cell? ⟨g', j, none⟩ = some (slv g cap x)
theorem Rows2.of {C : Nat} {w : World} {v : Value} {g cap : Nat} {l : List (Nat × Nat)} {e : TypeId} (h : w.ownsRow C e 1 v l.length (slvs g cap l)) (hl : 0 < l.length) : Rows2 C w v g cap l := by
  rcases h.2 with ⟨_, h0⟩ | ⟨g', cap', cur, rfl, hC, hg, hc, _⟩
  · omega
  · refine ⟨g', cap', rfl, hc, hC, lt_of_block hg, fun j x hj => ?_⟩
    have := h.cells (g := g') rfl j _ (slvs_get hj)
    rwa [add_at, Nat.zero_add] at this
end Go.Proofs.YtogjhpcjjmcjfaaGreatDoor
end
section
/- what is reached of it -/
namespace Go.Proofs.YtogjhpcjjmcjfaaGreatDoor
open Go.RowKit Tx
/-- signs of one byte -/
def Asc (C : ByteArray) : Prop := ∀ i (h : i < C.size), (C[i]'h).toNat < 128
theorem Asc.all {C : ByteArray} (h : Asc C) : ∀ b ∈ C.data.toList, b.toNat < 128 := fun b hb => by
  obtain ⟨i, hi, e⟩ := List.mem_iff_getElem.1 hb
  have hi2 : i < C.size := by rw [Lib.size_eq]; exact hi
  have h2 := Lib.data_getElem? C i hi2
  rw [List.getElem?_eq_getElem hi, e] at h2
  have := h i hi2
  rwa [← Option.some.inj h2] at this
theorem Asc.of {C : ByteArray} (h : C.data.toList.all (fun b => decide (b.toNat < 128)) = true) : Asc C := fun i hi => of_decide_eq_true (List.all_eq_true.1 h _ (List.mem_of_getElem? (Lib.data_getElem? C i hi)))
end Go.Proofs.YtogjhpcjjmcjfaaGreatDoor
end
