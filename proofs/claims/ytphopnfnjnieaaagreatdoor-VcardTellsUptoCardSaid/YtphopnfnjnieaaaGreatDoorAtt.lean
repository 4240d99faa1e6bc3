/-
  MEMORY: attributes (pairs of texts) in rows: those that the call has made, those that stand by their block's type, those that can be read.
-/
import Derived.Test.YtphopnfnjnieaaaGreatDoorRows
import Derived.Test.YtphopnfnjnieaaaGreatDoorMem
import Derived.WalkKit
import Derived.WalkSpells
import Derived.WalkLawsBesides
import Derived.Laws.AppendOwn
import Derived.Deep.RegionLaw
import Derived.Lib.Hide
namespace Go.Proofs.YtphopnfnjnieaaaGreatDoor
open Go.RowKit

/-- An attribute: its name, its value. -/
abbrev Att := List UInt8 × List UInt8
theorem Bk.type_ne {w : World} {g T : Nat} {t u : TypeId} {cs ds : Array Value} (h : Bk w g t cs) (k : Bk w T u ds) (hn : t ≠ u) : g ≠ T := fun e => by
  subst e
  have e1 : w.heap[g]? = some (.cells cs t (0, 0)) := h
  have e2 : w.heap[g]? = some (.cells ds u (0, 0)) := k
  rw [e1] at e2
  injection e2 with e2
  injection e2 with _ e2
  exact hn e2
/-! ### attributes -/
abbrev bts (l : List UInt8) : ByteArray := ⟨l.toArray⟩
theorem infoAtt : (Tryz.prog.info? 38).map (fun i => (i.zero, i.size, i.bytes)) = some (some (.agg #[.string ⟨#[]⟩, .string ⟨#[]⟩]), 2, 32) := by kernel_rfl
def encA (a : Att) : List Value := [.string (bts a.1), .string (bts a.2)]
abbrev agA (a : Att) : Value := .agg #[.string (bts a.1), .string (bts a.2)]
def ats (l : List Att) : List Value := l.flatMap encA
theorem ats_nil : ats [] = [] := rfl
theorem ats_append (a b : List Att) : ats (a ++ b) = ats a ++ ats b := by simp [ats]
theorem ats_one (r : Att) : ats [r] = [.string (bts r.1), .string (bts r.2)] := by simp [ats, encA]
theorem ats_cons (r : Att) (l : List Att) : ats (r :: l) = .string (bts r.1) :: .string (bts r.2) :: ats l := by simp [ats, encA]
theorem ats_length : ∀ (l : List Att), (ats l).length = l.length * 2
  | [] => rfl
  | r :: l => by rw [ats_cons, List.length_cons, List.length_cons, ats_length l, List.length_cons]; omega
theorem ats_get : ∀ {l : List Att} {j : Nat} {r : Att}, l[j]? = some r → (ats l)[j * 2]? = some (.string (bts r.1)) ∧ (ats l)[j * 2 + 1]? = some (.string (bts r.2))
  | [], j, r, h => by simp at h
  | a :: l, 0, r, h => by
    obtain rfl : a = r := by simpa using h
    rw [ats_cons]
    exact ⟨rfl, rfl⟩
  | a :: l, j + 1, r, h => by
    have := ats_get (l := l) (j := j) (r := r) (by simpa using h)
    rw [ats_cons, show (j + 1) * 2 = j * 2 + 1 + 1 by omega]
    simpa using this
theorem ats_cells (l : List Att) : ∀ u ∈ ats l, u.oneCell' = true := by
  intro u hu
  obtain ⟨r, _, hr⟩ := List.mem_flatMap.1 hu
  simp [encA] at hr
  rcases hr with rfl | rfl <;> rfl
attribute [irreducible] ats

/-- The slice v, made by the call (above block B), holds just these attributes. -/
def OwnA (B : Nat) (w : World) (v : Value) (l : List Att) : Prop := w.ownsRow B 38 2 v l.length (ats l)
theorem OwnA.nil (B : Nat) (w : World) : OwnA B w (.slice none 0 0) [] := by
  unfold OwnA
  rw [ats_nil]
  exact World.ownsRow_nil _ _ _ _
theorem OwnA.below {B : Nat} {w w' : World} {v : Value} {l : List Att} (h : OwnA B w v l) (hb : Below w.heap.size w w') : OwnA B w' v l := by
  have h' : w.ownsRow B 38 2 v l.length (ats l) := h
  rcases h'.2 with ⟨rfl, h0⟩ | ⟨g, cap, cur, rfl, hg, hh, h1, h2, h3, h4⟩
  · exact ⟨h'.1, .inl ⟨rfl, h0⟩⟩
  · exact ⟨h'.1, .inr ⟨g, cap, cur, rfl, hg, (hb.block g (lt_of_block hh)).trans hh, h1, h2, h3, h4⟩⟩
theorem OwnA.slice {B : Nat} {w : World} {v : Value} {l : List Att} (h : OwnA B w v l) : ∃ A cap, v = .slice A l.length cap := by
  rcases h.2 with ⟨rfl, h0⟩ | ⟨g, cap, cur, rfl, _⟩
  · exact ⟨none, 0, by rw [h0]⟩
  · exact ⟨_, _, rfl⟩
theorem OwnA.weak {B B' : Nat} {w : World} {v : Value} {l : List Att} (h : OwnA B w v l) (hB : B' ≤ B) : OwnA B' w v l :=
  ⟨h.1, h.2.imp id fun ⟨g, cap, cur, h1, h2, h3⟩ => ⟨g, cap, cur, h1, Nat.le_trans hB h2, h3⟩⟩
/-- a store into a block that holds no attributes -/
theorem OwnA.stored {B g : Nat} {w : World} {v : Value} {l : List Att} {cs : Array Value} {t : TypeId} (h : OwnA B w v l) (hb : Bk w g t cs) (ht : t ≠ 38) (o : Nat) (x : Value) : OwnA B (w.setCell ⟨g, o, none⟩ x) v l := by
  have h' : w.ownsRow B 38 2 v l.length (ats l) := h
  rcases h'.2 with ⟨rfl, h0⟩ | ⟨g', cap, cur, rfl, hg, hh, h1, h2, h3, h4⟩
  · exact ⟨h'.1, .inl ⟨rfl, h0⟩⟩
  · have hne : g' ≠ g := Bk.type_ne (show Bk w g' _ _ from hh) hb (fun e => ht e.symm)
    exact ⟨h'.1, .inr ⟨g', cap, cur, rfl, hg, (Below.heap_setCell _ _ _ _ hne).trans hh, h1, h2, h3, h4⟩⟩
/-- u holds these attributes, in a block of attributes of its own. -/
def RowA (w : World) (u : Value) (l : List Att) : Prop := ∃ A cap, u = .slice A l.length cap ∧ (0 < l.length → ∃ g cs, A = some ⟨g, 0, none⟩ ∧ Bk w g 38 cs ∧ cs.toList.take (l.length * 2) = ats l) ∧ l.length ≤ cap ∧ cap ≤ maxLen ∧ (A = none → cap = 0)
theorem OwnA.row {B : Nat} {w : World} {v : Value} {l : List Att} (h : OwnA B w v l) : RowA w v l := by
  have h' : w.ownsRow B 38 2 v l.length (ats l) := h
  rcases h'.2 with ⟨rfl, h0⟩ | ⟨g, cap, cur, rfl, hg, hh, h1, h2, h3, h4⟩
  · exact ⟨none, 0, by rw [h0], fun h => by omega, by omega, Nat.zero_le _, fun _ => rfl⟩
  · exact ⟨_, cap, rfl, fun _ => ⟨g, cur, rfl, hh, h4⟩, h1, h2, fun e => by cases e⟩
/-- All blocks of attributes stay. -/
def KeepA (w w' : World) : Prop := ∀ k cs, Bk w k 38 cs → Bk w' k 38 cs
theorem KeepA.trans {a b c : World} (h : KeepA a b) (k : KeepA b c) : KeepA a c := fun g cs hg => k g cs (h g cs hg)
theorem KeepA.below {w w' : World} (h : Below w.heap.size w w') : KeepA w w' := fun _ _ hg => (h.block _ hg.lt).trans hg
theorem KeepA.set {w : World} {g : Nat} {t : TypeId} {cs : Array Value} (h : Bk w g t cs) (ht : t ≠ 38) (o : Nat) (x : Value) : KeepA w (w.setCell ⟨g, o, none⟩ x) := fun _ _ hk =>
  (Below.heap_setCell _ _ _ _ (Bk.type_ne hk h (fun e => ht e.symm))).trans hk
theorem RowA.keep {w w' : World} {u : Value} {l : List Att} (h : RowA w u l) (hk : KeepA w w') : RowA w' u l := by
  obtain ⟨A, cap, rfl, h2, hcp⟩ := h
  refine ⟨A, cap, rfl, fun h0 => ?_, hcp⟩
  obtain ⟨g, cs, rfl, h3, h4⟩ := h2 h0
  exact ⟨g, cs, rfl, hk g cs h3, h4⟩
theorem RowA.cells {w : World} {u : Value} {l : List Att} (h : RowA w u l) : ∃ A cap, u = .slice A l.length cap ∧ (0 < l.length → ∃ g, A = some ⟨g, 0, none⟩ ∧ g < w.heap.size ∧ ∀ i a, l[i]? = some a → w.cell? ⟨g, i * 2, none⟩ = some (.string (bts a.1)) ∧ w.cell? ⟨g, i * 2 + 1, none⟩ = some (.string (bts a.2))) := by
  obtain ⟨A, cap, rfl, h2, -⟩ := h
  refine ⟨A, cap, rfl, fun h0 => ?_⟩
  obtain ⟨g, cs, rfl, h3, h4⟩ := h2 h0
  refine ⟨g, rfl, h3.lt, fun i a hi => ?_⟩
  have hi2 := (List.getElem?_eq_some_iff.1 hi).1
  have h5 := ats_get hi
  rw [h3.cell, h3.cell, ← Array.getElem?_toList, ← Array.getElem?_toList]
  rw [← h4, List.getElem?_take_of_lt (by omega), List.getElem?_take_of_lt (by omega)] at h5
  exact h5

/-- u is a slice that can be read: these attributes. -/
def ReadA (w : World) (u : Value) (l : List Att) : Prop := ∃ A cap, u = .slice A l.length cap ∧ (0 < l.length → ∃ ad : Addr, A = some ad ∧ ad.block < w.heap.size ∧ ∀ i a, l[i]? = some a → w.cell? (ad.add (i * 2)) = some (.string (bts a.1)) ∧ w.cell? ⟨(ad.add (i * 2)).block, (ad.add (i * 2)).off + 1, none⟩ = some (.string (bts a.2)))
theorem ReadA.below {w w' : World} {u : Value} {l : List Att} (h : ReadA w u l) (hb : Below w.heap.size w w') : ReadA w' u l := by
  obtain ⟨A, cap, rfl, h2⟩ := h
  refine ⟨A, cap, rfl, fun h0 => ?_⟩
  obtain ⟨ad, rfl, hl, hc⟩ := h2 h0
  refine ⟨ad, rfl, Nat.lt_of_lt_of_le hl hb.size, fun i a hi => ?_⟩
  rw [hb.cell (by rw [addBlock]; exact hl), hb.cell (by show (ad.add (i * 2)).block < _; rw [addBlock]; exact hl)]
  exact hc i a hi
theorem RowA.reads {w : World} {u : Value} {l : List Att} (h : RowA w u l) : ReadA w u l := by
  obtain ⟨A, cap, rfl, h2⟩ := h.cells
  refine ⟨A, cap, rfl, fun h0 => ?_⟩
  obtain ⟨g, rfl, hl, hc⟩ := h2 h0
  refine ⟨_, rfl, hl, fun i a hi => ?_⟩
  rw [add_at, Nat.zero_add]
  exact hc i a hi
theorem ReadA.one {w : World} {u : Value} {l : List Att} (h : ReadA w u l) : u.oneCell' = true := by
  obtain ⟨A, cap, rfl, _⟩ := h
  rfl
/-- An append of one attribute. -/
theorem push_att {ops : Array Oper} {rest : List Oper} {o : Oper} {a : Act} {Q : Exit → Act → World → Prop} (hgd : o.guard = none) (s x : Operand) (ho : o.op = .call { callee := .builtin .append, args := #[s, x], argTypes := #[39, 39] })
    (B : Nat) (v : Value) (l : List Att) (p : Att) (x1 x2 : ByteArray) (h1 : bts p.1 = x1) (h2 : bts p.2 = x2) (w0 : World) (hs : a.eval s = v) (hown : OwnA B w0 v l) (hx : a.eval x = .slice (some ⟨w0.heap.size, 0, none⟩) 1 1) (hn : l.length ≤ 1000000000) (hB : B ≤ w0.heap.size)
    (h : ∀ v' w', OwnA B w' v' (l ++ [p]) → Below B w0 w' → (∀ k, k < w0.heap.size → some k ≠ v.ownBlock → w'.heap[k]? = w0.heap[k]?) → wpList Tryz.prog ops Q rest (a.put o.dst v') w') : wpList Tryz.prog ops Q (o :: rest) a (w0.alloc (.cells #[.string x1, .string x2] 38)) := by
  subst h1 h2
  obtain ⟨i0, hi, hz0, hz1, hz2⟩ := info_parts infoAtt
  have hown' : w0.ownsRow B 38 2 v l.length (ats l) := hown
  refine wpList_append_own _ hgd s x 39 ho B 38 i0 _ 2 32 Tryz.underlying39 hi hz0 hz1 hz2 rfl (by decide) v l.length (ats l) hs (hown'.alloc _) ⟨w0.heap.size, 0, none⟩ 1 1 [.string (bts p.1), .string (bts p.2)] hx rfl ?_ ?_ ?_ (by omega) (by simp; omega) ?_
  · intro j y hj
    rw [add_at, cell_of_row _ _ _ #[_, _] _ (0, 0) (heap_alloc_new w0 _)]
    rw [Nat.zero_add]
    simpa using hj
  · intro y hy
    simp at hy
    rcases hy with rfl | rfl <;> rfl
  · unfold maxLen; omega
  · intro v' w' hown2 hg _
    refine h v' w' ?_ (((Below.refl B w0).alloc hB _).grown hg (by simp; omega) (fun j hj => (World.ownsRow.lt hown' j hj).1)) (fun k hk hne => ?_)
    · unfold OwnA
      rw [ats_append, ats_one, List.length_append, List.length_singleton]
      exact hown2
    · rw [hg.block k (by simp; omega) hne]
      exact Below.heap_alloc w0 _ k hk
end Go.Proofs.YtphopnfnjnieaaaGreatDoor
