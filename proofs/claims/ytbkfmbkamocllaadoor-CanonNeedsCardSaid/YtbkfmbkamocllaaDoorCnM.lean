/-
  NODES THAT CAN BE READ, each slice within its capacity; slices of numbers, cut.
-/
import Derived.Test.YtbkfmbkamocllaaDoorKids
import Derived.Test.YtbkfmbkamocllaaDoorCanR
namespace Go.Proofs.YtbkfmbkamocllaaDoor
open Go.RowKit Tk Tr

/-- Attributes that can be read, within their capacity. -/
def ReadC (w : World) (u : Value) (l : List Att) : Prop := ∃ A cap, u = .slice A l.length cap ∧ l.length ≤ cap ∧ (cap ≤ maxLen ∧ (A = none → cap = 0)) ∧ (0 < l.length → ∃ ad : Addr, A = some ad ∧ ad.block < w.heap.size ∧ ∀ i a, l[i]? = some a → w.cell? (ad.add (i * 2)) = some (.string (bts a.1)) ∧ w.cell? ⟨(ad.add (i * 2)).block, (ad.add (i * 2)).off + 1, none⟩ = some (.string (bts a.2)))
theorem ReadC.reads {w : World} {u : Value} {l : List Att} (h : ReadC w u l) : ReadA w u l := by
  obtain ⟨A, cap, rfl, _, _, h2⟩ := h
  exact ⟨A, cap, rfl, h2⟩
theorem ReadC.below {w w' : World} {u : Value} {l : List Att} (h : ReadC w u l) (hb : Below w.heap.size w w') : ReadC w' u l := by
  obtain ⟨A, cap, rfl, c1, c2, h2⟩ := h
  refine ⟨A, cap, rfl, c1, c2, fun h0 => ?_⟩
  obtain ⟨ad, rfl, hl, hc⟩ := h2 h0
  refine ⟨ad, rfl, Nat.lt_of_lt_of_le hl hb.size, fun i a hi => ?_⟩
  rw [hb.cell (by rw [addBlock]; exact hl), hb.cell (by show (ad.add (i * 2)).block < _; rw [addBlock]; exact hl)]
  exact hc i a hi
theorem ReadC.nil (w : World) : ReadC w (.slice none 0 0) [] := ⟨none, 0, rfl, Nat.le_refl _, ⟨Nat.zero_le _, fun _ => rfl⟩, fun h => absurd h (Nat.not_lt_zero _)⟩
/-- A slice of nodes that can be read, within its capacity. -/
def ReadM (w : World) (v : Value) (ns : List Nd) : Prop := ∃ A cap, v = .slice A ns.length cap ∧ ns.length ≤ cap ∧ cap ≤ maxLen ∧ (0 < ns.length → ∃ ad : Addr, A = some ad ∧ ad.block < w.heap.size ∧ ∀ i x, ns[i]? = some x → ∃ u, AtN w (ad.add (i * 6)) x u ∧ ReadC w u x.2.2.2.2.1)
theorem ReadM.reads {w : World} {v : Value} {ns : List Nd} (h : ReadM w v ns) : ReadN w v ns := by
  obtain ⟨A, cap, rfl, _, _, h2⟩ := h
  refine ⟨A, cap, rfl, fun h0 => ?_⟩
  obtain ⟨ad, rfl, hl, hc⟩ := h2 h0
  refine ⟨ad, rfl, hl, fun i x hi => ?_⟩
  obtain ⟨u, h3, h4⟩ := hc i x hi
  exact ⟨u, h3, h4.reads⟩
theorem ReadM.below {w w' : World} {v : Value} {ns : List Nd} (h : ReadM w v ns) (hb : Below w.heap.size w w') : ReadM w' v ns := by
  obtain ⟨A, cap, rfl, c1, c2, h2⟩ := h
  refine ⟨A, cap, rfl, c1, c2, fun h0 => ?_⟩
  obtain ⟨ad, rfl, hl, hc⟩ := h2 h0
  refine ⟨ad, rfl, Nat.lt_of_lt_of_le hl hb.size, fun i x hi => ?_⟩
  obtain ⟨u, h3, h4⟩ := hc i x hi
  exact ⟨u, h3.of (hb.block _ (by rw [addBlock]; exact hl)), h4.below hb⟩
/-- the first j numbers of such a slice -/
theorem Owned.cut {B : Nat} {w : World} {A : Option Addr} {n cap : Nat} {x : List Nat} (h : Owned B w (.slice A n cap) x) {j : Nat} (hj : j ≤ x.length) (h0 : 0 < x.length) : Owned B w (.slice A j cap) (x.take j) ∧ j ≤ cap ∧ cap ≤ maxLen := by
  have h' : w.ownsRow B 3 1 (.slice A n cap) x.length (ints x) := h
  rcases h'.2 with ⟨_, hz⟩ | ⟨g, cap', cur, hv, hg, hh, h1, h2, h3, h4⟩
  · omega
  · injection hv with e1 e2 e3
    subst e1 e3
    refine ⟨?_, by omega, h2⟩
    show w.ownsRow B 3 1 _ (x.take j).length (ints (x.take j))
    have hl : (x.take j).length = j := by rw [List.length_take]; omega
    rw [hl]
    refine ⟨by rw [ints_length, hl, Nat.mul_one], .inr ⟨g, cap, cur, rfl, hg, hh, by omega, h2, h3, ?_⟩⟩
    have e : ints (x.take j) = (ints x).take j := by unfold ints; rw [List.map_take]
    rw [e, ← h4, List.take_take]
    congr 1
    omega
/-- one number, written out -/
theorem Owned.one (w : World) (z : Int) (c : Nat) (hz : z = (c : Int)) : Owned w.heap.size (w.alloc (.cells #[.int .i64 z] 3)) (.slice (some ⟨w.heap.size, 0, none⟩) 1 1) [c] := by
  subst hz
  refine ⟨by rw [ints_length]; rfl, .inr ⟨w.heap.size, 1, _, rfl, Nat.le_refl _, heap_alloc_new w _, Nat.le_refl _, by decide, rfl, ?_⟩⟩
  simp [ints]
theorem bts_empty (l : List UInt8) : (bts l).toList.isEmpty = decide (l = []) := by
  rw [ByteArray.toList_mk]
  cases l <;> simp
end Go.Proofs.YtbkfmbkamocllaaDoor
