/-
  SMALL WORDS FOR WALKS THAT SEARCH: Go's own bound on a search; a cut at one sign. (For seats without package fold.)
-/
import Derived.Test.YtphopnfnjnieaaaGreatDoorRows
import Derived.Test.YtphopnfnjnieaaaGreatDoorMem
import Derived.Test.YtphopnfnjnieaaaGreatDoorShelf
import Derived.WalkKit
namespace Go.Proofs.YtphopnfnjnieaaaGreatDoor
open Go.RowKit

theorem below_drewNP (w : World) (n : Nat) : Below w.heap.size w (w.drewN n) := ⟨rfl, rfl, rfl, Nat.le_refl _, fun _ _ => rfl⟩
/-- Go's own bound on a search, whatever it be -/
def MaxL (w : World) : Prop := ∃ m, w.cell? ⟨5, 0, none⟩ = some (.int .i64 m)
theorem MaxL.below {w w' : World} (h : MaxL w) (hb : Below w.heap.size w w') : MaxL w' := by
  obtain ⟨m, hm⟩ := h
  refine ⟨m, ?_⟩
  rw [hb.cell (p := ⟨5, 0, none⟩) (World.block_lt_of_cell? _ _ hm)]
  exact hm
theorem MaxL.belowB {w w' : World} {B : Nat} (h : MaxL w) (hb : Below B w w') (hB : 5 < B) : MaxL w' := by
  obtain ⟨m, hm⟩ := h
  exact ⟨m, by rw [hb.cell (p := ⟨5, 0, none⟩) hB]; exact hm⟩

/-- ahead of the first sign c, and behind it -/
theorem cut_one (c : UInt8) : ∀ l : List UInt8, (Lib.cut l [c] = (l, [], false) ∧ ∀ x ∈ l, x ≠ c) ∨ ∃ p r, l = p ++ c :: r ∧ (∀ x ∈ p, x ≠ c) ∧ Lib.cut l [c] = (p, r, true) := by
  intro l
  rcases Lib.index_spec l [c] with ⟨h1, h2⟩ | ⟨i, h1, h2, h3, h4⟩
  · left
    refine ⟨by unfold Lib.cut; rw [h1]; rfl, fun x hx e => ?_⟩
    subst e
    obtain ⟨j, hj, hx⟩ := List.mem_iff_getElem.1 hx
    have := h2 j (by omega)
    unfold Lib.occAt at this
    rw [List.drop_eq_getElem_cons hj, hx] at this
    simp [List.isPrefixOf] at this
  · right
    unfold Lib.occAt at h3
    rw [List.isPrefixOf_iff_prefix] at h3
    obtain ⟨r, hr⟩ := h3
    have hr2 : l.drop i = c :: r := hr.symm
    have hl : l = l.take i ++ c :: r := by rw [← hr2, List.take_append_drop]
    have hr3 : l.drop (i + 1) = r := by
      have := congrArg (List.drop 1) hr2
      simpa [List.drop_drop] using this
    refine ⟨l.take i, r, hl, fun x hx e => ?_, ?_⟩
    · subst e
      obtain ⟨j, hj, hx⟩ := List.mem_iff_getElem.1 hx
      rw [List.length_take] at hj
      have := h4 j (by omega)
      unfold Lib.occAt at this
      rw [List.getElem_take] at hx
      rw [List.drop_eq_getElem_cons (by omega), hx] at this
      simp [List.isPrefixOf] at this
    · unfold Lib.cut
      rw [h1, if_pos (by omega)]
      simp only [Int.toNat_natCast, List.length_singleton]
      rw [hr3]
end Go.Proofs.YtphopnfnjnieaaaGreatDoor
