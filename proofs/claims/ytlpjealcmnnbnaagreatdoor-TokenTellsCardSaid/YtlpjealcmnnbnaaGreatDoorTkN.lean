/-
  How many tokens there may be, and how many attributes each.
-/
import Derived.Test.YtlpjealcmnnbnaaGreatDoorTkT
namespace Go.Proofs.YtlpjealcmnnbnaaGreatDoor
open Go.RowKit Tk

theorem _root_.Go.RowKit.Below.drewN {B : Nat} {w w' : World} (h : Below B w w') (n : Nat) : Below B w (w'.drewN n) := ⟨h.os, h.tape, h.output, h.size, h.block⟩
theorem toks_count (l : List UInt8) (h : l.length ≤ 100000) : (tokensL l).1.length ≤ 100000 := by
  unfold tokensL
  split
  · simp
  split
  · unfold told
    split
    · simp
    · split
      · have h1 := manyT_count l.length ((over headL l).length + 1) [] (over headL l)
        have h2 : (over headL l).length ≤ l.length := by
          unfold over
          split
          · rw [List.length_drop]; omega
          · exact Nat.le_refl _
        simp only [List.length_nil] at h1
        unfold toksL
        show (manyF _ _ _ _).1.length ≤ _
        omega
      · simp
  · simp
theorem toks_attrs (l : List UInt8) (h : l.length ≤ 100000) : ∀ t ∈ (tokensL l).1, t.2.2.2.2.1.length ≤ 100000 := by
  unfold tokensL
  split
  · simp
  split
  · unfold told
    split
    · simp
    · split
      · have h2 : (over headL l).length ≤ l.length := by
          unfold over
          split
          · rw [List.length_drop]; omega
          · exact Nat.le_refl _
        exact manyT_attrs l.length 100000 _ [] _ (by omega) (fun t h => by cases h)
      · simp
  · simp
end Go.Proofs.YtlpjealcmnnbnaaGreatDoor
