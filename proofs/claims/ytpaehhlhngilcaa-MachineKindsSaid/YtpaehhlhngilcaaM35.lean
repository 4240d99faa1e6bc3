import Derived.Test.YtpaehhlhngilcaaM34
import Derived.Test.YtpaehhlhngilcaaM06
/- what is reached of it -/
namespace Go.Proofs.Ytpaehhlhngilcaa
open Go.RowKit Tx Vc Ct
/-- what is right stays right -/
theorem right_step (m : Mod) (e : Int) (h : rightM m = true) : rightM (stepM m e) = true := by
  have h1 : ∀ a b c d f : Bool, rightM ⟨a, b, c, d, f⟩ = true → rightM (askM ⟨a, b, c, d, f⟩) = true ∧ rightM (leaveM ⟨a, b, c, d, f⟩) = true ∧ rightM (letM ⟨a, b, c, d, f⟩) = true ∧ rightM (refuseM ⟨a, b, c, d, f⟩) = true ∧ rightM (waitM ⟨a, b, c, d, f⟩) = true ∧ rightM (loseM ⟨a, b, c, d, f⟩) = true ∧ rightM (seeM ⟨a, b, c, d, f⟩) = true := by decide
  obtain ⟨a, b, c, d, f⟩ := m
  obtain ⟨k1, k2, k3, k4, k5, k6, k7⟩ := h1 a b c d f h
  unfold stepM
  repeat' split
  all_goals assumption
/-- a number by modulo 8, as the law reckons it -/
theorem mod8_any (z : Int) : ∃ e : Int, wrap64 (1 + wrap64 ((IntKind.u64.wrap z).tmod 8)) = e ∧ (e = 1 ∨ e = 2 ∨ e = 3 ∨ e = 4 ∨ e = 5 ∨ e = 6 ∨ e = 7 ∨ e = 8) := by
  obtain ⟨n, hn, hn8⟩ := uintMod z 8 (by decide) (by decide)
  refine ⟨1 + (n : Int), ?_, by omega⟩
  rw [hn]
  unfold wrap64
  omega
end Go.Proofs.Ytpaehhlhngilcaa
