/-
  int(uint(c) % k), as a walk meets it.
-/
import Derived.WalkKit
namespace Go.Proofs.YtphopnfnjnieaaaDoor
open Go.RowKit

theorem uintMod (c : Int) (k : Int) (hk : 0 < k) (hk2 : k < 2000000) : ∃ n : Nat, wrap64 ((IntKind.u64.wrap c).tmod k) = (n : Int) ∧ (n : Int) < k := by
  have e : IntKind.u64.wrap c = c % 18446744073709551616 := by simp [IntKind.wrap, IntKind.bits, IntKind.signed]
  have h0 : 0 ≤ IntKind.u64.wrap c := by rw [e]; exact Int.emod_nonneg _ (by decide)
  rw [Int.tmod_eq_emod_of_nonneg h0]
  have h1 := Int.emod_nonneg (IntKind.u64.wrap c) (show k ≠ 0 by omega)
  have h2 := Int.emod_lt_of_pos (IntKind.u64.wrap c) hk
  refine ⟨(IntKind.u64.wrap c % k).toNat, ?_, by omega⟩
  unfold wrap64
  omega
theorem uintMod' (c : Int) (k : Nat) (hk : 0 < k) (hk2 : k < 2000000) : ∃ n : Nat, wrap64 ((IntKind.u64.wrap c).tmod (k : Int)) = (n : Int) ∧ n < k := by
  obtain ⟨n, h1, h2⟩ := uintMod c k (by omega) (by omega)
  exact ⟨n, h1, by omega⟩
theorem small_u64 (k : Nat) (hk : k < 2000000) : IntKind.u64.wrap (k : Int) = k := by
  simp [IntKind.wrap, IntKind.bits, IntKind.signed]
  omega
end Go.Proofs.YtphopnfnjnieaaaDoor
