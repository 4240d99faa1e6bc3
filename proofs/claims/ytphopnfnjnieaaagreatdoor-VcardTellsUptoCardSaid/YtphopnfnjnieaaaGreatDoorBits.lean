/-
  PLAIN ARITHMETIC of the bits that a decoder of UTF-8 looks at. Nothing of any program.
-/
import Derived.WalkKit
namespace Go.Proofs.YtphopnfnjnieaaaGreatDoor
open Go.RowKit
theorem wraps_i64_40 (n : Int) (h₀ : 0 ≤ n) (h₁ : n < 2 ^ 40) : IntKind.i64.wrap n = n := by rw [IntKind.wrap_i64]; omega
theorem or6 (c y : Int) (hc : 0 ≤ c) (hc1 : c < 4294967296) (h0 : 0 ≤ y) (h1 : y < 64) : bits .or .i64 (c * 64) y = c * 64 + y :=
  bits_join .i64 40 (by decide) wraps_i64_40 6 (c * 64) y (by omega) (by omega) (by omega) h0 h1 (by omega)
set_option maxRecDepth 100000 in
theorem and192 (x : Int) (h0 : 0 ≤ x) (h1 : x < 256) : (bits .and .u8 x 192 != 128) = !(x / 64 == 2) := by
  have h : ∀ y : Fin 256, (bits .and .u8 ((y.val : Nat) : Int) 192 != 128) = !(((y.val : Nat) : Int) / 64 == 2) := by decide
  have := h ⟨x.toNat, by omega⟩
  rwa [show (((⟨x.toNat, by omega⟩ : Fin 256).val : Nat) : Int) = x from by simp; omega] at this
theorem and63 (x : Int) (h0 : 0 ≤ x) (h1 : x < 256) : wrap64 (bits .and .u8 x 63) = x % 64 := by
  rw [u8_and63 x h0 h1]
  unfold wrap64
  omega
theorem and31 (x : Int) (h0 : 0 ≤ x) (h1 : x < 256) : bits .and .i64 x 31 = x % 32 := bits_mask .i64 40 (by decide) wraps_i64_40 5 (by decide) x h0 (by omega)
theorem and15 (x : Int) (h0 : 0 ≤ x) (h1 : x < 256) : bits .and .i64 x 15 = x % 16 := bits_mask .i64 40 (by decide) wraps_i64_40 4 (by decide) x h0 (by omega)
theorem and7 (x : Int) (h0 : 0 ≤ x) (h1 : x < 256) : bits .and .i64 x 7 = x % 8 := bits_mask .i64 40 (by decide) wraps_i64_40 3 (by decide) x h0 (by omega)
end Go.Proofs.YtphopnfnjnieaaaGreatDoor
