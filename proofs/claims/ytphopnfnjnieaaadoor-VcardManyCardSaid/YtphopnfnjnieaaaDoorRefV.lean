/-
  THE DOCUMENT's OWN ANSWER, package cardexref01: its decoder, Next and Valid.
-/
import Derived.Test.YtphopnfnjnieaaaDoorRows
import Derived.Test.YtphopnfnjnieaaaDoorTxt
import Derived.Test.YtphopnfnjnieaaaDoorMem
import Derived.Test.YtphopnfnjnieaaaDoorBits
import Derived.WalkKit
import Derived.WalkSpells
import Derived.WalkLawsBesides
namespace Go.Proofs.YtphopnfnjnieaaaDoor
open Go.RowKit Tx

/-- What the document's decoder hands back: the character and its width, twice 0 where there is none. -/
def Decoded (w : World) (l : List UInt8) (e : Ending) (w' : World) : Prop := e = .returned (.tuple #[.int .i64 (rdc l).1, .int .i64 (rdc l).2]) ∧ w = w'
theorem Decoded.some {w : World} {l : List UInt8} {c n : Nat} (h : rdc l = (c, n)) : Decoded w l (.returned (.tuple #[.int .i64 c, .int .i64 n])) w := ⟨by rw [h], rfl⟩
theorem Decoded.none {w : World} {l : List UInt8} (h : rdc l = (0, 0)) : Decoded w l (.returned (.tuple #[.int .i64 0, .int .i64 0])) w := ⟨by rw [h]; rfl, rfl⟩
theorem byte_at (s : ByteArray) (i k : Nat) (h : i + k < s.size) : ((s[i + k]'h).toNat : Int) = (bt (s.data.toList.drop i) k : Nat) := by
  rw [bt_drop _ _ _ (by rw [← Lib.size_eq]; exact h)]
  rfl
theorem byte_at0 (s : ByteArray) (i : Nat) (h : i < s.size) : ((s[i]'h).toNat : Int) = (bt (s.data.toList.drop i) 0 : Nat) := byte_at s i 0 h
theorem lead_C {l : List UInt8} (h1 : 192 ≤ bt l 0) (h2 : bt l 0 < 224) : Lead l 2 32 128 := lead_def.2 (.inl ⟨h1, h2, rfl, rfl, rfl⟩)
theorem lead_D {l : List UInt8} (h1 : 224 ≤ bt l 0) (h2 : bt l 0 < 240) : Lead l 3 16 2048 := lead_def.2 (.inr (.inl ⟨h1, h2, rfl, rfl, rfl⟩))
theorem lead_E {l : List UInt8} (h1 : 240 ≤ bt l 0) (h2 : bt l 0 < 248) : Lead l 4 8 65536 := lead_def.2 (.inr (.inr ⟨h1, h2, rfl, rfl, rfl⟩))






/-- What the document's next character is: it may stand in a text; twice 0: none. -/
def Nexted (w : World) (l : List UInt8) (e : Ending) (w' : World) : Prop := e = .returned (.tuple #[.int .i64 (nx l).1, .int .i64 (nx l).2]) ∧ w = w'
theorem Nexted.of {w : World} {l : List UInt8} {c n : Nat} (h : nx l = (c, n)) : Nexted w l (.returned (.tuple #[.int .i64 c, .int .i64 n])) w := ⟨by rw [h], rfl⟩
theorem Nexted.none {w : World} {l : List UInt8} (h : nx l = (0, 0)) : Nexted w l (.returned (.tuple #[.int .i64 0, .int .i64 0])) w := ⟨by rw [h]; rfl, rfl⟩


end Go.Proofs.YtphopnfnjnieaaaDoor
