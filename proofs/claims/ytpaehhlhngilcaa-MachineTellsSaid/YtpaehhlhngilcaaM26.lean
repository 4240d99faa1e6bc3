import Derived.Test.YtpaehhlhngilcaaRows
import Derived.Test.YtpaehhlhngilcaaM03
import Derived.Test.YtpaehhlhngilcaaM04
import Derived.Test.YtpaehhlhngilcaaM06
import Derived.Test.YtpaehhlhngilcaaShelf
import Derived.WalkKit
import Derived.WalkSpells
import Derived.WalkLawsBesides
import Derived.Test.YtpaehhlhngilcaaM17
import Derived.Lib.OthersKept
import Derived.Scope
import Derived.Deep.RegionWith
import Derived.Test.YtpaehhlhngilcaaM25
import Derived.ScopeJumps
import Derived.WalkMore
import Derived.Lib.Fold
import Derived.Deep.LoopGhost
import Derived.Laws.RangeString
/- what is reached of it -/
namespace Go.Proofs.Ytpaehhlhngilcaa
open Go.RowKit Tx
/-- The character that a sign of one byte folds to. -/
def foldN (x : Nat) : Nat := if 65 ≤ x ∧ x ≤ 90 then x + 32 else if x = 107 then 8490 else if x = 115 then 383 else if 97 ≤ x ∧ x ≤ 122 then x - 32 else x
/-- a mark of such signs -/
def Plainly (M : ByteArray) : Prop := ∀ i (h : i < M.size), (M[i]'h).toNat < 128 ∧ (foldN (M[i]'h).toNat = (M[i]'h).toNat ∨ foldN (M[i]'h).toNat < 128 ∧ foldN (foldN (M[i]'h).toNat) = (M[i]'h).toNat ∧ foldN (M[i]'h).toNat ≠ (M[i]'h).toNat)
theorem Plainly.of {M : ByteArray} (h : M.data.toList.all (fun b => decide (b.toNat < 128 ∧ (foldN b.toNat = b.toNat ∨ foldN b.toNat < 128 ∧ foldN (foldN b.toNat) = b.toNat ∧ foldN b.toNat ≠ b.toNat))) = true) : Plainly M := fun i hi => of_decide_eq_true (List.all_eq_true.1 h _ (List.mem_of_getElem? (Lib.data_getElem? M i hi)))

/-- How the call stands where it leaves its first loop for a sign of more than one byte. -/
def JumpE (s M : ByteArray) (w : World) (a' : Act) (w' : World) : Prop := ∃ (i : Nat) (u : Nat → Value), a' = { tmps := #[.string s, .string M, u 2, u 3, u 4, .int .i64 (i : Nat), u 6, u 7, u 8, u 9, u 10, u 11, u 12, u 13, u 14, u 15, u 16, u 17, u 18, u 19, u 20, u 21, u 22, u 23, u 24, u 25, u 26, u 27, u 28, u 29, u 30, u 31, u 32, u 33, u 34, u 35, u 36, u 37, u 38, u 39, u 40, u 41, u 42, u 43, u 44, u 45, u 46, u 47, u 48, u 49, u 50, u 51, u 52, u 53, u 54, u 55, u 56, u 57, u 58, u 59, u 60, u 61, u 62, u 63, u 64, u 65, u 66, u 67, u 68, u 69, u 70, u 71, u 72, u 73, u 74, u 75, u 76, u 77, u 78, u 79, u 80, u 81, u 82, u 83, u 84, u 85, u 86, u 87, u 88, u 89, u 90, u 91, u 92, u 93, u 94, u 95, u 96, u 97, u 98, u 99, u 100, u 101, u 102, u 103, u 104, u 105, u 106, u 107, u 108, u 109, u 110, u 111, u 112, u 113, u 114, u 115, u 116, u 117, u 118, u 119, u 120, u 121, u 122], defers := [] } ∧ w' = w ∧ i < s.size ∧ i < M.size ∧ Hid (∃ x : UInt8, s.data.toList[i]? = some x ∧ 128 ≤ x.toNat)
theorem JumpE.mk {s M : ByteArray} {w : World} {a' : Act} {w' : World} (i : Nat) (h : a' = { tmps := #[.string s, .string M, a'.tmps.getD 2 undef, a'.tmps.getD 3 undef, a'.tmps.getD 4 undef, .int .i64 (i : Nat), a'.tmps.getD 6 undef, a'.tmps.getD 7 undef, a'.tmps.getD 8 undef, a'.tmps.getD 9 undef, a'.tmps.getD 10 undef, a'.tmps.getD 11 undef, a'.tmps.getD 12 undef, a'.tmps.getD 13 undef, a'.tmps.getD 14 undef, a'.tmps.getD 15 undef, a'.tmps.getD 16 undef, a'.tmps.getD 17 undef, a'.tmps.getD 18 undef, a'.tmps.getD 19 undef, a'.tmps.getD 20 undef, a'.tmps.getD 21 undef, a'.tmps.getD 22 undef, a'.tmps.getD 23 undef, a'.tmps.getD 24 undef, a'.tmps.getD 25 undef, a'.tmps.getD 26 undef, a'.tmps.getD 27 undef, a'.tmps.getD 28 undef, a'.tmps.getD 29 undef, a'.tmps.getD 30 undef, a'.tmps.getD 31 undef, a'.tmps.getD 32 undef, a'.tmps.getD 33 undef, a'.tmps.getD 34 undef, a'.tmps.getD 35 undef, a'.tmps.getD 36 undef, a'.tmps.getD 37 undef, a'.tmps.getD 38 undef, a'.tmps.getD 39 undef, a'.tmps.getD 40 undef, a'.tmps.getD 41 undef, a'.tmps.getD 42 undef, a'.tmps.getD 43 undef, a'.tmps.getD 44 undef, a'.tmps.getD 45 undef, a'.tmps.getD 46 undef, a'.tmps.getD 47 undef, a'.tmps.getD 48 undef, a'.tmps.getD 49 undef, a'.tmps.getD 50 undef, a'.tmps.getD 51 undef, a'.tmps.getD 52 undef, a'.tmps.getD 53 undef, a'.tmps.getD 54 undef, a'.tmps.getD 55 undef, a'.tmps.getD 56 undef, a'.tmps.getD 57 undef, a'.tmps.getD 58 undef, a'.tmps.getD 59 undef, a'.tmps.getD 60 undef, a'.tmps.getD 61 undef, a'.tmps.getD 62 undef, a'.tmps.getD 63 undef, a'.tmps.getD 64 undef, a'.tmps.getD 65 undef, a'.tmps.getD 66 undef, a'.tmps.getD 67 undef, a'.tmps.getD 68 undef, a'.tmps.getD 69 undef, a'.tmps.getD 70 undef, a'.tmps.getD 71 undef, a'.tmps.getD 72 undef, a'.tmps.getD 73 undef, a'.tmps.getD 74 undef, a'.tmps.getD 75 undef, a'.tmps.getD 76 undef, a'.tmps.getD 77 undef, a'.tmps.getD 78 undef, a'.tmps.getD 79 undef, a'.tmps.getD 80 undef, a'.tmps.getD 81 undef, a'.tmps.getD 82 undef, a'.tmps.getD 83 undef, a'.tmps.getD 84 undef, a'.tmps.getD 85 undef, a'.tmps.getD 86 undef, a'.tmps.getD 87 undef, a'.tmps.getD 88 undef, a'.tmps.getD 89 undef, a'.tmps.getD 90 undef, a'.tmps.getD 91 undef, a'.tmps.getD 92 undef, a'.tmps.getD 93 undef, a'.tmps.getD 94 undef, a'.tmps.getD 95 undef, a'.tmps.getD 96 undef, a'.tmps.getD 97 undef, a'.tmps.getD 98 undef, a'.tmps.getD 99 undef, a'.tmps.getD 100 undef, a'.tmps.getD 101 undef, a'.tmps.getD 102 undef, a'.tmps.getD 103 undef, a'.tmps.getD 104 undef, a'.tmps.getD 105 undef, a'.tmps.getD 106 undef, a'.tmps.getD 107 undef, a'.tmps.getD 108 undef, a'.tmps.getD 109 undef, a'.tmps.getD 110 undef, a'.tmps.getD 111 undef, a'.tmps.getD 112 undef, a'.tmps.getD 113 undef, a'.tmps.getD 114 undef, a'.tmps.getD 115 undef, a'.tmps.getD 116 undef, a'.tmps.getD 117 undef, a'.tmps.getD 118 undef, a'.tmps.getD 119 undef, a'.tmps.getD 120 undef, a'.tmps.getD 121 undef, a'.tmps.getD 122 undef], defers := [] }) (h1 : w' = w) (h2 : i < s.size) (h3 : i < M.size) (h4 : Hid (∃ x : UInt8, s.data.toList[i]? = some x ∧ 128 ≤ x.toNat)) : JumpE s M w a' w' := ⟨i, fun n => a'.tmps.getD n undef, h, h1, h2, h3, h4⟩
theorem Plainly.all {M : ByteArray} (h : Plainly M) : ∀ b ∈ M.data.toList, b.toNat < 128 := fun b hb => by
  obtain ⟨i, hi, e⟩ := List.mem_iff_getElem.1 hb
  have hi2 : i < M.size := by rw [Lib.size_eq]; exact hi
  have h2 := Lib.data_getElem? M i hi2
  rw [List.getElem?_eq_getElem hi, e] at h2
  have := (h i hi2).1
  rwa [← Option.some.inj h2] at this
end Go.Proofs.Ytpaehhlhngilcaa
