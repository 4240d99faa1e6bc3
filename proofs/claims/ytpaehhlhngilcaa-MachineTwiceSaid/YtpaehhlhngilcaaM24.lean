import Derived.Test.YtpaehhlhngilcaaM17
import Derived.Lib.MapLaws
import Derived.Test.YtpaehhlhngilcaaRows
import Derived.Test.YtpaehhlhngilcaaM03
import Derived.Test.YtpaehhlhngilcaaM04
import Derived.Test.YtpaehhlhngilcaaM06
import Derived.WalkKit
import Derived.WalkSpells
import Derived.WalkLawsBesides
import Derived.Test.YtpaehhlhngilcaaM16
import Derived.Test.YtpaehhlhngilcaaM15
section
/- what is reached of it -/
namespace Go.Proofs.Ytpaehhlhngilcaa.Tx
open Go.Lib
theorem ends_valid : ∀ rs : List (List UInt8), (∀ r ∈ rs, valid r = true) → valid (ends rs) = true
  | [], _ => valid_some ch_nil
  | r :: t, h => by
    rw [ends_cons]
    exact (valid_append (h r (by simp)) (valid_append (a := [13, 10]) (by decide +kernel) (ends_valid t (fun x hx => h x (by simp [hx])))).1).1
/-- lines that may be folded, and come back -/
def Fine (l : List UInt8) : Prop := clean l ∧ valid l = true ∧ cont l = false
end Go.Proofs.Ytpaehhlhngilcaa.Tx
end
section
/- what is reached of it -/
namespace Go.Proofs.Ytpaehhlhngilcaa.Tx
theorem linesA_conts : ∀ (rs acc : List (List UInt8)) (x : List UInt8), (∀ r ∈ rs, cont r = true) → linesA (acc ++ [x]) rs = some (acc ++ [x ++ rs.flatMap List.tail])
  | [], acc, x, _ => by rw [linesA_nil]; simp
  | r :: rs, acc, x, h => by
    rw [linesA_more _ (h r (by simp)) (by simp), addLast_snoc, linesA_conts rs acc _ (fun r hr => h r (by simp [hr]))]
    simp
/-- R are told rows, cur is the open one: they are one line, of which done is told -/
def AStand (R : List (List UInt8)) (cur done : List UInt8) : Prop :=
  (∀ r ∈ R, clean r ∧ valid r = true) ∧ clean cur ∧ valid cur = true ∧ jn (R ++ [cur]) = done ∧ ∃ f t, R ++ [cur] = f :: t ∧ cont f = false ∧ ∀ r ∈ t, cont r = true
theorem AStand.start : AStand [] [] [] := ⟨fun r h => (by cases h), fun c h => (by cases h), valid_some ch_nil, rfl, [], [], rfl, rfl, fun r h => (by cases h)⟩
theorem AStand.done {R : List (List UInt8)} {cur done : List UInt8} (h : AStand R cur done) : Tx.unfold (ends R ++ cur ++ [13, 10]) = some [done] ∧ valid (ends R ++ cur ++ [13, 10]) = true := by
  obtain ⟨h1, h2, h3, h4, f, t, h5, h6, h7⟩ := h
  have e : ends R ++ cur ++ [13, 10] = ends (R ++ [cur]) := by rw [ends_append, ends_cons, ends_nil]; simp
  have hall : ∀ r ∈ R ++ [cur], clean r ∧ valid r = true := fun r hr => by
    rcases List.mem_append.1 hr with hr | hr
    · exact h1 r hr
    · rw [List.mem_singleton] at hr; subst hr; exact ⟨h2, h3⟩
  rw [e]
  refine ⟨?_, ends_valid _ (fun r hr => (hall r hr).2)⟩
  unfold Tx.unfold
  rw [rowsA_ends _ (fun r hr => (hall r hr).1), h5]
  show linesA [] (f :: t) = _
  rw [linesA_new [] t h6, linesA_conts t [] f h7]
  rw [h5] at h4
  rw [← h4]
  rfl
end Go.Proofs.Ytpaehhlhngilcaa.Tx
end
section
/- what is reached of it -/
namespace Go.Proofs.Ytpaehhlhngilcaa
open Go.RowKit Tx
/-- What the document's decoder hands back: the character and its width, twice 0 where there is none. -/
def Decoded (w : World) (l : List UInt8) (e : Ending) (w' : World) : Prop := e = .returned (.tuple #[.int .i64 (rdc l).1, .int .i64 (rdc l).2]) ∧ w = w'
theorem Decoded.some {w : World} {l : List UInt8} {c n : Nat} (h : rdc l = (c, n)) : Decoded w l (.returned (.tuple #[.int .i64 c, .int .i64 n])) w := ⟨by rw [h], rfl⟩
theorem Decoded.none {w : World} {l : List UInt8} (h : rdc l = (0, 0)) : Decoded w l (.returned (.tuple #[.int .i64 0, .int .i64 0])) w := ⟨by rw [h]; rfl, rfl⟩
/-- What the document's next character is: it may stand in a text; twice 0: none. -/
def Nexted (w : World) (l : List UInt8) (e : Ending) (w' : World) : Prop := e = .returned (.tuple #[.int .i64 (nx l).1, .int .i64 (nx l).2]) ∧ w = w'
theorem Nexted.of {w : World} {l : List UInt8} {c n : Nat} (h : nx l = (c, n)) : Nexted w l (.returned (.tuple #[.int .i64 c, .int .i64 n])) w := ⟨by rw [h], rfl⟩
theorem Nexted.none {w : World} {l : List UInt8} (h : nx l = (0, 0)) : Nexted w l (.returned (.tuple #[.int .i64 0, .int .i64 0])) w := ⟨by rw [h]; rfl, rfl⟩


end Go.Proofs.Ytpaehhlhngilcaa
end
section
/- what is reached of it -/
namespace Go.Proofs.Ytpaehhlhngilcaa
open Go.RowKit Tx
/-- how the document's loop stands: o ahead, so much room, the rest from k on -/
def FStand (l : List UInt8) (k room : Nat) (o : List UInt8) : Prop := foldOne l = o ++ fr room (chs (l.drop k))
theorem FStand.start (l : List UInt8) : FStand l 0 75 [] := by unfold FStand; rw [List.drop_zero, foldOne_fr]; rfl
theorem FStand.done {l o : List UInt8} {k room : Nat} (h : FStand l k room o) (hk : l.length ≤ k) : foldOne l = o ++ [13, 10] := by
  unfold FStand at h
  rw [List.drop_eq_nil_of_le hk, chs_nil, fr_nil] at h
  exact h
end Go.Proofs.Ytpaehhlhngilcaa
end
section
/- what is reached of it -/
namespace Go.Proofs.Ytpaehhlhngilcaa
open Go.RowKit Tx
/-- how the document's loop stands: o ahead, the rest from k on -/
def PStand (l : List UInt8) (k : Nat) (o : List UInt8) : Prop := plain l = (plain (l.drop k)).map (o ++ ·)
theorem PStand.start (l : List UInt8) : PStand l 0 [] := by unfold PStand; rw [List.drop_zero]; cases plain l <;> rfl
theorem PStand.done {l o : List UInt8} {k : Nat} (h : PStand l k o) (hk : l.length ≤ k) : plain l = some o := by
  unfold PStand at h
  rw [List.drop_eq_nil_of_le hk, plain_nil] at h
  simpa using h
section
variable {s : ByteArray} {k : Nat} {o : List UInt8}
theorem PStand.last (h : PStand s.data.toList k o) (hk : k < s.size) (h1 : (s[k]'hk) = 92) (h2 : ¬ k + 1 < s.size) : plain s.data.toList = none := by
  unfold PStand at h
  rw [h, drop_step hk, h1, List.drop_eq_nil_of_le (by rw [← Lib.size_eq]; omega), plain_end]
  rfl
theorem PStand.bad (h : PStand s.data.toList k o) (hk : k < s.size) (h1 : (s[k]'hk) = 92) (h2 : k + 1 < s.size) (h3 : unb (s[k + 1]'h2) = none) : plain s.data.toList = none := by
  unfold PStand at h
  rw [h, drop_step hk, h1, drop_step h2, plain_bad _ h3]
  rfl
end
end Go.Proofs.Ytpaehhlhngilcaa
end
