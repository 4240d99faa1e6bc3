import Derived.Lib.Strings
import Derived.Lib.Hide
import Derived.WalkKit
import Derived.Test.YtbgaglcgennhiaaGreatDoorB04
import Derived.Test.YtbgaglcgennhiaaGreatDoorB17
import Derived.Laws.OwnMore
import Derived.Test.YtbgaglcgennhiaaGreatDoorRows
import Derived.Test.YtbgaglcgennhiaaGreatDoorB03
import Derived.Test.YtbgaglcgennhiaaGreatDoorB05
import Derived.WalkSpells
import Derived.WalkLawsBesides
import Derived.Test.YtbgaglcgennhiaaGreatDoorB14
import Derived.Laws.MakeOwn
import Derived.Lib.OthersKept
import Derived.Scope
import Derived.Deep.RegionWith
section
/- what is reached of it -/
namespace Go.Proofs.YtbgaglcgennhiaaGreatDoor
theorem ret_str {a b : ByteArray} (h : a = b) : Ending.returned (.string a) = .returned (.string b) := by rw [h]
theorem bytes_of {o : ByteArray} {l : List UInt8} (h : o.data.toList = l) : o = ⟨l.toArray⟩ := by
  subst h
  rfl
theorem cat_list (a b : ByteArray) : (a ++ b).data.toList = a.data.toList ++ b.data.toList := by simp
theorem drop_step {s : ByteArray} {k : Nat} (h : k < s.size) : s.data.toList.drop k = (s[k]'h) :: s.data.toList.drop (k + 1) := by
  have h' : k < s.data.toList.length := by rw [← Lib.size_eq]; exact h
  exact List.drop_eq_getElem_cons h'
end Go.Proofs.YtbgaglcgennhiaaGreatDoor
end
section
/- what is reached of it -/
namespace Go.Proofs.YtbgaglcgennhiaaGreatDoor.Tx
open Go.Lib
theorem ends_valid : ∀ rs : List (List UInt8), (∀ r ∈ rs, valid r = true) → valid (ends rs) = true
  | [], _ => valid_some ch_nil
  | r :: t, h => by
    rw [ends_cons]
    exact (valid_append (h r (by simp)) (valid_append (a := [13, 10]) (by decide +kernel) (ends_valid t (fun x hx => h x (by simp [hx])))).1).1
/-- lines that may be folded, and come back -/
def Fine (l : List UInt8) : Prop := clean l ∧ valid l = true ∧ cont l = false
end Go.Proofs.YtbgaglcgennhiaaGreatDoor.Tx
end
section
/- what is reached of it -/
namespace Go.Proofs.YtbgaglcgennhiaaGreatDoor
open Go.RowKit Tx
/-- how the document's loop stands: acc are told, the open row goes from f to k -/
def UStand (l : List UInt8) (acc : List (List UInt8)) (f k : Nat) : Prop := f ≤ k ∧ k ≤ l.length ∧ acc.length ≤ f ∧ Tx.unfold l = (rowsA ((l.drop f).take (k - f)) (l.drop k)).bind (linesA acc)
theorem UStand.start (l : List UInt8) : UStand l [] 0 0 := ⟨Nat.le_refl _, Nat.zero_le _, Nat.le_refl _, by simp [Tx.unfold]⟩
section
variable {l : List UInt8} {acc : List (List UInt8)} {f k : Nat} {c : UInt8}
theorem at_drop (hc : l[k]? = some c) : l.drop k = c :: l.drop (k + 1) := by
  obtain ⟨hk, he⟩ := List.getElem?_eq_some_iff.1 hc
  rw [List.drop_eq_getElem_cons hk, he]
theorem UStand.stop (h : UStand l acc f k) (hk : l.length ≤ k) : Tx.unfold l = if f < l.length then none else some acc := by
  obtain ⟨h1, h2, _, h3⟩ := h
  obtain rfl : k = l.length := by omega
  rw [h3, List.drop_length, rowsA_nil, List.take_of_length_le (by rw [List.length_drop]; omega)]
  by_cases hf : f < l.length
  · rw [if_pos hf, if_neg (drop_ne hf)]; rfl
  · rw [if_neg hf, if_pos (List.drop_eq_nil_of_le (by omega))]; rfl
theorem UStand.last (h : UStand l acc f k) (hc : l[k]? = some 13) (hk : l.length ≤ k + 1) : Tx.unfold l = none := by
  rw [h.2.2.2, at_drop hc, List.drop_eq_nil_of_le hk, rowsA_13]; rfl
theorem UStand.on (h : UStand l acc f k) (hc : l[k]? = some c) (h1 : c ≠ 10) (h2 : c ≠ 13) : UStand l acc f (k + 1) := by
  obtain ⟨g1, g2, g4, g3⟩ := h
  obtain ⟨hk, _⟩ := List.getElem?_eq_some_iff.1 hc
  refine ⟨by omega, hk, g4, ?_⟩
  rw [g3, at_drop hc, rowsA_on _ _ h1 h2, take_snoc (at_drop hc) g1]
theorem UStand.ended (h : UStand l acc f k) (hc : l[k]? = some 13) (hd : l[k + 1]? = some 10) : Tx.unfold l = ((rowsA [] (l.drop (k + 2))).map ((l.drop f).take (k - f) :: ·)).bind (linesA acc) := by
  rw [h.2.2.2, at_drop hc, at_drop hd, rowsA_end]
theorem UStand.more (h : UStand l acc f k) (hc : l[k]? = some 13) (hd : l[k + 1]? = some 10) (hr : cont ((l.drop f).take (k - f)) = true) (ha : acc ≠ []) : UStand l (addLast acc ((l.drop f).take (k - f)).tail) (k + 2) (k + 2) := by
  obtain ⟨hk, _⟩ := List.getElem?_eq_some_iff.1 hd
  refine ⟨Nat.le_refl _, hk, by rw [addLast_len ha]; have := h.2.2.1; have := h.1; omega, ?_⟩
  rw [h.ended hc hd, Nat.sub_self, List.take_zero]
  cases rowsA [] (l.drop (k + 2)) with
  | none => rfl
  | some t => exact linesA_more t hr ha
theorem UStand.new (h : UStand l acc f k) (hc : l[k]? = some 13) (hd : l[k + 1]? = some 10) (hr : cont ((l.drop f).take (k - f)) = false) : UStand l (acc ++ [(l.drop f).take (k - f)]) (k + 2) (k + 2) := by
  obtain ⟨hk, _⟩ := List.getElem?_eq_some_iff.1 hd
  refine ⟨Nat.le_refl _, hk, by rw [List.length_append, List.length_singleton]; have := h.2.2.1; have := h.1; omega, ?_⟩
  rw [h.ended hc hd, Nat.sub_self, List.take_zero]
  cases rowsA [] (l.drop (k + 2)) with
  | none => rfl
  | some t => exact linesA_new acc t hr
end
/-- no line that is told is longer than what was passed -/
def Short (acc : List (List UInt8)) (f : Nat) : Prop := ∀ x ∈ acc, x.length ≤ f
theorem Short.nil (f : Nat) : Short [] f := fun x hx => by cases hx
theorem Short.new {acc : List (List UInt8)} {f k : Nat} {x : List UInt8} (h : Short acc f) (hx : x.length ≤ k) (hk : f ≤ k) : Short (acc ++ [x]) k := fun y hy => by
  rw [List.mem_append, List.mem_singleton] at hy
  rcases hy with hy | rfl
  · have := h y hy; omega
  · exact hx
theorem Short.more {a : List (List UInt8)} {f k : Nat} {x y : List UInt8} (h : Short (a ++ [y]) f) (hx : f + x.length ≤ k) (hk : f ≤ k) : Short (addLast (a ++ [y]) x) k := by
  rw [addLast_snoc]
  refine Short.new (f := f) (fun z hz => h z (by simp [hz])) ?_ hk
  have := h y (by simp)
  rw [List.length_append]; omega
/-- an element of a row that the call has made, read and written -/
theorem OwnT.at {B : Nat} {w : World} {g cap n : Nat} {x : List ByteArray} (h : OwnT B w (.slice (some ⟨g, 0, none⟩) n cap) x) {j : Nat} {b : ByteArray} (hb : x[j]? = some b) : w.cell? ⟨g, j, none⟩ = some (.string b) ∧ w.frozen? ⟨g, j, none⟩ = false ∧ B ≤ g ∧ g < w.heap.size ∧ n = x.length := by
  have h' : w.ownsRow B 9 1 (.slice (some ⟨g, 0, none⟩) n cap) x.length (strs x) := h
  have hn : n = x.length := by
    rcases h'.2 with ⟨e, _⟩ | ⟨_, _, _, e, _⟩
    · simp at e
    · simp at e; exact e.2.1
  subst hn
  have hlt := h.low (j := g) rfl
  exact ⟨by rw [h'.cellAt j (by have := (List.getElem?_eq_some_iff.1 hb).1; omega)]; exact strs_get hb, h'.frozenAt j, hlt.1, hlt.2, rfl⟩
theorem strs_set (x : List ByteArray) (i : Nat) (b : ByteArray) : (strs x).set i (.string b) = strs (x.set i b) := by unfold strs; rw [List.map_set]
theorem OwnT.put {B : Nat} {w : World} {g cap n : Nat} {x : List ByteArray} (h : OwnT B w (.slice (some ⟨g, 0, none⟩) n cap) x) (j : Nat) (b : ByteArray) : OwnT B (w.setCell ⟨g, j, none⟩ (.string b)) (.slice (some ⟨g, 0, none⟩) n cap) (x.set j b) := by
  have h' : w.ownsRow B 9 1 (.slice (some ⟨g, 0, none⟩) n cap) x.length (strs x) := h
  have hn : n = x.length := by
    rcases h'.2 with ⟨e, _⟩ | ⟨_, _, _, e, _⟩
    · simp at e
    · simp at e; exact e.2.1
  subst hn
  have := (h'.stored j (.string b)).1
  rw [strs_set] at this
  unfold OwnT
  rw [List.length_set]
  exact this
theorem OwnT.some {B : Nat} {w : World} {v : Value} {x : List ByteArray} (h : OwnT B w v x) (hx : x ≠ []) : ∃ g cap, v = .slice (some ⟨g, 0, none⟩) x.length cap := by
  rcases h.2 with ⟨rfl, h0⟩ | ⟨g, cap, cur, rfl, _⟩
  · exact absurd (List.eq_nil_of_length_eq_zero h0) hx
  · exact ⟨_, _, rfl⟩
end Go.Proofs.YtbgaglcgennhiaaGreatDoor
end
section
/- what is reached of it -/
namespace Go.Proofs.YtbgaglcgennhiaaGreatDoor
open Go.RowKit Tx
/-- What the document's decoder hands back: the character and its width, twice 0 where there is none. -/
def Decoded (w : World) (l : List UInt8) (e : Ending) (w' : World) : Prop := e = .returned (.tuple #[.int .i64 (rdc l).1, .int .i64 (rdc l).2]) ∧ w = w'
theorem Decoded.some {w : World} {l : List UInt8} {c n : Nat} (h : rdc l = (c, n)) : Decoded w l (.returned (.tuple #[.int .i64 c, .int .i64 n])) w := ⟨by rw [h], rfl⟩
theorem Decoded.none {w : World} {l : List UInt8} (h : rdc l = (0, 0)) : Decoded w l (.returned (.tuple #[.int .i64 0, .int .i64 0])) w := ⟨by rw [h]; rfl, rfl⟩
/-- What the document's next character is: it may stand in a text; twice 0: none. -/
def Nexted (w : World) (l : List UInt8) (e : Ending) (w' : World) : Prop := e = .returned (.tuple #[.int .i64 (nx l).1, .int .i64 (nx l).2]) ∧ w = w'
theorem Nexted.of {w : World} {l : List UInt8} {c n : Nat} (h : nx l = (c, n)) : Nexted w l (.returned (.tuple #[.int .i64 c, .int .i64 n])) w := ⟨by rw [h], rfl⟩
theorem Nexted.none {w : World} {l : List UInt8} (h : nx l = (0, 0)) : Nexted w l (.returned (.tuple #[.int .i64 0, .int .i64 0])) w := ⟨by rw [h]; rfl, rfl⟩
end Go.Proofs.YtbgaglcgennhiaaGreatDoor
end
section
/- what is reached of it -/
namespace Go.Proofs.YtbgaglcgennhiaaGreatDoor
open Go.RowKit Tx
/-- how the document's loop stands: o ahead, so much room, the rest from k on -/
def FStand (l : List UInt8) (k room : Nat) (o : List UInt8) : Prop := foldOne l = o ++ fr room (chs (l.drop k))
theorem FStand.start (l : List UInt8) : FStand l 0 75 [] := by unfold FStand; rw [List.drop_zero, foldOne_fr]; rfl
theorem FStand.done {l o : List UInt8} {k room : Nat} (h : FStand l k room o) (hk : l.length ≤ k) : foldOne l = o ++ [13, 10] := by
  unfold FStand at h
  rw [List.drop_eq_nil_of_le hk, chs_nil, fr_nil] at h
  exact h
theorem chs_at {l : List UInt8} {k n : Nat} (hk : k < l.length) (hn : (dc (l.drop k)).2 = n) : chs (l.drop k) = (l.drop k).take n :: chs (l.drop (k + n)) := by
  rw [chs_step (drop_ne hk), hn, List.drop_drop]
theorem take_len {l : List UInt8} {k n : Nat} (hk : k + n ≤ l.length) : ((l.drop k).take n).length = n := by
  rw [List.length_take, List.length_drop]; omega
theorem FStand.on {l o : List UInt8} {k room n : Nat} (h : FStand l k room o) (hk : k < l.length) (hn : (dc (l.drop k)).2 = n) (hkn : k + n ≤ l.length) (hr : n ≤ room) : FStand l (k + n) (room - n) (o ++ (l.drop k).take n) := by
  unfold FStand at h ⊢
  rw [h, chs_at hk hn, fr_on _ (by rw [take_len hkn]; omega), take_len hkn, List.append_assoc]
theorem FStand.cut {l o : List UInt8} {k room n : Nat} (h : FStand l k room o) (hk : k < l.length) (hn : (dc (l.drop k)).2 = n) (hkn : k + n ≤ l.length) (hr : room < n) : FStand l (k + n) (74 - n) (o ++ [13, 10, 32] ++ (l.drop k).take n) := by
  unfold FStand at h ⊢
  rw [h, chs_at hk hn, fr_cut _ (by rw [take_len hkn]; omega), take_len hkn]
  simp
end Go.Proofs.YtbgaglcgennhiaaGreatDoor
end
section
/- what is reached of it -/
namespace Go.Proofs.YtbgaglcgennhiaaGreatDoor
open Go.RowKit Tx
/-- how the package's loop stands: acc are told, t is ahead -/
def CStand (l : List UInt8) (acc : List (List UInt8)) (t : List UInt8) : Prop := chs l = acc ++ chs t ∧ acc.length + t.length ≤ l.length
theorem CStand.start (l : List UInt8) : CStand l [] l := ⟨rfl, by simp⟩
theorem CStand.next {l t : List UInt8} {acc : List (List UInt8)} (h : CStand l acc t) (ht : t ≠ []) {n : Nat} (hn : (dc t).2 = n) : CStand l (acc ++ [t.take n]) (t.drop n) := by
  have h1 := dc_ge1 t
  have h2 : 0 < t.length := List.length_pos_iff.2 ht
  refine ⟨by rw [h.1, chs_step ht, hn]; simp, ?_⟩
  have := h.2
  rw [List.length_append, List.length_singleton, List.length_drop]
  omega
end Go.Proofs.YtbgaglcgennhiaaGreatDoor
end
section
/- what is reached of it -/
namespace Go.Proofs.YtbgaglcgennhiaaGreatDoor
open Go.RowKit Tx
theorem OwnT.weak {B B' : Nat} {w : World} {v : Value} {x : List ByteArray} (h : OwnT B w v x) (hB : B' ≤ B) : OwnT B' w v x :=
  ⟨h.1, h.2.imp id fun ⟨g, cap, cur, h1, h2, h3⟩ => ⟨g, cap, cur, h1, Nat.le_trans hB h2, h3⟩⟩
end Go.Proofs.YtbgaglcgennhiaaGreatDoor
end
section
/- what is reached of it -/
namespace Go.Proofs.YtbgaglcgennhiaaGreatDoor
open Go.RowKit Tx
/-- nothing turns below C where block b is as it was -/
theorem Btw.whole {b C : Nat} {w w' : World} (h : Btw b C w w') (hb : w'.heap[b]? = w.heap[b]?) : Below C w w' :=
  ⟨h.below.os, h.below.tape, h.below.output, h.below.size, fun g hg => by
    rcases Nat.lt_trichotomy g b with h1 | h1 | h1
    · exact h.below.block g h1
    · subst h1; exact hb
    · exact h.mid g h1 hg⟩
end Go.Proofs.YtbgaglcgennhiaaGreatDoor
end
section
/- what is reached of it -/
namespace Go.Proofs.YtbgaglcgennhiaaGreatDoor
open Go.RowKit Tx
theorem OwnT.cap {B : Nat} {w : World} {g cap n : Nat} {x : List ByteArray} (h : OwnT B w (.slice (Option.some ⟨g, 0, none⟩) n cap) x) : x.length ≤ cap := by
  rcases h.2 with ⟨e, _⟩ | ⟨g', cap', cur, e, _, _, h4, _⟩
  · simp at e
  · simp at e
    rw [e.2.2]
    exact h4
end Go.Proofs.YtbgaglcgennhiaaGreatDoor
end
section
/- what is reached of it -/
namespace Go.Proofs.YtbgaglcgennhiaaGreatDoor
open Go.RowKit Tx
/-- how the document's loop stands: o ahead, the rest from k on -/
def PStand (l : List UInt8) (k : Nat) (o : List UInt8) : Prop := plain l = (plain (l.drop k)).map (o ++ ·)
theorem PStand.start (l : List UInt8) : PStand l 0 [] := by unfold PStand; rw [List.drop_zero]; cases plain l <;> rfl
theorem PStand.done {l o : List UInt8} {k : Nat} (h : PStand l k o) (hk : l.length ≤ k) : plain l = some o := by
  unfold PStand at h
  rw [List.drop_eq_nil_of_le hk, plain_nil] at h
  simpa using h
section
variable {s : ByteArray} {k : Nat} {o : List UInt8}
theorem PStand.on (h : PStand s.data.toList k o) (hk : k < s.size) (h1 : (s[k]'hk) ≠ 92) : PStand s.data.toList (k + 1) (o ++ [s[k]'hk]) := by
  unfold PStand at h ⊢
  rw [h, drop_step hk, plain_on _ h1]
  cases plain (List.drop (k + 1) s.data.toList) <;> simp
theorem PStand.last (h : PStand s.data.toList k o) (hk : k < s.size) (h1 : (s[k]'hk) = 92) (h2 : ¬ k + 1 < s.size) : plain s.data.toList = none := by
  unfold PStand at h
  rw [h, drop_step hk, h1, List.drop_eq_nil_of_le (by rw [← Lib.size_eq]; omega), plain_end]
  rfl
theorem PStand.bad (h : PStand s.data.toList k o) (hk : k < s.size) (h1 : (s[k]'hk) = 92) (h2 : k + 1 < s.size) (h3 : unb (s[k + 1]'h2) = none) : plain s.data.toList = none := by
  unfold PStand at h
  rw [h, drop_step hk, h1, drop_step h2, plain_bad _ h3]
  rfl
end
end Go.Proofs.YtbgaglcgennhiaaGreatDoor
end
section
/- what is reached of it -/
namespace Go.Proofs.YtbgaglcgennhiaaGreatDoor
open Go.RowKit
theorem uintMod (c : Int) (k : Int) (hk : 0 < k) (hk2 : k < 2000000) : ∃ n : Nat, wrap64 ((IntKind.u64.wrap c).tmod k) = (n : Int) ∧ (n : Int) < k := by
  have e : IntKind.u64.wrap c = c % 18446744073709551616 := by simp [IntKind.wrap, IntKind.bits, IntKind.signed]
  have h0 : 0 ≤ IntKind.u64.wrap c := by rw [e]; exact Int.emod_nonneg _ (by decide)
  rw [Int.tmod_eq_emod_of_nonneg h0]
  have h1 := Int.emod_nonneg (IntKind.u64.wrap c) (show k ≠ 0 by omega)
  have h2 := Int.emod_lt_of_pos (IntKind.u64.wrap c) hk
  refine ⟨(IntKind.u64.wrap c % k).toNat, ?_, by omega⟩
  unfold wrap64
  omega
end Go.Proofs.YtbgaglcgennhiaaGreatDoor
end
