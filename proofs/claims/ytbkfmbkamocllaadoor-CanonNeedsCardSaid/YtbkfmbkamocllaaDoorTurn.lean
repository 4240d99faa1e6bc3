/- Texts laid together: Tab TabB Signs -/
import Derived.Test.YtbkfmbkamocllaaDoorRows
import Derived.Test.YtbkfmbkamocllaaDoorMem
import Derived.WalkKit
import Derived.Lib.SlicesS
import Derived.WalkSpells
import Derived.WalkLawsBesides
import Derived.Test.YtbkfmbkamocllaaDoorTxt
/-
  THE TABLES OF PACKAGE escape: what its two tables' find answers, over any rows of entries.
-/
namespace Go.Proofs.YtbkfmbkamocllaaDoor
open Go.RowKit

/-- Block g holds rows of a byte and a string. -/
def EntsB (w : World) (g : Nat) (es : List (Nat × ByteArray)) : Prop := ∀ j e, es[j]? = some e → w.cell? ⟨g, j * 2, none⟩ = some (.int .u8 e.1) ∧ w.cell? ⟨g, j * 2 + 1, none⟩ = some (.string e.2)
theorem EntsB.below {w w' : World} {g : Nat} {es : List (Nat × ByteArray)} (h : EntsB w g es) (hb : Below w.heap.size w w') (hg : g < w.heap.size) : EntsB w' g es := fun j e he => by
  have := h j e he
  rw [hb.cell (p := ⟨g, j * 2, none⟩) hg, hb.cell (p := ⟨g, j * 2 + 1, none⟩) hg]
  exact this
/-- What a table of bytes says of a byte. -/
def lookB (es : List (Nat × ByteArray)) (c : Nat) : Option ByteArray := (es.find? (fun e => decide (e.1 = c))).map (·.2)
def tellB (o : Option ByteArray) : Value := match o with
  | some n => .tuple #[.string n, .bool true]
  | none => .tuple #[.string ⟨#[]⟩, .bool false]
theorem lookB_some {es : List (Nat × ByteArray)} {c k : Nat} {e : Nat × ByteArray} (h : ∀ j e, j < k → es[j]? = some e → e.1 ≠ c) (he : es[k]? = some e) (hc : e.1 = c) : lookB es c = some e.2 := by
  unfold lookB
  rw [List.find?_eq_some_iff_getElem.2 ⟨by simpa using hc, k, (List.getElem?_eq_some_iff.1 he).1, (List.getElem?_eq_some_iff.1 he).2, fun j hj => by
    have h2 := h j _ hj (List.getElem?_eq_getElem (Nat.lt_trans hj (List.getElem?_eq_some_iff.1 he).1))
    simpa using h2⟩]
  rfl
theorem lookB_none {es : List (Nat × ByteArray)} {c : Nat} (h : ∀ j e, j < es.length → es[j]? = some e → e.1 ≠ c) : lookB es c = none := by
  unfold lookB
  rw [List.find?_eq_none.2]
  · rfl
  · intro e he
    obtain ⟨j, hj, rfl⟩ := List.mem_iff_getElem.1 he
    have := h j _ hj (List.getElem?_eq_getElem hj)
    simpa using this

/-- Block g holds rows of a string and a byte. -/
def EntsS (w : World) (g : Nat) (es : List (ByteArray × Nat)) : Prop := ∀ j e, es[j]? = some e → w.cell? ⟨g, j * 2, none⟩ = some (.string e.1) ∧ w.cell? ⟨g, j * 2 + 1, none⟩ = some (.int .u8 e.2)
theorem EntsS.below {w w' : World} {g : Nat} {es : List (ByteArray × Nat)} (h : EntsS w g es) (hb : Below w.heap.size w w') (hg : g < w.heap.size) : EntsS w' g es := fun j e he => by
  have := h j e he
  rw [hb.cell (p := ⟨g, j * 2, none⟩) hg, hb.cell (p := ⟨g, j * 2 + 1, none⟩) hg]
  exact this
/-- What a table of strings says of a string. -/
def lookS (es : List (ByteArray × Nat)) (c : ByteArray) : Option Nat := (es.find? (fun e => decide (e.1 = c))).map (·.2)
def tellS (o : Option Nat) : Value := match o with
  | some n => .tuple #[.int .u8 n, .bool true]
  | none => .tuple #[.int .u8 0, .bool false]
theorem lookS_some {es : List (ByteArray × Nat)} {c : ByteArray} {k : Nat} {e : ByteArray × Nat} (h : ∀ j e, j < k → es[j]? = some e → e.1 ≠ c) (he : es[k]? = some e) (hc : e.1 = c) : lookS es c = some e.2 := by
  unfold lookS
  rw [List.find?_eq_some_iff_getElem.2 ⟨by simpa using hc, k, (List.getElem?_eq_some_iff.1 he).1, (List.getElem?_eq_some_iff.1 he).2, fun j hj => by
    have h2 := h j _ hj (List.getElem?_eq_getElem (Nat.lt_trans hj (List.getElem?_eq_some_iff.1 he).1))
    simpa using h2⟩]
  rfl
theorem lookS_none {es : List (ByteArray × Nat)} {c : ByteArray} (h : ∀ j e, j < es.length → es[j]? = some e → e.1 ≠ c) : lookS es c = none := by
  unfold lookS
  rw [List.find?_eq_none.2]
  · rfl
  · intro e he
    obtain ⟨j, hj, rfl⟩ := List.mem_iff_getElem.1 he
    have := h j _ hj (List.getElem?_eq_getElem hj)
    simpa using this

end Go.Proofs.YtbkfmbkamocllaaDoor
/-
  escape's table of bytes: what its find answers.
-/
namespace Go.Proofs.YtbkfmbkamocllaaDoor
open Go.RowKit

set_option maxHeartbeats 1000000 in
theorem findB_any (g n cap c : Nat) (es : List (Nat × ByteArray)) (w : World) (hg : g < w.heap.size) (he : EntsB w g es) (hn : es.length = n) (hn2 : n < 1000) :
    Calls Tryd.prog 42 #[.slice (some ⟨g, 0, none⟩) n cap, .int .u8 c] w fun e w' => e = .returned (tellB (lookB es c)) ∧ Below w.heap.size w w' := by
  have HE := Lib.hid (fun (W : World) (hb : Below w.heap.size w W) => he.below hb hg)
  have HN := Lib.hid (fun (h : ∀ j e, j < n → es[j]? = some e → e.1 ≠ c) => congrArg tellB (lookB_none (c := c) (fun j e hj => h j e (by omega))))
  have HS := Lib.hid (fun (k : Nat) (e : Nat × ByteArray) (h : ∀ j e, j < k → es[j]? = some e → e.1 ≠ c) (hk : es[k]? = some e) (hc : e.1 = c) => congrArg tellB (lookB_some h hk hc))
  have HL := Lib.hid (fun (k : Nat) (h : k < n) => (⟨es[k], List.getElem?_eq_getElem (by omega)⟩ : ∃ e, es[k]? = some e))
  clear he hn
  go_enter Tryd.func42, Tryd.ntmps42
  go_wp2_with fail
  go_loopw [11] (fun at_ wr => ∃ (k : Nat), k ≤ n ∧ at_ = .int .i64 k ∧ Hid (∀ j e, j < k → es[j]? = some e → e.1 ≠ c) ∧ Below w.heap.size w wr) (fun at_ _ => n - (intOf at_).toNat)
  case atStart => exact ⟨0, Nat.zero_le _, rfl, Lib.hid (fun j e h => absurd h (Nat.not_lt_zero _)), Below.refl _ _⟩
  case round =>
    obtain ⟨k, hk, rfl, hno, hb⟩ := hrel
    have hsw := hb.size
    by_cases hlt : k < n
    · obtain ⟨⟨z, s⟩, hz⟩ := HL.out k hlt
      obtain ⟨c0, c1⟩ := HE.out wr hb k _ hz
      have hB2 := hb.alloc hsw (.cells #[.int .u8 z, .string s] 87)
      by_cases hc : z = c
      · have hfin := HS.out k _ hno.out hz hc
        go_wp2_with fail
        go_ret2
        exact ⟨rfl, by rw [← hc]; exact hB2⟩
      · have hci : ((z : Int) == (c : Int)) = false := by simp; omega
        have hno' : Hid (∀ j e, j < k + 1 → es[j]? = some e → e.1 ≠ c) := Lib.hid (fun j e hj hej => by
          rcases Nat.lt_or_ge j k with h | h
          · exact hno.out j e h hej
          · obtain rfl : j = k := by omega
            rw [hz] at hej; cases hej; exact hc)
        go_wp2_with fail
        go_roundw
        case rel => exact ⟨k + 1, by omega, by go_num, hno', hB2⟩
        case measure => simp [intOf]; omega
    · obtain rfl : k = n := by omega
      have hfin := HN.out hno.out
      go_wp2_with fail
      go_ret2
      exact ⟨by rw [hfin]; rfl, hb⟩
end Go.Proofs.YtbkfmbkamocllaaDoor
/-
  escape.signs: the table of signs.
-/
namespace Go.Proofs.YtbkfmbkamocllaaDoor
open Go.RowKit Tx

/-- The rows of the table of signs. -/
def signsT : List (Nat × ByteArray) := [(38, ⟨#[97, 109, 112]⟩), (60, ⟨#[108, 116]⟩), (62, ⟨#[103, 116]⟩), (34, ⟨#[113, 117, 111, 116]⟩), (39, ⟨#[97, 112, 111, 115]⟩), (9, ⟨#[35, 57]⟩), (10, ⟨#[35, 49, 48]⟩), (13, ⟨#[35, 49, 51]⟩)]
theorem escB_look (c : UInt8) : escB c = match lookB signsT c.toNat with
    | some n => 38 :: (n.data.toList ++ [59])
    | none => [c] := by
  have H : ∀ k : Fin 256, escB (UInt8.ofNat k.val) = match lookB signsT k.val with
    | some n => 38 :: (n.data.toList ++ [59])
    | none => [UInt8.ofNat k.val] := by decide +kernel
  have h := H ⟨c.toNat, c.toNat_lt⟩
  simpa using h
theorem tellB_none : tellB none = .tuple #[.string ⟨#[]⟩, .bool false] := rfl
theorem tellB_some (n : ByteArray) : tellB (some n) = .tuple #[.string n, .bool true] := rfl
theorem EntsB.keep {w w' : World} {g : Nat} {es : List (Nat × ByteArray)} (h : EntsB w g es) (hk : w'.heap[g]? = w.heap[g]?) : EntsB w' g es := fun j e he => by
  have := h j e he
  rw [World.cell?_of_block (w := w) (w' := w') (a := ⟨g, j * 2, none⟩) hk, World.cell?_of_block (w := w) (w' := w') (a := ⟨g, j * 2 + 1, none⟩) hk]
  exact this
theorem signs_made (w : World) : EntsB (w.alloc (.cells #[.int .u8 38, .string ⟨#[97, 109, 112]⟩, .int .u8 60, .string ⟨#[108, 116]⟩, .int .u8 62, .string ⟨#[103, 116]⟩, .int .u8 34, .string ⟨#[113, 117, 111, 116]⟩,
    .int .u8 39, .string ⟨#[97, 112, 111, 115]⟩, .int .u8 9, .string ⟨#[35, 57]⟩, .int .u8 10, .string ⟨#[35, 49, 48]⟩, .int .u8 13, .string ⟨#[35, 49, 51]⟩] 87)) w.heap.size signsT := by
  intro j e he
  rw [(Bk.new w _ _).cell, (Bk.new w _ _).cell]
  match j, he with
  | 0, he => cases he; exact ⟨rfl, rfl⟩
  | 1, he => cases he; exact ⟨rfl, rfl⟩
  | 2, he => cases he; exact ⟨rfl, rfl⟩
  | 3, he => cases he; exact ⟨rfl, rfl⟩
  | 4, he => cases he; exact ⟨rfl, rfl⟩
  | 5, he => cases he; exact ⟨rfl, rfl⟩
  | 6, he => cases he; exact ⟨rfl, rfl⟩
  | 7, he => cases he; exact ⟨rfl, rfl⟩
  | j + 8, he => simp [signsT] at he
set_option maxHeartbeats 1000000 in
set_option maxRecDepth 100000 in
/-- escape.signs -/
theorem signs_any (w : World) : Calls Tryd.prog 41 #[] w fun e w' => e = .returned (.slice (some ⟨w.heap.size, 0, none⟩) 8 8) ∧ EntsB w' w.heap.size signsT ∧ Below w.heap.size w w' ∧ w'.heap.size = w.heap.size + 1 := by
  have h := Lib.hid (signs_made w)
  go_enter Tryd.func41, Tryd.ntmps41
  go_wp2
  go_ret
  exact ⟨rfl, h.out, (Below.refl _ _).alloc (Nat.le_refl _) _, by simp⟩

end Go.Proofs.YtbkfmbkamocllaaDoor
