/- Texts laid together: Tab TabB Signs Turn -/
import Derived.Test.YtbkfmbkamocllaaGreatDoorRows
import Derived.Test.YtbkfmbkamocllaaGreatDoorMem
import Derived.WalkKit
import Derived.Lib.SlicesS
import Derived.WalkSpells
import Derived.WalkLawsBesides
import Derived.Test.YtbkfmbkamocllaaGreatDoorTxt
import Derived.Laws.AppendOwn
import Derived.Laws.MakeOwn
/-
  THE TABLES OF PACKAGE escape: what its two tables' find answers, over any rows of entries.
-/
namespace Go.Proofs.YtbkfmbkamocllaaGreatDoor
open Go.RowKit

/-- Block g holds rows of a byte and a string. -/
def EntsB (w : World) (g : Nat) (es : List (Nat × ByteArray)) : Prop := ∀ j e, es[j]? = some e → w.cell? ⟨g, j * 2, none⟩ = some (.int .u8 e.1) ∧ w.cell? ⟨g, j * 2 + 1, none⟩ = some (.string e.2)
theorem EntsB.below {w w' : World} {g : Nat} {es : List (Nat × ByteArray)} (h : EntsB w g es) (hb : Below w.heap.size w w') (hg : g < w.heap.size) : EntsB w' g es := fun j e he => by
  have := h j e he
  rw [hb.cell (p := ⟨g, j * 2, none⟩) hg, hb.cell (p := ⟨g, j * 2 + 1, none⟩) hg]
  exact this
/-- What a table of bytes says of a byte. -/
def lookB (es : List (Nat × ByteArray)) (c : Nat) : Option ByteArray := (es.find? (fun e => decide (e.1 = c))).map (·.2)
def tellB (o : Option ByteArray) : Value := match o with
  | some n => .tuple #[.string n, .bool true]
  | none => .tuple #[.string ⟨#[]⟩, .bool false]
theorem lookB_some {es : List (Nat × ByteArray)} {c k : Nat} {e : Nat × ByteArray} (h : ∀ j e, j < k → es[j]? = some e → e.1 ≠ c) (he : es[k]? = some e) (hc : e.1 = c) : lookB es c = some e.2 := by
  unfold lookB
  rw [List.find?_eq_some_iff_getElem.2 ⟨by simpa using hc, k, (List.getElem?_eq_some_iff.1 he).1, (List.getElem?_eq_some_iff.1 he).2, fun j hj => by
    have h2 := h j _ hj (List.getElem?_eq_getElem (Nat.lt_trans hj (List.getElem?_eq_some_iff.1 he).1))
    simpa using h2⟩]
  rfl
theorem lookB_none {es : List (Nat × ByteArray)} {c : Nat} (h : ∀ j e, j < es.length → es[j]? = some e → e.1 ≠ c) : lookB es c = none := by
  unfold lookB
  rw [List.find?_eq_none.2]
  · rfl
  · intro e he
    obtain ⟨j, hj, rfl⟩ := List.mem_iff_getElem.1 he
    have := h j _ hj (List.getElem?_eq_getElem hj)
    simpa using this

/-- Block g holds rows of a string and a byte. -/
def EntsS (w : World) (g : Nat) (es : List (ByteArray × Nat)) : Prop := ∀ j e, es[j]? = some e → w.cell? ⟨g, j * 2, none⟩ = some (.string e.1) ∧ w.cell? ⟨g, j * 2 + 1, none⟩ = some (.int .u8 e.2)
theorem EntsS.below {w w' : World} {g : Nat} {es : List (ByteArray × Nat)} (h : EntsS w g es) (hb : Below w.heap.size w w') (hg : g < w.heap.size) : EntsS w' g es := fun j e he => by
  have := h j e he
  rw [hb.cell (p := ⟨g, j * 2, none⟩) hg, hb.cell (p := ⟨g, j * 2 + 1, none⟩) hg]
  exact this
/-- What a table of strings says of a string. -/
def lookS (es : List (ByteArray × Nat)) (c : ByteArray) : Option Nat := (es.find? (fun e => decide (e.1 = c))).map (·.2)
def tellS (o : Option Nat) : Value := match o with
  | some n => .tuple #[.int .u8 n, .bool true]
  | none => .tuple #[.int .u8 0, .bool false]
theorem lookS_some {es : List (ByteArray × Nat)} {c : ByteArray} {k : Nat} {e : ByteArray × Nat} (h : ∀ j e, j < k → es[j]? = some e → e.1 ≠ c) (he : es[k]? = some e) (hc : e.1 = c) : lookS es c = some e.2 := by
  unfold lookS
  rw [List.find?_eq_some_iff_getElem.2 ⟨by simpa using hc, k, (List.getElem?_eq_some_iff.1 he).1, (List.getElem?_eq_some_iff.1 he).2, fun j hj => by
    have h2 := h j _ hj (List.getElem?_eq_getElem (Nat.lt_trans hj (List.getElem?_eq_some_iff.1 he).1))
    simpa using h2⟩]
  rfl
theorem lookS_none {es : List (ByteArray × Nat)} {c : ByteArray} (h : ∀ j e, j < es.length → es[j]? = some e → e.1 ≠ c) : lookS es c = none := by
  unfold lookS
  rw [List.find?_eq_none.2]
  · rfl
  · intro e he
    obtain ⟨j, hj, rfl⟩ := List.mem_iff_getElem.1 he
    have := h j _ hj (List.getElem?_eq_getElem hj)
    simpa using this

set_option maxHeartbeats 1000000 in
theorem findS_any (g n cap : Nat) (c : ByteArray) (es : List (ByteArray × Nat)) (w : World) (hg : g < w.heap.size) (he : EntsS w g es) (hn : es.length = n) (hn2 : n < 1000) :
    Calls Tryz.prog 110 #[.slice (some ⟨g, 0, none⟩) n cap, .string c] w fun e w' => e = .returned (tellS (lookS es c)) ∧ Below w.heap.size w w' := by
  have HE := Lib.hid (fun (W : World) (hb : Below w.heap.size w W) => he.below hb hg)
  have HN := Lib.hid (fun (h : ∀ j e, j < n → es[j]? = some e → e.1 ≠ c) => congrArg tellS (lookS_none (c := c) (fun j e hj => h j e (by omega))))
  have HS := Lib.hid (fun (k : Nat) (e : ByteArray × Nat) (h : ∀ j e, j < k → es[j]? = some e → e.1 ≠ c) (hk : es[k]? = some e) (hc : e.1 = c) => congrArg tellS (lookS_some h hk hc))
  have HL := Lib.hid (fun (k : Nat) (h : k < n) => (⟨es[k], List.getElem?_eq_getElem (by omega)⟩ : ∃ e, es[k]? = some e))
  clear he hn
  go_enter Tryz.func110, Tryz.ntmps110
  go_wp2_with fail
  go_loopw [11] (fun at_ wr => ∃ (k : Nat), k ≤ n ∧ at_ = .int .i64 k ∧ Hid (∀ j e, j < k → es[j]? = some e → e.1 ≠ c) ∧ Below w.heap.size w wr) (fun at_ _ => n - (intOf at_).toNat)
  case atStart => exact ⟨0, Nat.zero_le _, rfl, Lib.hid (fun j e h => absurd h (Nat.not_lt_zero _)), Below.refl _ _⟩
  case round =>
    obtain ⟨k, hk, rfl, hno, hb⟩ := hrel
    have hsw := hb.size
    by_cases hlt : k < n
    · obtain ⟨⟨s, z⟩, hz⟩ := HL.out k hlt
      obtain ⟨c0, c1⟩ := HE.out wr hb k _ hz
      have hB2 := hb.alloc hsw (.cells #[.string s, .int .u8 z] 165)
      by_cases hc : s = c
      · have hfin := HS.out k _ hno.out hz hc
        go_wp2_with fail
        go_ret2
        exact ⟨rfl, by rw [← hc]; exact hB2⟩
      · have hci : (s.toList == c.toList) = false := (Lib.bytes_beq_false_iff s c).2 hc
        have hno' : Hid (∀ j e, j < k + 1 → es[j]? = some e → e.1 ≠ c) := Lib.hid (fun j e hj hej => by
          rcases Nat.lt_or_ge j k with h | h
          · exact hno.out j e h hej
          · obtain rfl : j = k := by omega
            rw [hz] at hej; cases hej; exact hc)
        go_wp2_with fail
        go_roundw
        case rel => exact ⟨k + 1, by omega, by go_num, hno', hB2⟩
        case measure => simp [intOf]; omega
    · obtain rfl : k = n := by omega
      have hfin := HN.out hno.out
      go_wp2_with fail
      go_ret2
      exact ⟨by rw [hfin]; rfl, hb⟩
end Go.Proofs.YtbkfmbkamocllaaGreatDoor
/-
  escape's table of bytes: what its find answers.
-/
namespace Go.Proofs.YtbkfmbkamocllaaGreatDoor
open Go.RowKit

set_option maxHeartbeats 1000000 in
theorem findB_any (g n cap c : Nat) (es : List (Nat × ByteArray)) (w : World) (hg : g < w.heap.size) (he : EntsB w g es) (hn : es.length = n) (hn2 : n < 1000) :
    Calls Tryz.prog 44 #[.slice (some ⟨g, 0, none⟩) n cap, .int .u8 c] w fun e w' => e = .returned (tellB (lookB es c)) ∧ Below w.heap.size w w' := by
  have HE := Lib.hid (fun (W : World) (hb : Below w.heap.size w W) => he.below hb hg)
  have HN := Lib.hid (fun (h : ∀ j e, j < n → es[j]? = some e → e.1 ≠ c) => congrArg tellB (lookB_none (c := c) (fun j e hj => h j e (by omega))))
  have HS := Lib.hid (fun (k : Nat) (e : Nat × ByteArray) (h : ∀ j e, j < k → es[j]? = some e → e.1 ≠ c) (hk : es[k]? = some e) (hc : e.1 = c) => congrArg tellB (lookB_some h hk hc))
  have HL := Lib.hid (fun (k : Nat) (h : k < n) => (⟨es[k], List.getElem?_eq_getElem (by omega)⟩ : ∃ e, es[k]? = some e))
  clear he hn
  go_enter Tryz.func44, Tryz.ntmps44
  go_wp2_with fail
  go_loopw [11] (fun at_ wr => ∃ (k : Nat), k ≤ n ∧ at_ = .int .i64 k ∧ Hid (∀ j e, j < k → es[j]? = some e → e.1 ≠ c) ∧ Below w.heap.size w wr) (fun at_ _ => n - (intOf at_).toNat)
  case atStart => exact ⟨0, Nat.zero_le _, rfl, Lib.hid (fun j e h => absurd h (Nat.not_lt_zero _)), Below.refl _ _⟩
  case round =>
    obtain ⟨k, hk, rfl, hno, hb⟩ := hrel
    have hsw := hb.size
    by_cases hlt : k < n
    · obtain ⟨⟨z, s⟩, hz⟩ := HL.out k hlt
      obtain ⟨c0, c1⟩ := HE.out wr hb k _ hz
      have hB2 := hb.alloc hsw (.cells #[.int .u8 z, .string s] 117)
      by_cases hc : z = c
      · have hfin := HS.out k _ hno.out hz hc
        go_wp2_with fail
        go_ret2
        exact ⟨rfl, by rw [← hc]; exact hB2⟩
      · have hci : ((z : Int) == (c : Int)) = false := by simp; omega
        have hno' : Hid (∀ j e, j < k + 1 → es[j]? = some e → e.1 ≠ c) := Lib.hid (fun j e hj hej => by
          rcases Nat.lt_or_ge j k with h | h
          · exact hno.out j e h hej
          · obtain rfl : j = k := by omega
            rw [hz] at hej; cases hej; exact hc)
        go_wp2_with fail
        go_roundw
        case rel => exact ⟨k + 1, by omega, by go_num, hno', hB2⟩
        case measure => simp [intOf]; omega
    · obtain rfl : k = n := by omega
      have hfin := HN.out hno.out
      go_wp2_with fail
      go_ret2
      exact ⟨by rw [hfin]; rfl, hb⟩
end Go.Proofs.YtbkfmbkamocllaaGreatDoor
/-
  escape.signs: the table of signs.
-/
namespace Go.Proofs.YtbkfmbkamocllaaGreatDoor
open Go.RowKit Tx

/-- The rows of the table of signs. -/
def signsT : List (Nat × ByteArray) := [(38, ⟨#[97, 109, 112]⟩), (60, ⟨#[108, 116]⟩), (62, ⟨#[103, 116]⟩), (34, ⟨#[113, 117, 111, 116]⟩), (39, ⟨#[97, 112, 111, 115]⟩), (9, ⟨#[35, 57]⟩), (10, ⟨#[35, 49, 48]⟩), (13, ⟨#[35, 49, 51]⟩)]
theorem escB_look (c : UInt8) : escB c = match lookB signsT c.toNat with
    | some n => 38 :: (n.data.toList ++ [59])
    | none => [c] := by
  have H : ∀ k : Fin 256, escB (UInt8.ofNat k.val) = match lookB signsT k.val with
    | some n => 38 :: (n.data.toList ++ [59])
    | none => [UInt8.ofNat k.val] := by decide +kernel
  have h := H ⟨c.toNat, c.toNat_lt⟩
  simpa using h
theorem tellB_none : tellB none = .tuple #[.string ⟨#[]⟩, .bool false] := rfl
theorem tellB_some (n : ByteArray) : tellB (some n) = .tuple #[.string n, .bool true] := rfl
theorem EntsB.keep {w w' : World} {g : Nat} {es : List (Nat × ByteArray)} (h : EntsB w g es) (hk : w'.heap[g]? = w.heap[g]?) : EntsB w' g es := fun j e he => by
  have := h j e he
  rw [World.cell?_of_block (w := w) (w' := w') (a := ⟨g, j * 2, none⟩) hk, World.cell?_of_block (w := w) (w' := w') (a := ⟨g, j * 2 + 1, none⟩) hk]
  exact this
theorem signs_made (w : World) : EntsB (w.alloc (.cells #[.int .u8 38, .string ⟨#[97, 109, 112]⟩, .int .u8 60, .string ⟨#[108, 116]⟩, .int .u8 62, .string ⟨#[103, 116]⟩, .int .u8 34, .string ⟨#[113, 117, 111, 116]⟩,
    .int .u8 39, .string ⟨#[97, 112, 111, 115]⟩, .int .u8 9, .string ⟨#[35, 57]⟩, .int .u8 10, .string ⟨#[35, 49, 48]⟩, .int .u8 13, .string ⟨#[35, 49, 51]⟩] 117)) w.heap.size signsT := by
  intro j e he
  rw [(Bk.new w _ _).cell, (Bk.new w _ _).cell]
  match j, he with
  | 0, he => cases he; exact ⟨rfl, rfl⟩
  | 1, he => cases he; exact ⟨rfl, rfl⟩
  | 2, he => cases he; exact ⟨rfl, rfl⟩
  | 3, he => cases he; exact ⟨rfl, rfl⟩
  | 4, he => cases he; exact ⟨rfl, rfl⟩
  | 5, he => cases he; exact ⟨rfl, rfl⟩
  | 6, he => cases he; exact ⟨rfl, rfl⟩
  | 7, he => cases he; exact ⟨rfl, rfl⟩
  | j + 8, he => simp [signsT] at he
set_option maxHeartbeats 1000000 in
set_option maxRecDepth 100000 in
/-- escape.signs -/
theorem signs_any (w : World) : Calls Tryz.prog 43 #[] w fun e w' => e = .returned (.slice (some ⟨w.heap.size, 0, none⟩) 8 8) ∧ EntsB w' w.heap.size signsT ∧ Below w.heap.size w w' ∧ w'.heap.size = w.heap.size + 1 := by
  have h := Lib.hid (signs_made w)
  go_enter Tryz.func43, Tryz.ntmps43
  go_wp2
  go_ret
  exact ⟨rfl, h.out, (Below.refl _ _).alloc (Nat.le_refl _) _, by simp⟩

end Go.Proofs.YtbkfmbkamocllaaGreatDoor
/-
  escape.turned: the table by what stands for its keys.
-/
namespace Go.Proofs.YtbkfmbkamocllaaGreatDoor
open Go.RowKit Tx

def rowS (es : List (Nat × ByteArray)) : List Value := es.flatMap fun e => [.string e.2, .int .u8 e.1]
theorem rowS_snoc (es : List (Nat × ByteArray)) (e : Nat × ByteArray) : rowS (es ++ [e]) = rowS es ++ [.string e.2, .int .u8 e.1] := by simp [rowS]
theorem rowS_length (es : List (Nat × ByteArray)) : (rowS es).length = es.length * 2 := by
  unfold rowS
  rw [List.length_flatMap]
  simp
  induction es with
  | nil => rfl
  | cons e es ih => simp only [List.map_cons, List.sum_cons, List.length_cons, ih]; omega
theorem rowS_get : ∀ (es : List (Nat × ByteArray)) (j : Nat) (e : Nat × ByteArray), es[j]? = some e → (rowS es)[j * 2]? = some (.string e.2) ∧ (rowS es)[j * 2 + 1]? = some (.int .u8 e.1)
  | [], j, e, h => by simp at h
  | a :: es, 0, e, h => by
    obtain rfl : a = e := by simpa using h
    exact ⟨rfl, rfl⟩
  | a :: es, j + 1, e, h => by
    have := rowS_get es j e (by simpa using h)
    have e2 : rowS (a :: es) = .string a.2 :: .int .u8 a.1 :: rowS es := rfl
    rw [e2, show (j + 1) * 2 = j * 2 + 1 + 1 by omega]
    simpa using this
def OwnS (B : Nat) (w : World) (v : Value) (es : List (Nat × ByteArray)) : Prop := w.ownsRow B 165 2 v es.length (rowS es)
theorem OwnS.ents {B n : Nat} {w : World} {v : Value} {es : List (Nat × ByteArray)} (h : OwnS B w v es) (hn : es.length = n) (h0 : 0 < n) : ∃ g cap, v = .slice (some ⟨g, 0, none⟩) n cap ∧ EntsS w g (es.map fun e => (e.2, e.1)) ∧ B ≤ g ∧ g < w.heap.size := by
  rcases h.2 with ⟨_, h1⟩ | ⟨g, cap, cur, hv, hB, hg, h1, h2, h3, h4⟩
  · omega
  · refine ⟨g, cap, by rw [hv, hn], ?_, hB, (Array.getElem?_eq_some_iff.1 hg).1⟩
    intro j e he
    rw [List.getElem?_map] at he
    obtain ⟨e', he', rfl⟩ := Option.map_eq_some_iff.1 he
    have hj : j < es.length := (List.getElem?_eq_some_iff.1 he').1
    have hr := rowS_get es j e' he'
    have hc : ∀ i, i < es.length * 2 → w.cell? ⟨g, i, none⟩ = (rowS es)[i]? := fun i hi => by
      rw [cell_of_row w g i cur _ _ hg, ← h4, List.getElem?_take_of_lt hi]
      simp
    rw [hc _ (by omega), hc _ (by omega)]
    exact hr
theorem infoEntS : (Tryz.prog.info? 165).map (fun i => (i.zero, i.size, i.bytes)) = some (some (.agg #[.string ⟨#[]⟩, .int .u8 0]), 2, 24) := by kernel_rfl

set_option maxHeartbeats 2000000 in
set_option maxRecDepth 100000 in
theorem turned_any (g n : Nat) (es : List (Nat × ByteArray)) (w : World) (hg : g < w.heap.size) (he : EntsB w g es) (hn : es.length = n) (hn2 : n < 1000) (hn0 : 0 < n) :
    Calls Tryz.prog 95 #[.slice (some ⟨g, 0, none⟩) n n] w fun e w' => ∃ g' cap, e = .returned (.slice (some ⟨g', 0, none⟩) n cap) ∧ EntsS w' g' (es.map fun e => (e.2, e.1)) ∧ w.heap.size ≤ g' ∧ g' < w'.heap.size ∧ Below w.heap.size w w' := by
  obtain ⟨i0, hi, hz0, hz1, hz2⟩ := info_parts infoEntS
  have HE := Lib.hid (fun (W : World) (hb : Below w.heap.size w W) => he.below hb hg)
  have HL := Lib.hid (fun (k : Nat) (h : k < n) => (⟨es[k], List.getElem?_eq_getElem (by omega)⟩ : ∃ e, es[k]? = some e))
  have HN := Lib.hid hn
  clear he hn
  obtain ⟨w1, hmk, hown0, hgr⟩ := run_make_own (P := Tryz.prog) w w.heap.size 148 165 i0 _ 2 Tryz.underlying148 hi hz0 hz1 .i64 .i64 n (by rw [hz2]; omega) (by unfold maxLen; omega) (Nat.le_refl _)
  have hb0 : Below w.heap.size w w1 := (Below.refl _ _).grown hgr (Nat.le_refl _) (fun k hk => by cases hk)
  have HO0 : Hid (OwnS w.heap.size w1 (.slice (some ⟨w.heap.size, 0, none⟩) 0 n) []) := hown0
  clear hown0 hgr
  go_enter Tryz.func95, Tryz.ntmps95
  go_wp2_with fail
  go_loopw [3, 11] (fun tab at_ wr => ∃ (k : Nat) (v : Value), k ≤ n ∧ tab = v ∧ at_ = .int .i64 k ∧ Hid (OwnS w.heap.size wr v (es.take k)) ∧ Below w.heap.size w wr) (fun _ at_ _ => n - (intOf at_).toNat)
  case atStart => exact ⟨0, _, Nat.zero_le _, rfl, rfl, HO0.out, hb0⟩
  case round =>
    obtain ⟨k, tab, hk, htab, rfl, hown, hb⟩ := hrel
    have htab2 := htab.symm
    subst htab2
    have hsw := hb.size
    by_cases hlt : k < n
    · obtain ⟨⟨z, s⟩, hz⟩ := HL.out k hlt
      obtain ⟨c0, c1⟩ := HE.out wr hb k _ hz
      have htk : Hid (es.take (k + 1) = es.take k ++ [(z, s)]) := by
        unfold Hid
        rw [List.take_add_one, hz]
        rfl
      have hlen : (es.take k).length = k := by rw [List.length_take, HN.out]; omega
      obtain ⟨z', hz'⟩ : ∃ z' : Int, (z : Int) = z' := ⟨_, rfl⟩
      have hzz := Lib.hid hz'
      rw [hz'] at c0
      have ho : wr.ownsRow w.heap.size 165 2 tab k (rowS (es.take k)) := by have := hown.out; unfold OwnS at this; rw [hlen] at this; exact this
      have HO := Lib.hid ho
      have hlow : Hid (∀ j, tab.ownBlock = some j → w.heap.size ≤ j) := fun j hj => (ho.lt j hj).1
      clear hz hlen hz' ho
      go_wp2_with (at_builtin; refine wpList_append_own _ rfl _ _ 148 rfl w.heap.size 165 i0 (.agg #[.string ⟨#[]⟩, .int .u8 0]) 2 24 Tryz.underlying148 hi hz0 hz1 hz2 rfl (by decide) _ k (rowS (es.take k)) rfl ((HO.out.alloc _).alloc _) ⟨wr.heap.size + 1, 0, none⟩ 1 1 [.string s, .int .u8 z'] rfl rfl ?e1 ?e2 ?e3 ?e4 ?e5 ?_)
      case e2 => exact ⟨rfl, rfl⟩
      case e3 => first | omega | (unfold maxLen; omega)
      case e4 => omega
      case e5 => omega
      intro v' w2 hown' hgrow _
      have hown2 : Hid (OwnS w.heap.size w2 v' (es.take (k + 1))) := by
        unfold Hid OwnS
        rw [htk.out, rowS_snoc, List.length_append, List.length_singleton]
        rw [show (es.take k).length = k by rw [List.length_take, HN.out]; omega, hzz.out]
        exact hown'
      have hb2 : Below w.heap.size w w2 := ((hb.alloc hsw _).alloc (by simp; omega) _).grown hgrow (by simp; omega) hlow.out
      clear hown' hgrow
      go_wp2_with fail
      go_roundw
      case rel => exact ⟨k + 1, _, by omega, rfl, by go_num, hown2, hb2⟩
      case measure => simp [intOf]; omega
    · obtain rfl : k = n := by omega
      have hall : es.take k = es := by rw [← HN.out]; exact List.take_length
      rw [hall] at hown
      obtain ⟨g', cap, rfl, h1, h2, h3⟩ := hown.out.ents HN.out hn0
      have H1 := Lib.hid h1
      clear h1 hall
      go_wp2_with fail
      go_ret
      exact ⟨g', cap, rfl, H1.out, h2, h3, hb⟩
end Go.Proofs.YtbkfmbkamocllaaGreatDoor
