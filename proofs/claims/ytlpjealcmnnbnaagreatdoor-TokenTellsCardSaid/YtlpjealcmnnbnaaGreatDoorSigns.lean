/-
  escape.signs: the table of signs.
-/
import Derived.Test.YtlpjealcmnnbnaaGreatDoorEsc
import Derived.Test.YtlpjealcmnnbnaaGreatDoorTab
namespace Go.Proofs.YtlpjealcmnnbnaaGreatDoor
open Go.RowKit Tx

/-- The rows of the table of signs. -/
def signsT : List (Nat × ByteArray) := [(38, ⟨#[97, 109, 112]⟩), (60, ⟨#[108, 116]⟩), (62, ⟨#[103, 116]⟩), (34, ⟨#[113, 117, 111, 116]⟩), (39, ⟨#[97, 112, 111, 115]⟩), (9, ⟨#[35, 57]⟩), (10, ⟨#[35, 49, 48]⟩), (13, ⟨#[35, 49, 51]⟩)]
theorem escB_look (c : UInt8) : escB c = match lookB signsT c.toNat with
    | some n => 38 :: (n.data.toList ++ [59])
    | none => [c] := by
  have H : ∀ k : Fin 256, escB (UInt8.ofNat k.val) = match lookB signsT k.val with
    | some n => 38 :: (n.data.toList ++ [59])
    | none => [UInt8.ofNat k.val] := by decide +kernel
  have h := H ⟨c.toNat, c.toNat_lt⟩
  simpa using h
theorem tellB_none : tellB none = .tuple #[.string ⟨#[]⟩, .bool false] := rfl
theorem tellB_some (n : ByteArray) : tellB (some n) = .tuple #[.string n, .bool true] := rfl
theorem EntsB.keep {w w' : World} {g : Nat} {es : List (Nat × ByteArray)} (h : EntsB w g es) (hk : w'.heap[g]? = w.heap[g]?) : EntsB w' g es := fun j e he => by
  have := h j e he
  rw [World.cell?_of_block (w := w) (w' := w') (a := ⟨g, j * 2, none⟩) hk, World.cell?_of_block (w := w) (w' := w') (a := ⟨g, j * 2 + 1, none⟩) hk]
  exact this
theorem signs_made (w : World) : EntsB (w.alloc (.cells #[.int .u8 38, .string ⟨#[97, 109, 112]⟩, .int .u8 60, .string ⟨#[108, 116]⟩, .int .u8 62, .string ⟨#[103, 116]⟩, .int .u8 34, .string ⟨#[113, 117, 111, 116]⟩,
    .int .u8 39, .string ⟨#[97, 112, 111, 115]⟩, .int .u8 9, .string ⟨#[35, 57]⟩, .int .u8 10, .string ⟨#[35, 49, 48]⟩, .int .u8 13, .string ⟨#[35, 49, 51]⟩] 115)) w.heap.size signsT := by
  intro j e he
  rw [(Bk.new w _ _).cell, (Bk.new w _ _).cell]
  match j, he with
  | 0, he => cases he; exact ⟨rfl, rfl⟩
  | 1, he => cases he; exact ⟨rfl, rfl⟩
  | 2, he => cases he; exact ⟨rfl, rfl⟩
  | 3, he => cases he; exact ⟨rfl, rfl⟩
  | 4, he => cases he; exact ⟨rfl, rfl⟩
  | 5, he => cases he; exact ⟨rfl, rfl⟩
  | 6, he => cases he; exact ⟨rfl, rfl⟩
  | 7, he => cases he; exact ⟨rfl, rfl⟩
  | j + 8, he => simp [signsT] at he
set_option maxHeartbeats 1000000 in
set_option maxRecDepth 100000 in
/-- escape.signs -/
theorem signs_any (w : World) : Calls Tryz.prog 57 #[] w fun e w' => e = .returned (.slice (some ⟨w.heap.size, 0, none⟩) 8 8) ∧ EntsB w' w.heap.size signsT ∧ Below w.heap.size w w' ∧ w'.heap.size = w.heap.size + 1 := by
  have h := Lib.hid (signs_made w)
  go_enter Tryz.func57, Tryz.ntmps57
  go_wp2
  go_ret
  exact ⟨rfl, h.out, (Below.refl _ _).alloc (Nat.le_refl _) _, by simp⟩

end Go.Proofs.YtlpjealcmnnbnaaGreatDoor
