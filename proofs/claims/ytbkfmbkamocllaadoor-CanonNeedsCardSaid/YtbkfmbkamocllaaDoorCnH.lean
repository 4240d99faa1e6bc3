/-
  Nodes that the call has made are nodes that can be read, within their capacity; the law's awake.
-/
import Derived.Test.YtbkfmbkamocllaaDoorCnG
import Derived.Test.YtbkfmbkamocllaaDoorOwN
namespace Go.Proofs.YtbkfmbkamocllaaDoor
open Go.RowKit Tk Tr Cn

theorem OwnN.readM {B : Nat} {w : World} {v : Value} {ns : List Nd} (h : OwnN B w v ns) : ReadM w v ns := by
  have hr := h.reads
  obtain ⟨ks, rfl, h', hra⟩ := h
  rcases h'.2 with ⟨rfl, h0⟩ | ⟨g, cap, cur, rfl, hg, hh, h1, h2, h3, h4⟩
  · exact ⟨none, 0, by rw [List.length_map, h0], by rw [List.length_map]; omega, Nat.zero_le _, fun h => by rw [List.length_map] at h; omega⟩
  · refine ⟨_, cap, by rw [List.length_map], by rw [List.length_map]; exact h1, h2, fun _ => ⟨_, rfl, lt_of_block hh, fun i x hi => ?_⟩⟩
    rw [List.getElem?_map] at hi
    obtain ⟨k, hk, rfl⟩ := Option.map_eq_some_iff.1 hi
    have hlt := (List.getElem?_eq_some_iff.1 hk).1
    have hc : ∀ j, j < 6 → w.cell? ⟨g, i * 6 + j, none⟩ = (encN k)[j]? := fun j hj => by
      rw [show w.cell? ⟨g, i * 6 + j, none⟩ = cur[i * 6 + j]? from Bk.cell (show Bk w g 32 cur from hh) _, ← Array.getElem?_toList, ← nds_get hk hj, ← h4, List.getElem?_take_of_lt (by omega)]
    refine ⟨k.2, ?_, (hra k (List.mem_of_getElem? hk)).readC⟩
    rw [add_at, Nat.zero_add]
    refine ⟨?_, ?_, ?_, ?_, ?_, ?_⟩
    · exact hc 0 (by omega)
    · exact hc 1 (by omega)
    · exact hc 2 (by omega)
    · exact hc 3 (by omega)
    · exact hc 4 (by omega)
    · exact hc 5 (by omega)
theorem RowA.none (w : World) : RowA w (.slice none 0 0) [] := ⟨Option.none, 0, rfl, fun h => absurd h (Nat.not_lt_zero _), Nat.le_refl _, Nat.zero_le _, fun _ => rfl⟩
/-- nodes written out in a block of their own -/
theorem OwnN.lit {w : World} {g : Nat} {cs : Array Value} {B : Nat} (ks : List (Nd × Value)) (hk : Bk w g 32 cs) (hB : B ≤ g) (n : Nat) (hn : ks.length = n) (hm : n ≤ maxLen) (hcs : (ks.flatMap encN) = cs.toList) (hr : ∀ k ∈ ks, RowA w k.2 k.1.2.2.2.2.1) :
    OwnN B w (.slice (some ⟨g, 0, Option.none⟩) n n) (ks.map (·.1)) := by
  subst hn
  have hlen : ∀ l : List (Nd × Value), (l.flatMap encN).length = l.length * 6 := fun l => by
    induction l with
    | nil => rfl
    | cons a l ih => rw [List.flatMap_cons, List.length_append, ih, List.length_cons]; simp [encN]; omega
  have hcl : cs.toList.length = ks.length * 6 := by rw [← hcs]; exact hlen ks
  have hsz : cs.size = ks.length * 6 := by rw [← hcl, Array.length_toList]
  have hnd : nds ks = ks.flatMap encN := by unfold nds; rfl
  refine ⟨ks, rfl, ⟨by rw [hnd]; exact hlen ks, .inr ⟨g, ks.length, cs, rfl, hB, hk, Nat.le_refl _, hm, hsz, ?_⟩⟩, hr⟩
  rw [hnd, hcs, List.take_of_length_le (by omega)]
def wakeN : List Nd := [(-1, 0, [97], [110], [], []), (0, 0, [98], [110], [], [60])]
def wakeO : List UInt8 := [60, 63, 120, 109, 108, 32, 118, 101, 114, 115, 105, 111, 110, 61, 39, 49, 46, 48, 39, 32, 101, 110, 99, 111, 100, 105, 110, 103, 61, 39, 85, 84, 70, 45, 56, 39, 63, 62, 10, 60, 97, 32, 120, 109, 108, 110, 115, 61, 39, 110, 39, 62, 60, 98, 62, 38, 108, 116, 59, 60, 47, 98, 62, 60, 47, 97, 62]
theorem writeV_yes {ns : List Nd} {o : List UInt8} (h1 : rightB ns = true) (h2 : canonT ns = o) : writeV ns = .tuple #[.string (bts o), .int .i64 0] := by unfold writeV; rw [if_pos h1, h2]
theorem writeV_no {ns : List Nd} (h1 : rightB ns = false) : writeV ns = .tuple #[.string ⟨#[]⟩, .int .i64 6] := by unfold writeV; rw [if_neg (by rw [h1]; decide)]
theorem wakeV : writeV wakeN = .tuple #[.string (bts wakeO), .int .i64 0] := writeV_yes (by decide +kernel) (by decide +kernel)
set_option maxHeartbeats 2000000 in
set_option maxRecDepth 100000 in
theorem awakeC_any (w : World) (hT : Tabs w) : Calls Tryd.prog 6 #[] w fun e w' => e = .returned (.bool true) ∧ Below w.heap.size w w' := by
  obtain ⟨Y, hY⟩ : ∃ Y, w.heap.size = Y := ⟨_, rfl⟩
  obtain ⟨W1, hW1⟩ : ∃ W, w.alloc (.cells #[.int .i64 (-1), .int .i64 0, .string ⟨#[97]⟩, .string ⟨#[110]⟩, .slice none 0 0, .string ⟨#[]⟩, .int .i64 0, .int .i64 0, .string ⟨#[98]⟩, .string ⟨#[110]⟩, .slice none 0 0, .string ⟨#[60]⟩] 32) = W := ⟨_, rfl⟩
  have B1 : Hid (Below w.heap.size w W1) := by rw [← hW1]; exact (Below.refl _ _).alloc (Nat.le_refl _) _
  have hk : Bk W1 Y 32 #[.int .i64 (-1), .int .i64 0, .string ⟨#[97]⟩, .string ⟨#[110]⟩, .slice none 0 0, .string ⟨#[]⟩, .int .i64 0, .int .i64 0, .string ⟨#[98]⟩, .string ⟨#[110]⟩, .slice none 0 0, .string ⟨#[60]⟩] := by rw [← hW1, ← hY]; exact Bk.new _ _ _
  have HO := OwnN.lit (B := Y) [((-1, 0, [97], [110], [], []), .slice none 0 0), ((0, 0, [98], [110], [], [60]), .slice none 0 0)] hk (Nat.le_refl _) 2 rfl (by decide) rfl (fun k hk => by
    simp at hk
    rcases hk with rfl | rfl <;> exact RowA.none _)
  have HR : Hid (Calls Tryd.prog 7 #[.slice (some ⟨Y, 0, none⟩) 2 2] W1 fun e w' => e = .returned (writeV wakeN) ∧ Below W1.heap.size W1 w') := write_any _ wakeN W1 (hT.below B1.out) HO.readM (by decide) (by decide)
  have HV := Lib.hid wakeV
  have HCB : Hid ((bts wakeO).toList = wakeO) := by unfold Hid; rw [ByteArray.toList_mk]
  obtain ⟨CT, hCT⟩ : ∃ c, bts wakeO = c := ⟨_, rfl⟩
  rw [hCT] at HV HCB
  have hcb := HCB.out
  unfold wakeO at hcb
  have HW1 := Lib.hid hW1
  have HYE := Lib.hid hY
  clear hT hk HO hCT hW1 hY
  go_enter Tryd.func6, Tryd.ntmps6
  go_wp2_with (go_at_call 7; rw [HW1.out, HYE.out]; refine HR.out.mono ?_; rintro e w2 ⟨rfl, b2⟩; rw [HV.out])
  go_ret
  exact ⟨rfl, B1.out.trans (b2.mono B1.out.size)⟩
end Go.Proofs.YtbkfmbkamocllaaDoor
