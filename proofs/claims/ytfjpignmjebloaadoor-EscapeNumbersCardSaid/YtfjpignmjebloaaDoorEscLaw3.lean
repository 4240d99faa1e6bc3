/-
  THE LAW EscapeRefuses.
-/
import Derived.Test.YtfjpignmjebloaaDoorEscLaws
namespace Go.Proofs.YtfjpignmjebloaaDoor
open Go.RowKit Tx

theorem uintMod (c : Int) (k : Int) (hk : 0 < k) (hk2 : k < 2000000) : ∃ n : Nat, wrap64 ((IntKind.u64.wrap c).tmod k) = (n : Int) ∧ (n : Int) < k := by
  have e : IntKind.u64.wrap c = c % 18446744073709551616 := by simp [IntKind.wrap, IntKind.bits, IntKind.signed]
  have h0 : 0 ≤ IntKind.u64.wrap c := by rw [e]; exact Int.emod_nonneg _ (by decide)
  rw [Int.tmod_eq_emod_of_nonneg h0]
  have h1 := Int.emod_nonneg (IntKind.u64.wrap c) (show k ≠ 0 by omega)
  have h2 := Int.emod_lt_of_pos (IntKind.u64.wrap c) hk
  refine ⟨(IntKind.u64.wrap c % k).toNat, ?_, by omega⟩
  unfold wrap64
  omega
def near : List ByteArray := [⟨#[38]⟩, ⟨#[38, 59]⟩, ⟨#[38, 120, 59]⟩, ⟨#[38, 97, 109, 112]⟩, ⟨#[38, 35, 59]⟩, ⟨#[38, 35, 120, 59]⟩, ⟨#[38, 35, 49, 50, 51, 52, 53, 54, 55, 56, 59]⟩, ⟨#[38, 35, 120, 49, 50, 51, 52, 53, 54, 55, 59]⟩, ⟨#[38, 35, 120, 103, 59]⟩, ⟨#[38, 65, 77, 80, 59]⟩, ⟨#[60]⟩, ⟨#[38, 35, 48, 59]⟩, ⟨#[38, 35, 32, 57, 59]⟩, ⟨#[97, 38]⟩]
theorem near_none (k : Nat) (b : ByteArray) (h : near[k]? = some b) : valid b.data.toList = true ∧ back b.data.toList = none ∧ b.size ≤ 20 := by
  have H : ∀ b ∈ near, valid b.data.toList = true ∧ back b.data.toList = none ∧ b.size ≤ 20 := by decide +kernel
  exact H b (List.mem_of_getElem? h)
theorem near_made (w : World) (k : Nat) (b : ByteArray) (h : near[k]? = some b) : (w.alloc (.cells #[.string ⟨#[38]⟩, .string ⟨#[38, 59]⟩, .string ⟨#[38, 120, 59]⟩, .string ⟨#[38, 97, 109, 112]⟩, .string ⟨#[38, 35, 59]⟩, .string ⟨#[38, 35, 120, 59]⟩, .string ⟨#[38, 35, 49, 50, 51, 52, 53, 54, 55, 56, 59]⟩, .string ⟨#[38, 35, 120, 49, 50, 51, 52, 53, 54, 55, 59]⟩, .string ⟨#[38, 35, 120, 103, 59]⟩, .string ⟨#[38, 65, 77, 80, 59]⟩, .string ⟨#[60]⟩, .string ⟨#[38, 35, 48, 59]⟩, .string ⟨#[38, 35, 32, 57, 59]⟩, .string ⟨#[97, 38]⟩] 9)).cell? ⟨w.heap.size, k, none⟩ = some (.string b) := by
  rw [(Bk.new w _ _).cell]
  match k, h with
  | 0, hb => cases hb; rfl
  | 1, hb => cases hb; rfl
  | 2, hb => cases hb; rfl
  | 3, hb => cases hb; rfl
  | 4, hb => cases hb; rfl
  | 5, hb => cases hb; rfl
  | 6, hb => cases hb; rfl
  | 7, hb => cases hb; rfl
  | 8, hb => cases hb; rfl
  | 9, hb => cases hb; rfl
  | 10, hb => cases hb; rfl
  | 11, hb => cases hb; rfl
  | 12, hb => cases hb; rfl
  | 13, hb => cases hb; rfl
  | k + 14, hb => simp [near] at hb

set_option maxHeartbeats 2000000 in
set_option maxRecDepth 100000 in
theorem escapeRefuses_any (what : Int) (w : World) (hT : Tabs w) (hE : ErrS w) : Calls Tryd.prog 6 #[.int .i64 what] w (Holds w) := by
  have HA := Lib.hid (fun W h1 h2 => awake_any W h1 h2)
  obtain ⟨n, hn, hn2⟩ := uintMod what 14 (by omega) (by omega)
  have hlt : n < near.length := by show n < 14; omega
  obtain ⟨S, hS⟩ : ∃ S, near[n]? = some S := ⟨_, List.getElem?_eq_getElem hlt⟩
  obtain ⟨v1, v2, v3⟩ := near_none n S hS
  have hcell := near_made w n S hS
  have B := fun (W : World) h1 h2 => back_any S W h1 h2 (by omega)
  rw [backV_none v1 v2] at B
  have B2 := fun (W : World) h1 h2 => back_any ⟨#[62, 34, 39, 38, 103, 116, 59, 38, 113, 117, 111, 116, 59, 38, 97, 112, 111, 115, 59, 59]⟩ W h1 h2 (by decide)
  have hv : valid [62, 34, 39, 38, 103, 116, 59, 38, 113, 117, 111, 116, 59, 38, 97, 112, 111, 115, 59, 59] = true := by decide +kernel
  have hb : back [62, 34, 39, 38, 103, 116, 59, 38, 113, 117, 111, 116, 59, 38, 97, 112, 111, 115, 59, 59] = some [62, 34, 39, 62, 34, 39, 59] := by decide +kernel
  rw [show (⟨#[62, 34, 39, 38, 103, 116, 59, 38, 113, 117, 111, 116, 59, 38, 97, 112, 111, 115, 59, 59]⟩ : ByteArray).data.toList = [62, 34, 39, 38, 103, 116, 59, 38, 113, 117, 111, 116, 59, 38, 97, 112, 111, 115, 59, 59] from rfl, backV_some hv hb] at B2
  have HB := Lib.hid B
  have HB2 := Lib.hid B2
  have n14 : (n : Int) < 14 := hn2
  have hB : Below w.heap.size w (w.alloc (.cells #[.string ⟨#[38]⟩, .string ⟨#[38, 59]⟩, .string ⟨#[38, 120, 59]⟩, .string ⟨#[38, 97, 109, 112]⟩, .string ⟨#[38, 35, 59]⟩, .string ⟨#[38, 35, 120, 59]⟩, .string ⟨#[38, 35, 49, 50, 51, 52, 53, 54, 55, 56, 59]⟩, .string ⟨#[38, 35, 120, 49, 50, 51, 52, 53, 54, 55, 59]⟩, .string ⟨#[38, 35, 120, 103, 59]⟩, .string ⟨#[38, 65, 77, 80, 59]⟩, .string ⟨#[60]⟩, .string ⟨#[38, 35, 48, 59]⟩, .string ⟨#[38, 35, 32, 57, 59]⟩, .string ⟨#[97, 38]⟩] 9)) := (Below.refl _ _).alloc (Nat.le_refl _) _
  have HBel := Lib.hid hB
  clear hS v1 v2 v3 B B2 hv hb hlt hB hn2
  go_enter Tryd.func6, Tryd.ntmps6
  go_wp2_with fail
  refine (HB.out _ (hT.below HBel.out) (hE.below HBel.out)).mono ?_
  rintro e w1 ⟨rfl, b1⟩
  have c1 := HBel.out.trans (b1.mono HBel.out.size)
  clear hcell
  go_wp2_with fail
  refine (HB2.out _ (hT.below c1) (hE.below c1)).mono ?_
  rintro e w2 ⟨rfl, b2⟩
  have c2 := c1.trans (b2.mono c1.size)
  go_wp2_with fail
  refine (HA.out _ (hT.below c2) (hE.below c2)).mono ?_
  rintro e w3 ⟨rfl, b3⟩
  go_wp2_with fail
  go_ret
  exact ⟨rfl, c2.trans (b3.mono c2.size)⟩
end Go.Proofs.YtfjpignmjebloaaDoor
