/-
  The law VcardWrong.
-/
import Derived.Test.YtphopnfnjnieaaaDoorVAw
import Derived.Test.YtphopnfnjnieaaaDoorUint
namespace Go.Proofs.YtphopnfnjnieaaaDoor
open Go.RowKit Vc

theorem bts_catV (a b : List UInt8) : (bts a ++ bts b : ByteArray) = bts (a ++ b) := by
  apply ByteArray.ext
  apply Array.ext'
  simp
theorem wrong_made (w : World) (k : Nat) (b : List UInt8) (h : wrongL[k]? = some b) : (w.alloc (.cells #[.string ⟨#[70, 78, 58, 110, 13, 10]⟩, .string ⟨#[66, 69, 71, 73, 78, 58, 86, 67, 65, 82, 68, 13, 10, 70, 78, 58, 110, 13, 10]⟩, .string ⟨#[66, 69, 71, 73, 78, 58, 86, 67, 65, 82, 68, 13, 10, 86, 69, 82, 83, 73, 79, 78, 58, 51, 46, 48, 13, 10]⟩, .string ⟨#[66, 69, 71, 73, 78, 58, 86, 67, 65, 82, 68, 13, 10, 86, 69, 82, 83, 73, 79, 78, 58, 52, 46, 48, 13, 10, 70, 78, 13, 10]⟩, .string ⟨#[66, 69, 71, 73, 78, 58, 86, 67, 65, 82, 68, 13, 10, 86, 69, 82, 83, 73, 79, 78, 58, 52, 46, 48, 13, 10, 66, 69, 71, 73, 78, 58, 86, 67, 65, 82, 68, 13, 10]⟩, .string ⟨#[66, 69, 71, 73, 78, 58, 86, 67, 65, 82, 68, 13, 10, 86, 69, 82, 83, 73, 79, 78, 58, 52, 46, 48, 13, 10, 70, 78, 58, 110, 13, 10, 86, 69, 82, 83, 73, 79, 78, 58, 52, 46, 48, 13, 10]⟩, .string ⟨#[66, 69, 71, 73, 78, 58, 86, 67, 65, 82, 68, 13, 10, 86, 69, 82, 83, 73, 79, 78, 58, 52, 46, 48, 13, 10, 70, 78, 58, 110, 13, 10]⟩, .string ⟨#[66, 69, 71, 73, 78, 58, 86, 67, 65, 82, 68, 13, 10, 86, 69, 82, 83, 73, 79, 78, 58, 52, 46, 48, 13, 10, 65, 59, 66, 58, 99, 13, 10]⟩, .string ⟨#[66, 69, 71, 73, 78, 58, 86, 67, 65, 82, 68, 13, 10, 86, 69, 82, 83, 73, 79, 78, 58, 52, 46, 48, 13, 10, 58, 99, 13, 10]⟩, .string ⟨#[66, 69, 71, 73, 78, 58, 86, 67, 65, 82, 68, 13, 10, 86, 69, 82, 83, 73, 79, 78, 58, 52, 46, 48, 13, 10, 65, 59, 66, 61, 34, 99, 58, 100, 13, 10]⟩, .string ⟨#[13, 10]⟩, .string ⟨#[69, 78, 68, 58, 86, 67, 65, 82, 68, 13, 10]⟩] 9)).cell? ⟨w.heap.size, k, none⟩ = some (.string (bts b)) := by
  rw [(Bk.new w _ _).cell]
  match k, h with
  | 0, hb => cases hb; rfl
  | 1, hb => cases hb; rfl
  | 2, hb => cases hb; rfl
  | 3, hb => cases hb; rfl
  | 4, hb => cases hb; rfl
  | 5, hb => cases hb; rfl
  | 6, hb => cases hb; rfl
  | 7, hb => cases hb; rfl
  | 8, hb => cases hb; rfl
  | 9, hb => cases hb; rfl
  | 10, hb => cases hb; rfl
  | 11, hb => cases hb; rfl
  | k + 12, hb => simp [wrongL] at hb
theorem where_made (w : World) (k x : Nat) (h : whereL[k]? = some x) : (w.alloc (.cells #[.int .i64 1, .int .i64 2, .int .i64 2, .int .i64 3, .int .i64 3, .int .i64 4, .int .i64 3, .int .i64 3, .int .i64 3, .int .i64 3, .int .i64 1, .int .i64 1] 3)).cell? ⟨w.heap.size, k, none⟩ = some (.int .i64 x) := by
  rw [(Bk.new w _ _).cell]
  match k, h with
  | 0, hb => cases hb; rfl
  | 1, hb => cases hb; rfl
  | 2, hb => cases hb; rfl
  | 3, hb => cases hb; rfl
  | 4, hb => cases hb; rfl
  | 5, hb => cases hb; rfl
  | 6, hb => cases hb; rfl
  | 7, hb => cases hb; rfl
  | 8, hb => cases hb; rfl
  | 9, hb => cases hb; rfl
  | 10, hb => cases hb; rfl
  | 11, hb => cases hb; rfl
  | k + 12, hb => simp [whereL] at hb
theorem want_made (w : World) (k x : Nat) (h : wantL[k]? = some x) : (w.alloc (.cells #[.int .i64 20, .int .i64 20, .int .i64 20, .int .i64 17, .int .i64 20, .int .i64 20, .int .i64 20, .int .i64 17, .int .i64 17, .int .i64 17, .int .i64 20, .int .i64 20] 25)).cell? ⟨w.heap.size, k, none⟩ = some (.int .i64 x) := by
  rw [(Bk.new w _ _).cell]
  match k, h with
  | 0, hb => cases hb; rfl
  | 1, hb => cases hb; rfl
  | 2, hb => cases hb; rfl
  | 3, hb => cases hb; rfl
  | 4, hb => cases hb; rfl
  | 5, hb => cases hb; rfl
  | 6, hb => cases hb; rfl
  | 7, hb => cases hb; rfl
  | 8, hb => cases hb; rfl
  | 9, hb => cases hb; rfl
  | 10, hb => cases hb; rfl
  | 11, hb => cases hb; rfl
  | k + 12, hb => simp [wantL] at hb
theorem where_few : ∀ x ∈ whereL, x ≤ 4 := by decide
theorem ahead_len : ∀ a : Nat, (aheadL a).length = 63 * a
  | 0 => rfl
  | a + 1 => by
    show (aheadL a ++ cardL).length = _
    rw [List.length_append, ahead_len a, show cardL.length = 63 by decide]
    omega
theorem wrong_few : ∀ b ∈ wrongL, b.length ≤ 100 := by decide

set_option maxHeartbeats 4000000 in
set_option maxRecDepth 100000 in
theorem vcardWrong_any (what ahead : Int) (w : World) (hO : Okw w) : Calls Tryd.prog 3 #[.int .i64 what, .int .i64 ahead] w (Holds w) := by
  have HA := Lib.hid (fun (W : World) h => awake_any W h)
  have HOK := Lib.hid (fun (W : World) (h : Below w.heap.size w W) => hO.below h)
  obtain ⟨p, hp, hp2⟩ := uintMod what 12 (by omega) (by omega)
  obtain ⟨a, ha, ha2⟩ := uintMod ahead 5 (by omega) (by omega)
  obtain ⟨L, hL⟩ : ∃ L, wrongL[p]? = some L := ⟨_, List.getElem?_eq_getElem (by show p < 12; omega)⟩
  obtain ⟨x, hx⟩ : ∃ x, whereL[p]? = some x := ⟨_, List.getElem?_eq_getElem (by show p < 12; omega)⟩
  obtain ⟨y, hy⟩ : ∃ y, wantL[p]? = some y := ⟨_, List.getElem?_eq_getElem (by show p < 12; omega)⟩
  have hx4 := where_few x (List.mem_of_getElem? hx)
  have hl := wrong_few L (List.mem_of_getElem? hL)
  have hr := wrong_read a (by omega) p (by omega)
  rw [List.getD_eq_getElem?_getD, List.getD_eq_getElem?_getD, List.getD_eq_getElem?_getD, hL, hx, hy] at hr
  have hr' : readV (aheadL a ++ L) = ([], 5 * a + x, y) := hr
  have HCL := Lib.hid (fun (W : World) => wrong_made W p L hL)
  have HCX := Lib.hid (fun (W : World) => where_made W p x hx)
  have HCY := Lib.hid (fun (W : World) => want_made W p y hy)
  obtain ⟨B, hB⟩ : ∃ B, bts L = B := ⟨_, rfl⟩
  rw [hB] at HCL
  have hbs : B.size ≤ 100 := by
    rw [← hB, Lib.size_eq]
    exact hl
  have HR : Hid (∀ (s : ByteArray) (W : World), s = bts (aheadL a) → Below w.heap.size w W → Calls Tryd.prog 5 #[.string (s ++ B)] W fun e w' => (∃ A cap, e = .returned (.tuple #[.slice A 0 cap, .int .i64 (5 * a + x), .int .i64 y])) ∧ Below W.heap.size W w') := by
    intro s W hs hb
    have hO' := HOK.out W hb
    rw [hs, ← hB, bts_catV]
    refine (read_any (bts (aheadL a ++ L)) W hO'.1 hO'.2.1 hO'.2.2 ?_).mono ?_
    · rw [Lib.size_eq]
      show (aheadL a ++ L).length < _
      rw [List.length_append, ahead_len]
      omega
    · unfold ReadsV
      rw [show (bts (aheadL a ++ L)).data.toList = aheadL a ++ L from rfl, hr']
      rintro e w' ⟨⟨v, rfl, A, cap, rfl, -⟩, hb'⟩
      refine ⟨⟨A, cap, ?_⟩, hb'⟩
      simp
  have hstep : Hid (∀ (s : ByteArray) (k : Nat), s = bts (aheadL k) → s ++ ⟨cardL.toArray⟩ = bts (aheadL (k + 1))) := fun s k hs => by
    rw [hs]
    exact bts_catV _ _
  have a5 : (a : Int) < 5 := ha2
  have p12 : (p : Int) < 12 := hp2
  clear hL hx hy hr hr' hl hO hB hp2 ha2
  go_enter Tryd.func3, Tryd.ntmps3
  go_wp2_with fail
  go_loopw [5, 6] (fun sv iv wr => ∃ (k : Nat) (s : ByteArray), sv = .string s ∧ iv = .int .i64 k ∧ k ≤ a ∧ Hid (s = bts (aheadL k)) ∧ wr = w) (fun _ iv _ => a - (intOf iv).toNat)
  case atStart => exact ⟨0, _, rfl, rfl, Nat.zero_le _, rfl, rfl⟩
  case round =>
    obtain ⟨k, s, rfl, rfl, hk, HS, rfl⟩ := hrel
    have hsz : s.size ≤ 400 := by
      rw [HS.out, Lib.size_eq]
      show (aheadL k).length ≤ _
      rw [ahead_len]
      omega
    by_cases hlt : k < a
    · have hi : (k : Int) < (a : Int) := by omega
      have hnx := Lib.hid (hstep.out s k HS.out)
      go_wp2_with fail
      go_roundw
      case rel => exact ⟨k + 1, _, rfl, by go_num, by omega, hnx, trivial⟩
      case measure => simp [intOf]; omega
    · have hi : ¬ ((k : Int) < (a : Int)) := by omega
      obtain rfl : k = a := by omega
      go_upto_region 11 with fail
      rw [hp]
      obtain ⟨W3, hW3⟩ : ∃ W3, ((wr.alloc (.cells #[.string ⟨#[70, 78, 58, 110, 13, 10]⟩, .string ⟨#[66, 69, 71, 73, 78, 58, 86, 67, 65, 82, 68, 13, 10, 70, 78, 58, 110, 13, 10]⟩, .string ⟨#[66, 69, 71, 73, 78, 58, 86, 67, 65, 82, 68, 13, 10, 86, 69, 82, 83, 73, 79, 78, 58, 51, 46, 48, 13, 10]⟩, .string ⟨#[66, 69, 71, 73, 78, 58, 86, 67, 65, 82, 68, 13, 10, 86, 69, 82, 83, 73, 79, 78, 58, 52, 46, 48, 13, 10, 70, 78, 13, 10]⟩, .string ⟨#[66, 69, 71, 73, 78, 58, 86, 67, 65, 82, 68, 13, 10, 86, 69, 82, 83, 73, 79, 78, 58, 52, 46, 48, 13, 10, 66, 69, 71, 73, 78, 58, 86, 67, 65, 82, 68, 13, 10]⟩, .string ⟨#[66, 69, 71, 73, 78, 58, 86, 67, 65, 82, 68, 13, 10, 86, 69, 82, 83, 73, 79, 78, 58, 52, 46, 48, 13, 10, 70, 78, 58, 110, 13, 10, 86, 69, 82, 83, 73, 79, 78, 58, 52, 46, 48, 13, 10]⟩, .string ⟨#[66, 69, 71, 73, 78, 58, 86, 67, 65, 82, 68, 13, 10, 86, 69, 82, 83, 73, 79, 78, 58, 52, 46, 48, 13, 10, 70, 78, 58, 110, 13, 10]⟩, .string ⟨#[66, 69, 71, 73, 78, 58, 86, 67, 65, 82, 68, 13, 10, 86, 69, 82, 83, 73, 79, 78, 58, 52, 46, 48, 13, 10, 65, 59, 66, 58, 99, 13, 10]⟩, .string ⟨#[66, 69, 71, 73, 78, 58, 86, 67, 65, 82, 68, 13, 10, 86, 69, 82, 83, 73, 79, 78, 58, 52, 46, 48, 13, 10, 58, 99, 13, 10]⟩, .string ⟨#[66, 69, 71, 73, 78, 58, 86, 67, 65, 82, 68, 13, 10, 86, 69, 82, 83, 73, 79, 78, 58, 52, 46, 48, 13, 10, 65, 59, 66, 61, 34, 99, 58, 100, 13, 10]⟩, .string ⟨#[13, 10]⟩, .string ⟨#[69, 78, 68, 58, 86, 67, 65, 82, 68, 13, 10]⟩] 9)).alloc (.cells #[.int .i64 1, .int .i64 2, .int .i64 2, .int .i64 3, .int .i64 3, .int .i64 4, .int .i64 3, .int .i64 3, .int .i64 3, .int .i64 3, .int .i64 1, .int .i64 1] 3)).alloc (.cells #[.int .i64 20, .int .i64 20, .int .i64 20, .int .i64 17, .int .i64 20, .int .i64 20, .int .i64 20, .int .i64 17, .int .i64 17, .int .i64 17, .int .i64 20, .int .i64 20] 25) = W3 := ⟨_, rfl⟩
      obtain ⟨g0, hg0⟩ : ∃ g, wr.heap.size = g := ⟨_, rfl⟩
      obtain ⟨g1, hg1⟩ : ∃ g, g0 + 1 = g := ⟨_, rfl⟩
      obtain ⟨g2, hg2⟩ : ∃ g, g1 + 1 = g := ⟨_, rfl⟩
      have B1 : Below wr.heap.size wr (wr.alloc (.cells #[.string ⟨#[70, 78, 58, 110, 13, 10]⟩, .string ⟨#[66, 69, 71, 73, 78, 58, 86, 67, 65, 82, 68, 13, 10, 70, 78, 58, 110, 13, 10]⟩, .string ⟨#[66, 69, 71, 73, 78, 58, 86, 67, 65, 82, 68, 13, 10, 86, 69, 82, 83, 73, 79, 78, 58, 51, 46, 48, 13, 10]⟩, .string ⟨#[66, 69, 71, 73, 78, 58, 86, 67, 65, 82, 68, 13, 10, 86, 69, 82, 83, 73, 79, 78, 58, 52, 46, 48, 13, 10, 70, 78, 13, 10]⟩, .string ⟨#[66, 69, 71, 73, 78, 58, 86, 67, 65, 82, 68, 13, 10, 86, 69, 82, 83, 73, 79, 78, 58, 52, 46, 48, 13, 10, 66, 69, 71, 73, 78, 58, 86, 67, 65, 82, 68, 13, 10]⟩, .string ⟨#[66, 69, 71, 73, 78, 58, 86, 67, 65, 82, 68, 13, 10, 86, 69, 82, 83, 73, 79, 78, 58, 52, 46, 48, 13, 10, 70, 78, 58, 110, 13, 10, 86, 69, 82, 83, 73, 79, 78, 58, 52, 46, 48, 13, 10]⟩, .string ⟨#[66, 69, 71, 73, 78, 58, 86, 67, 65, 82, 68, 13, 10, 86, 69, 82, 83, 73, 79, 78, 58, 52, 46, 48, 13, 10, 70, 78, 58, 110, 13, 10]⟩, .string ⟨#[66, 69, 71, 73, 78, 58, 86, 67, 65, 82, 68, 13, 10, 86, 69, 82, 83, 73, 79, 78, 58, 52, 46, 48, 13, 10, 65, 59, 66, 58, 99, 13, 10]⟩, .string ⟨#[66, 69, 71, 73, 78, 58, 86, 67, 65, 82, 68, 13, 10, 86, 69, 82, 83, 73, 79, 78, 58, 52, 46, 48, 13, 10, 58, 99, 13, 10]⟩, .string ⟨#[66, 69, 71, 73, 78, 58, 86, 67, 65, 82, 68, 13, 10, 86, 69, 82, 83, 73, 79, 78, 58, 52, 46, 48, 13, 10, 65, 59, 66, 61, 34, 99, 58, 100, 13, 10]⟩, .string ⟨#[13, 10]⟩, .string ⟨#[69, 78, 68, 58, 86, 67, 65, 82, 68, 13, 10]⟩] 9)) := (Below.refl _ _).alloc (Nat.le_refl _) _
      have B2 : Below (g0 + 1) (wr.alloc (.cells #[.string ⟨#[70, 78, 58, 110, 13, 10]⟩, .string ⟨#[66, 69, 71, 73, 78, 58, 86, 67, 65, 82, 68, 13, 10, 70, 78, 58, 110, 13, 10]⟩, .string ⟨#[66, 69, 71, 73, 78, 58, 86, 67, 65, 82, 68, 13, 10, 86, 69, 82, 83, 73, 79, 78, 58, 51, 46, 48, 13, 10]⟩, .string ⟨#[66, 69, 71, 73, 78, 58, 86, 67, 65, 82, 68, 13, 10, 86, 69, 82, 83, 73, 79, 78, 58, 52, 46, 48, 13, 10, 70, 78, 13, 10]⟩, .string ⟨#[66, 69, 71, 73, 78, 58, 86, 67, 65, 82, 68, 13, 10, 86, 69, 82, 83, 73, 79, 78, 58, 52, 46, 48, 13, 10, 66, 69, 71, 73, 78, 58, 86, 67, 65, 82, 68, 13, 10]⟩, .string ⟨#[66, 69, 71, 73, 78, 58, 86, 67, 65, 82, 68, 13, 10, 86, 69, 82, 83, 73, 79, 78, 58, 52, 46, 48, 13, 10, 70, 78, 58, 110, 13, 10, 86, 69, 82, 83, 73, 79, 78, 58, 52, 46, 48, 13, 10]⟩, .string ⟨#[66, 69, 71, 73, 78, 58, 86, 67, 65, 82, 68, 13, 10, 86, 69, 82, 83, 73, 79, 78, 58, 52, 46, 48, 13, 10, 70, 78, 58, 110, 13, 10]⟩, .string ⟨#[66, 69, 71, 73, 78, 58, 86, 67, 65, 82, 68, 13, 10, 86, 69, 82, 83, 73, 79, 78, 58, 52, 46, 48, 13, 10, 65, 59, 66, 58, 99, 13, 10]⟩, .string ⟨#[66, 69, 71, 73, 78, 58, 86, 67, 65, 82, 68, 13, 10, 86, 69, 82, 83, 73, 79, 78, 58, 52, 46, 48, 13, 10, 58, 99, 13, 10]⟩, .string ⟨#[66, 69, 71, 73, 78, 58, 86, 67, 65, 82, 68, 13, 10, 86, 69, 82, 83, 73, 79, 78, 58, 52, 46, 48, 13, 10, 65, 59, 66, 61, 34, 99, 58, 100, 13, 10]⟩, .string ⟨#[13, 10]⟩, .string ⟨#[69, 78, 68, 58, 86, 67, 65, 82, 68, 13, 10]⟩] 9)) ((wr.alloc (.cells #[.string ⟨#[70, 78, 58, 110, 13, 10]⟩, .string ⟨#[66, 69, 71, 73, 78, 58, 86, 67, 65, 82, 68, 13, 10, 70, 78, 58, 110, 13, 10]⟩, .string ⟨#[66, 69, 71, 73, 78, 58, 86, 67, 65, 82, 68, 13, 10, 86, 69, 82, 83, 73, 79, 78, 58, 51, 46, 48, 13, 10]⟩, .string ⟨#[66, 69, 71, 73, 78, 58, 86, 67, 65, 82, 68, 13, 10, 86, 69, 82, 83, 73, 79, 78, 58, 52, 46, 48, 13, 10, 70, 78, 13, 10]⟩, .string ⟨#[66, 69, 71, 73, 78, 58, 86, 67, 65, 82, 68, 13, 10, 86, 69, 82, 83, 73, 79, 78, 58, 52, 46, 48, 13, 10, 66, 69, 71, 73, 78, 58, 86, 67, 65, 82, 68, 13, 10]⟩, .string ⟨#[66, 69, 71, 73, 78, 58, 86, 67, 65, 82, 68, 13, 10, 86, 69, 82, 83, 73, 79, 78, 58, 52, 46, 48, 13, 10, 70, 78, 58, 110, 13, 10, 86, 69, 82, 83, 73, 79, 78, 58, 52, 46, 48, 13, 10]⟩, .string ⟨#[66, 69, 71, 73, 78, 58, 86, 67, 65, 82, 68, 13, 10, 86, 69, 82, 83, 73, 79, 78, 58, 52, 46, 48, 13, 10, 70, 78, 58, 110, 13, 10]⟩, .string ⟨#[66, 69, 71, 73, 78, 58, 86, 67, 65, 82, 68, 13, 10, 86, 69, 82, 83, 73, 79, 78, 58, 52, 46, 48, 13, 10, 65, 59, 66, 58, 99, 13, 10]⟩, .string ⟨#[66, 69, 71, 73, 78, 58, 86, 67, 65, 82, 68, 13, 10, 86, 69, 82, 83, 73, 79, 78, 58, 52, 46, 48, 13, 10, 58, 99, 13, 10]⟩, .string ⟨#[66, 69, 71, 73, 78, 58, 86, 67, 65, 82, 68, 13, 10, 86, 69, 82, 83, 73, 79, 78, 58, 52, 46, 48, 13, 10, 65, 59, 66, 61, 34, 99, 58, 100, 13, 10]⟩, .string ⟨#[13, 10]⟩, .string ⟨#[69, 78, 68, 58, 86, 67, 65, 82, 68, 13, 10]⟩] 9)).alloc (.cells #[.int .i64 1, .int .i64 2, .int .i64 2, .int .i64 3, .int .i64 3, .int .i64 4, .int .i64 3, .int .i64 3, .int .i64 3, .int .i64 3, .int .i64 1, .int .i64 1] 3)) := (Below.refl _ _).alloc (Nat.le_of_eq (by rw [World.size_alloc, hg0])) _
      have B3 : Below (g1 + 1) ((wr.alloc (.cells #[.string ⟨#[70, 78, 58, 110, 13, 10]⟩, .string ⟨#[66, 69, 71, 73, 78, 58, 86, 67, 65, 82, 68, 13, 10, 70, 78, 58, 110, 13, 10]⟩, .string ⟨#[66, 69, 71, 73, 78, 58, 86, 67, 65, 82, 68, 13, 10, 86, 69, 82, 83, 73, 79, 78, 58, 51, 46, 48, 13, 10]⟩, .string ⟨#[66, 69, 71, 73, 78, 58, 86, 67, 65, 82, 68, 13, 10, 86, 69, 82, 83, 73, 79, 78, 58, 52, 46, 48, 13, 10, 70, 78, 13, 10]⟩, .string ⟨#[66, 69, 71, 73, 78, 58, 86, 67, 65, 82, 68, 13, 10, 86, 69, 82, 83, 73, 79, 78, 58, 52, 46, 48, 13, 10, 66, 69, 71, 73, 78, 58, 86, 67, 65, 82, 68, 13, 10]⟩, .string ⟨#[66, 69, 71, 73, 78, 58, 86, 67, 65, 82, 68, 13, 10, 86, 69, 82, 83, 73, 79, 78, 58, 52, 46, 48, 13, 10, 70, 78, 58, 110, 13, 10, 86, 69, 82, 83, 73, 79, 78, 58, 52, 46, 48, 13, 10]⟩, .string ⟨#[66, 69, 71, 73, 78, 58, 86, 67, 65, 82, 68, 13, 10, 86, 69, 82, 83, 73, 79, 78, 58, 52, 46, 48, 13, 10, 70, 78, 58, 110, 13, 10]⟩, .string ⟨#[66, 69, 71, 73, 78, 58, 86, 67, 65, 82, 68, 13, 10, 86, 69, 82, 83, 73, 79, 78, 58, 52, 46, 48, 13, 10, 65, 59, 66, 58, 99, 13, 10]⟩, .string ⟨#[66, 69, 71, 73, 78, 58, 86, 67, 65, 82, 68, 13, 10, 86, 69, 82, 83, 73, 79, 78, 58, 52, 46, 48, 13, 10, 58, 99, 13, 10]⟩, .string ⟨#[66, 69, 71, 73, 78, 58, 86, 67, 65, 82, 68, 13, 10, 86, 69, 82, 83, 73, 79, 78, 58, 52, 46, 48, 13, 10, 65, 59, 66, 61, 34, 99, 58, 100, 13, 10]⟩, .string ⟨#[13, 10]⟩, .string ⟨#[69, 78, 68, 58, 86, 67, 65, 82, 68, 13, 10]⟩] 9)).alloc (.cells #[.int .i64 1, .int .i64 2, .int .i64 2, .int .i64 3, .int .i64 3, .int .i64 4, .int .i64 3, .int .i64 3, .int .i64 3, .int .i64 3, .int .i64 1, .int .i64 1] 3)) W3 := by
        rw [← hW3]
        exact (Below.refl _ _).alloc (Nat.le_of_eq (by rw [World.size_alloc, World.size_alloc, hg0, hg1])) _
      have t1 := HCL.out wr
      have t2 := HCX.out (wr.alloc (.cells #[.string ⟨#[70, 78, 58, 110, 13, 10]⟩, .string ⟨#[66, 69, 71, 73, 78, 58, 86, 67, 65, 82, 68, 13, 10, 70, 78, 58, 110, 13, 10]⟩, .string ⟨#[66, 69, 71, 73, 78, 58, 86, 67, 65, 82, 68, 13, 10, 86, 69, 82, 83, 73, 79, 78, 58, 51, 46, 48, 13, 10]⟩, .string ⟨#[66, 69, 71, 73, 78, 58, 86, 67, 65, 82, 68, 13, 10, 86, 69, 82, 83, 73, 79, 78, 58, 52, 46, 48, 13, 10, 70, 78, 13, 10]⟩, .string ⟨#[66, 69, 71, 73, 78, 58, 86, 67, 65, 82, 68, 13, 10, 86, 69, 82, 83, 73, 79, 78, 58, 52, 46, 48, 13, 10, 66, 69, 71, 73, 78, 58, 86, 67, 65, 82, 68, 13, 10]⟩, .string ⟨#[66, 69, 71, 73, 78, 58, 86, 67, 65, 82, 68, 13, 10, 86, 69, 82, 83, 73, 79, 78, 58, 52, 46, 48, 13, 10, 70, 78, 58, 110, 13, 10, 86, 69, 82, 83, 73, 79, 78, 58, 52, 46, 48, 13, 10]⟩, .string ⟨#[66, 69, 71, 73, 78, 58, 86, 67, 65, 82, 68, 13, 10, 86, 69, 82, 83, 73, 79, 78, 58, 52, 46, 48, 13, 10, 70, 78, 58, 110, 13, 10]⟩, .string ⟨#[66, 69, 71, 73, 78, 58, 86, 67, 65, 82, 68, 13, 10, 86, 69, 82, 83, 73, 79, 78, 58, 52, 46, 48, 13, 10, 65, 59, 66, 58, 99, 13, 10]⟩, .string ⟨#[66, 69, 71, 73, 78, 58, 86, 67, 65, 82, 68, 13, 10, 86, 69, 82, 83, 73, 79, 78, 58, 52, 46, 48, 13, 10, 58, 99, 13, 10]⟩, .string ⟨#[66, 69, 71, 73, 78, 58, 86, 67, 65, 82, 68, 13, 10, 86, 69, 82, 83, 73, 79, 78, 58, 52, 46, 48, 13, 10, 65, 59, 66, 61, 34, 99, 58, 100, 13, 10]⟩, .string ⟨#[13, 10]⟩, .string ⟨#[69, 78, 68, 58, 86, 67, 65, 82, 68, 13, 10]⟩] 9))
      have t3 := HCY.out ((wr.alloc (.cells #[.string ⟨#[70, 78, 58, 110, 13, 10]⟩, .string ⟨#[66, 69, 71, 73, 78, 58, 86, 67, 65, 82, 68, 13, 10, 70, 78, 58, 110, 13, 10]⟩, .string ⟨#[66, 69, 71, 73, 78, 58, 86, 67, 65, 82, 68, 13, 10, 86, 69, 82, 83, 73, 79, 78, 58, 51, 46, 48, 13, 10]⟩, .string ⟨#[66, 69, 71, 73, 78, 58, 86, 67, 65, 82, 68, 13, 10, 86, 69, 82, 83, 73, 79, 78, 58, 52, 46, 48, 13, 10, 70, 78, 13, 10]⟩, .string ⟨#[66, 69, 71, 73, 78, 58, 86, 67, 65, 82, 68, 13, 10, 86, 69, 82, 83, 73, 79, 78, 58, 52, 46, 48, 13, 10, 66, 69, 71, 73, 78, 58, 86, 67, 65, 82, 68, 13, 10]⟩, .string ⟨#[66, 69, 71, 73, 78, 58, 86, 67, 65, 82, 68, 13, 10, 86, 69, 82, 83, 73, 79, 78, 58, 52, 46, 48, 13, 10, 70, 78, 58, 110, 13, 10, 86, 69, 82, 83, 73, 79, 78, 58, 52, 46, 48, 13, 10]⟩, .string ⟨#[66, 69, 71, 73, 78, 58, 86, 67, 65, 82, 68, 13, 10, 86, 69, 82, 83, 73, 79, 78, 58, 52, 46, 48, 13, 10, 70, 78, 58, 110, 13, 10]⟩, .string ⟨#[66, 69, 71, 73, 78, 58, 86, 67, 65, 82, 68, 13, 10, 86, 69, 82, 83, 73, 79, 78, 58, 52, 46, 48, 13, 10, 65, 59, 66, 58, 99, 13, 10]⟩, .string ⟨#[66, 69, 71, 73, 78, 58, 86, 67, 65, 82, 68, 13, 10, 86, 69, 82, 83, 73, 79, 78, 58, 52, 46, 48, 13, 10, 58, 99, 13, 10]⟩, .string ⟨#[66, 69, 71, 73, 78, 58, 86, 67, 65, 82, 68, 13, 10, 86, 69, 82, 83, 73, 79, 78, 58, 52, 46, 48, 13, 10, 65, 59, 66, 61, 34, 99, 58, 100, 13, 10]⟩, .string ⟨#[13, 10]⟩, .string ⟨#[69, 78, 68, 58, 86, 67, 65, 82, 68, 13, 10]⟩] 9)).alloc (.cells #[.int .i64 1, .int .i64 2, .int .i64 2, .int .i64 3, .int .i64 3, .int .i64 4, .int .i64 3, .int .i64 3, .int .i64 3, .int .i64 3, .int .i64 1, .int .i64 1] 3))
      rw [hW3, World.size_alloc, World.size_alloc, hg0, hg1, hg2] at t3
      rw [World.size_alloc, hg0, hg1] at t2
      rw [hg0] at t1
      have c1 : W3.cell? ⟨g0, p, none⟩ = some (.string B) := by
        rw [B3.cell (p := ⟨g0, p, none⟩) (by show g0 < _; omega), B2.cell (p := ⟨g0, p, none⟩) (by show g0 < _; omega)]
        exact t1
      have c2 : W3.cell? ⟨g1, p, none⟩ = some (.int .i64 x) := by
        rw [B3.cell (p := ⟨g1, p, none⟩) (by show g1 < _; omega)]
        exact t2
      have C2 := Lib.hid c2
      have C3 := Lib.hid t3
      have b3 : Below wr.heap.size wr W3 := by
        rw [hg0]
        rw [hg0] at B1
        exact B1.trans ((B2.mono (by omega)).trans (B3.mono (by omega)))
      have BB3 := Lib.hid b3
      have Z3 : Hid (g2 + 1 = W3.heap.size) := by
        unfold Hid
        rw [← hW3, World.size_alloc, World.size_alloc, World.size_alloc]
        omega
      have HR3 := Lib.hid (HR.out s W3 HS.out b3)
      rw [hW3, hg0, hg1, hg2]
      clear B1 B2 B3 t1 t2 t3 hW3 hg0 b3 c2 HCL HCX HCY
      go_wp2_with fail
      refine HR3.out.mono ?_
      rintro e w4 ⟨⟨A, cap, rfl⟩, b4⟩
      have B4 : Hid (Below wr.heap.size wr w4) := BB3.out.trans (b4.mono BB3.out.size)
      have d2 : w4.cell? ⟨g1, p, none⟩ = some (.int .i64 x) := (b4.cell (p := ⟨g1, p, none⟩) (by have := Z3.out; show g1 < _; omega)).trans C2.out
      have d3 : w4.cell? ⟨g2, p, none⟩ = some (.int .i64 y) := (b4.cell (p := ⟨g2, p, none⟩) (by have := Z3.out; show g2 < _; omega)).trans C3.out
      have D2 := Lib.hid d2
      have D3 := Lib.hid d3
      have Z4 : Hid (g2 + 1 ≤ w4.heap.size) := by rw [Z3.out]; exact b4.size
      have G12 : Hid (g1 + 1 = g2) := hg2
      clear c1 b4 d2 d3 hg1 hg2
      go_wp2_with fail
      refine (HA.out w4 (HOK.out w4 B4.out)).mono ?_
      rintro e w5 ⟨rfl, b5⟩
      have d2 : w5.cell? ⟨g1, p, none⟩ = some (.int .i64 x) := (b5.cell (p := ⟨g1, p, none⟩) (by have := Z4.out; have := G12.out; show g1 < _; omega)).trans D2.out
      have d3 : w5.cell? ⟨g2, p, none⟩ = some (.int .i64 y) := (b5.cell (p := ⟨g2, p, none⟩) (by have := Z4.out; show g2 < _; omega)).trans D3.out
      go_wp2_with fail
      go_ret
      exact ⟨rfl, B4.out.trans (b5.mono B4.out.size)⟩
end Go.Proofs.YtphopnfnjnieaaaDoor
