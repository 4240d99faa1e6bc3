/-
  strings.IndexRune("&<", r) AT A RUNE THAT IS NO ASCII ONE: none.
-/
import Derived.Test.YtlpjealcmnnbnaaGreatDoorEsc
import Derived.Test.YtlpjealcmnnbnaaGreatDoorBld
import Derived.Lib.OthersKept
import Derived.Scope
import Derived.Deep.RegionWith
namespace Go.Proofs.YtlpjealcmnnbnaaGreatDoor
open Go.RowKit Tx

/-- a written character's size, and its last byte -/
theorem enc_last {c : Nat} (h : sane c) (h1 : 128 ≤ c) : ∃ (E : ByteArray) (n : Nat), Utf8.encode (c : Int) = E ∧ E.size = n ∧ (n = 2 ∨ n = 3 ∨ n = 4) ∧ ∀ h : 1 < E.size, 128 ≤ (E[1]'h).toNat := by
  have hm := enc_model c
  obtain ⟨E, hE⟩ : ∃ E, Utf8.encode (c : Int) = E := ⟨_, rfl⟩
  refine ⟨E, ?_⟩
  rw [hE] at hm
  have hsz := Lib.size_eq E
  have hget : ∀ h : 1 < E.size, (E.data.toList[1]?) = some (E[1]'h) := fun h => Lib.data_getElem? E 1 h
  have h0 := h
  unfold sane at h
  rcases enc_cases (n := c) h0 with ⟨a, e⟩ | ⟨a, b, e⟩ | ⟨a, b, e⟩ | ⟨a, b, e⟩
  · omega
  · rw [hm, e] at hsz hget
    refine ⟨2, hE, hsz, .inl rfl, fun h => ?_⟩
    have := hget h
    simp only [List.getElem?_cons_succ, List.getElem?_cons_zero, Option.some.injEq] at this
    rw [← this, toNat_of _ (by omega)]
    omega
  · rw [hm, e] at hsz hget
    refine ⟨3, hE, hsz, .inr (.inl rfl), fun h => ?_⟩
    have := hget h
    simp only [List.getElem?_cons_succ, List.getElem?_cons_zero, Option.some.injEq] at this
    rw [← this, toNat_of _ (by omega)]
    omega
  · rw [hm, e] at hsz hget
    refine ⟨4, hE, hsz, .inr (.inr rfl), fun h => ?_⟩
    have := hget h
    simp only [List.getElem?_cons_succ, List.getElem?_cons_zero, Option.some.injEq] at this
    rw [← this, toNat_of _ (by omega)]
    omega
def amps : ByteArray := ⟨#[38, 60]⟩
set_option maxHeartbeats 2000000 in
set_option maxRecDepth 100000 in
theorem irune_bad (w : World) : Calls Tryz.prog 69 #[.string ⟨#[38, 60]⟩, .int .i32 65533] w fun e w' => e = .returned (.int .i64 (-1)) ∧ Below w.heap.size w w' := by
  go_enter Tryz.func69, Tryz.ntmps69
  go_wp2_with fail
  go_loopg [5, 6] 2 (fun g _ _ wx => ∃ i : Nat, i + g = 2 ∧ wx = w.iter ⟨#[38, 60]⟩ i)
  case atStart => exact ⟨0, by omega, rfl⟩
  case round =>
    obtain ⟨i, hig, rfl⟩ := hrel
    cases gk with
    | zero =>
      obtain rfl : i = 2 := by omega
      have hnx := run_next_end (P := Tryz.prog) w ⟨#[38, 60]⟩ 2
      go_wp2_with fail
      go_ret
      exact ⟨rfl, (Below.refl _ _).alloc (Nat.le_refl _) _⟩
    | succ g =>
      rcases (show (i = 0 ∧ g = 1) ∨ (i = 1 ∧ g = 0) by omega) with ⟨rfl, rfl⟩ | ⟨rfl, rfl⟩
      · have hnx := fun ty => run_next_ascii (P := Tryz.prog) w ⟨#[38, 60]⟩ 0 ty (by decide) (by decide)
        go_wp2_with fail
        go_roundg 1
        case measure => omega
        case rel => exact ⟨1, by omega, rfl⟩
      · have hnx := fun ty => run_next_ascii (P := Tryz.prog) w ⟨#[38, 60]⟩ 1 ty (by decide) (by decide)
        go_wp2_with fail
        go_roundg 0
        case measure => omega
        case rel => exact ⟨2, by omega, rfl⟩
set_option maxHeartbeats 2000000 in
set_option maxRecDepth 100000 in
theorem irune_high (c : Nat) (w : World) (h1 : 128 ≤ c) (hs : sane c) : Calls Tryz.prog 69 #[.string ⟨#[38, 60]⟩, .int .i32 c] w fun e w' => e = .returned (.int .i64 (-1)) ∧ Below w.heap.size w w' := by
  by_cases hbad : c = 65533
  · subst hbad; exact irune_bad w
  obtain ⟨E, n, hE, hn, hn2, hlast⟩ := enc_last hs h1
  obtain ⟨z, hz⟩ : ∃ z : Int, (c : Int) = z := ⟨_, rfl⟩
  have hvr : Lib.validRune z = true := by
    unfold Lib.validRune
    unfold sane at hs
    exact decide_eq_true (by omega)
  have z0 : 128 ≤ z := by omega
  have f1 : (z == 65533) = false := by simp; omega
  rw [hz] at hE ⊢
  have HV := Lib.hid (fun (W : World) => Tryz.utf8_ValidRune z W)
  rw [hvr] at HV
  have HL := Lib.hid hlast
  clear hs hz h1 hbad hvr hlast
  rcases hn2 with rfl | rfl | rfl
  · obtain ⟨y, hy⟩ : ∃ y : Int, ((E[1]'(by omega)).toNat : Int) = y := ⟨_, rfl⟩
    have HI : Hid (∀ W : World, Calls Tryz.prog 80 #[.string ⟨#[]⟩, .int .u8 y] W fun e w' => e = .returned (.int .i64 (-1)) ∧ w' = W) := fun W => Tryz.strings_IndexByte ⟨#[]⟩ y W
    have y0 : 128 ≤ y := by have := HL.out (by omega); omega
    go_enter Tryz.func69, Tryz.ntmps69
    go_wp2_with (go_at_call 81; refine (HV.out _).mono ?_; rintro e w1 ⟨rfl, rfl⟩)
    refine wp_scope_straight ?_
    go_wp2_with fail
    go_loopw [9, 10] (fun i f wr => i = .int .i64 1 ∧ f = .int .i64 0 ∧ Below w1.heap.size w1 wr) (fun _ _ _ => 0)
    case atStart => exact ⟨rfl, rfl, Below.refl _ _⟩
    case round =>
      obtain ⟨rfl, rfl, hb⟩ := hrel
      have fne : ((60 : Int) != y) = true := by simp; omega
      go_wp2_with fail
      refine wp_scope_straight ?_
      have fidx : (((⟨#[38, 60]⟩ : ByteArray)[1]'(by decide)).toNat : Int) = 60 := rfl
      go_wp2_with fail
      go_region
      all_goals
        go_wp2_with fail
        go_region_with ((go_at_call 80; refine (HI.out _).mono ?_; rintro e w2 ⟨rfl, rfl⟩))
        all_goals
          go_wp2_with fail
          simp (config := { zetaDelta := true }) only [Exit.noGoto, Exit.inBlock, Exit.then]
          go_ret
          exact ⟨rfl, hb.drew.drew⟩
  · go_enter Tryz.func69, Tryz.ntmps69
    go_wp2_with (go_at_call 81; refine (HV.out _).mono ?_; rintro e w1 ⟨rfl, rfl⟩)
    refine wp_scope_straight ?_
    go_wp2_with fail
    go_loop [9, 10] (fun i f => i = .int .i64 2 ∧ f = .int .i64 0) (fun _ _ => 0)
    case atStart => exact ⟨rfl, rfl⟩
    case round =>
      obtain ⟨rfl, rfl⟩ := hrel
      go_wp2_with fail
      go_ret
      exact ⟨rfl, Below.refl _ _⟩
  · go_enter Tryz.func69, Tryz.ntmps69
    go_wp2_with (go_at_call 81; refine (HV.out _).mono ?_; rintro e w1 ⟨rfl, rfl⟩)
    refine wp_scope_straight ?_
    go_wp2_with fail
    go_loop [9, 10] (fun i f => i = .int .i64 3 ∧ f = .int .i64 0) (fun _ _ => 0)
    case atStart => exact ⟨rfl, rfl⟩
    case round =>
      obtain ⟨rfl, rfl⟩ := hrel
      go_wp2_with fail
      go_ret
      exact ⟨rfl, Below.refl _ _⟩
end Go.Proofs.YtlpjealcmnnbnaaGreatDoor
