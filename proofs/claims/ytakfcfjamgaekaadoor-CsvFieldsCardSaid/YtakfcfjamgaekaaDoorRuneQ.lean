/-
  strings.IndexRune(",\\"" and a row's end, r) AT A RUNE THAT IS NO ASCII ONE: none.
-/
import Derived.Test.YtakfcfjamgaekaaDoorEsc
import Derived.Test.YtakfcfjamgaekaaDoorBld
import Derived.Lib.OthersKept
import Derived.Scope
import Derived.Deep.RegionWith
namespace Go.Proofs.YtakfcfjamgaekaaDoor
open Go.RowKit Tx

/-- a written character's size, and its bytes behind the first one -/
theorem enc_lasts {c : Nat} (h : sane c) (h1 : 128 ≤ c) : ∃ (E : ByteArray) (n : Nat), Utf8.encode (c : Int) = E ∧ E.size = n ∧ (n = 2 ∨ n = 3 ∨ n = 4) ∧ ∀ k (h : k < E.size), 128 ≤ (E[k]'h).toNat := by
  have hm := enc_model c
  obtain ⟨E, hE⟩ : ∃ E, Utf8.encode (c : Int) = E := ⟨_, rfl⟩
  refine ⟨E, ?_⟩
  rw [hE] at hm
  have hsz := Lib.size_eq E
  have hget : ∀ k (h : k < E.size), E[k]'h ∈ E.data.toList := fun k h => List.mem_of_getElem? (Lib.data_getElem? E k h)
  have h0 := h
  unfold sane at h
  have hall : ∀ b ∈ enc c, 128 ≤ b.toNat := by
    intro b hb
    rcases enc_cases (n := c) h0 with ⟨a, e⟩ | ⟨a, b', e⟩ | ⟨a, b', e⟩ | ⟨a, b', e⟩
    · omega
    · rw [e] at hb
      simp only [List.mem_cons, List.not_mem_nil, or_false] at hb
      rcases hb with rfl | rfl <;> (rw [toNat_of _ (by omega)]; omega)
    · rw [e] at hb
      simp only [List.mem_cons, List.not_mem_nil, or_false] at hb
      rcases hb with rfl | rfl | rfl <;> (rw [toNat_of _ (by omega)]; omega)
    · rw [e] at hb
      simp only [List.mem_cons, List.not_mem_nil, or_false] at hb
      rcases hb with rfl | rfl | rfl | rfl <;> (rw [toNat_of _ (by omega)]; omega)
  refine ⟨(enc c).length, hE, by rw [hsz, hm], ?_, fun k hk => hall _ (by rw [← hm]; exact hget k hk)⟩
  rcases enc_cases (n := c) h0 with ⟨a, e⟩ | ⟨a, b', e⟩ | ⟨a, b', e⟩ | ⟨a, b', e⟩
  · omega
  · rw [e]; exact .inl rfl
  · rw [e]; exact .inr (.inl rfl)
  · rw [e]; exact .inr (.inr rfl)
theorem byte_none {l : List UInt8} {y : Int} (h : 128 ≤ y) (hy : y < 256) (hl : ∀ b ∈ l, b.toNat < 128) : Lib.indexByte l y.toNat.toUInt8 = -1 := by
  induction l with
  | nil => rfl
  | cons b t ih =>
    have hb := hl b (by simp)
    have hne : b ≠ y.toNat.toUInt8 := by
      intro e
      rw [e] at hb
      have : y.toNat.toUInt8.toNat = y.toNat := by simp; omega
      omega
    unfold Lib.indexByte
    rw [ih (fun c hc => hl c (by simp [hc]))]
    simp [hne]

set_option maxHeartbeats 2000000 in
set_option maxRecDepth 100000 in
theorem irune_bad (w : World) : Calls Tryd.prog 45 #[.string ⟨#[44, 34, 13, 10]⟩, .int .i32 65533] w fun e w' => e = .returned (.int .i64 (-1)) ∧ Below w.heap.size w w' := by
  go_enter Tryd.func45, Tryd.ntmps45
  go_wp2_with fail
  go_loopg [5, 6] 4 (fun g _ _ wx => ∃ i : Nat, i + g = 4 ∧ wx = w.iter ⟨#[44, 34, 13, 10]⟩ i)
  case atStart => exact ⟨0, by omega, rfl⟩
  case round =>
    obtain ⟨i, hig, rfl⟩ := hrel
    cases gk with
    | zero =>
      obtain rfl : i = 4 := by omega
      have hnx := run_next_end (P := Tryd.prog) w ⟨#[44, 34, 13, 10]⟩ 4
      go_wp2_with fail
      go_ret
      exact ⟨rfl, (Below.refl _ _).alloc (Nat.le_refl _) _⟩
    | succ g =>
      rcases (show (i = 0 ∧ g = 3) ∨ (i = 1 ∧ g = 2) ∨ (i = 2 ∧ g = 1) ∨ (i = 3 ∧ g = 0) by omega) with ⟨rfl, rfl⟩ | ⟨rfl, rfl⟩ | ⟨rfl, rfl⟩ | ⟨rfl, rfl⟩
      · have hnx := fun ty => run_next_ascii (P := Tryd.prog) w ⟨#[44, 34, 13, 10]⟩ 0 ty (by decide) (by decide)
        go_wp2_with fail
        go_roundg 3
        case measure => omega
        case rel => exact ⟨1, by omega, rfl⟩
      · have hnx := fun ty => run_next_ascii (P := Tryd.prog) w ⟨#[44, 34, 13, 10]⟩ 1 ty (by decide) (by decide)
        go_wp2_with fail
        go_roundg 2
        case measure => omega
        case rel => exact ⟨2, by omega, rfl⟩
      · have hnx := fun ty => run_next_ascii (P := Tryd.prog) w ⟨#[44, 34, 13, 10]⟩ 2 ty (by decide) (by decide)
        go_wp2_with fail
        go_roundg 1
        case measure => omega
        case rel => exact ⟨3, by omega, rfl⟩
      · have hnx := fun ty => run_next_ascii (P := Tryd.prog) w ⟨#[44, 34, 13, 10]⟩ 3 ty (by decide) (by decide)
        go_wp2_with fail
        go_roundg 0
        case measure => omega
        case rel => exact ⟨4, by omega, rfl⟩
set_option maxHeartbeats 2000000 in
set_option maxRecDepth 100000 in
theorem irune_high (c : Nat) (w : World) (h1 : 128 ≤ c) (hs : sane c) : Calls Tryd.prog 45 #[.string ⟨#[44, 34, 13, 10]⟩, .int .i32 c] w fun e w' => e = .returned (.int .i64 (-1)) ∧ Below w.heap.size w w' := by
  by_cases hbad : c = 65533
  · subst hbad; exact irune_bad w
  obtain ⟨E, n, hE, hn, hn2, hlast⟩ := enc_lasts hs h1
  obtain ⟨z, hz⟩ : ∃ z : Int, (c : Int) = z := ⟨_, rfl⟩
  have hvr : Lib.validRune z = true := by
    unfold Lib.validRune
    unfold sane at hs
    exact decide_eq_true (by omega)
  have z0 : 128 ≤ z := by omega
  have f1 : (z == 65533) = false := by simp; omega
  rw [hz] at hE ⊢
  have HV := Lib.hid (fun (W : World) => Tryd.utf8_ValidRune z W)
  rw [hvr] at HV
  have HL := Lib.hid hlast
  clear hs hz h1 hbad hvr hlast
  rcases hn2 with rfl | rfl | rfl
  · obtain ⟨y, hy⟩ : ∃ y : Int, ((E[1]'(by omega)).toNat : Int) = y := ⟨_, rfl⟩
    have y0 : 128 ≤ y := by have := HL.out 1 (by omega); omega
    have y1 : y < 256 := by have := UInt8.toNat_lt (E[1]'(by omega)); omega
    have HI : Hid (∀ W : World, Calls Tryd.prog 54 #[.string ⟨#[13, 10]⟩, .int .u8 y] W fun e w' => e = .returned (.int .i64 (-1)) ∧ w' = W) := fun W => by
      have h := Tryd.strings_IndexByte ⟨#[13, 10]⟩ y W
      rw [byte_none y0 y1 (by decide)] at h
      exact h
    go_enter Tryd.func45, Tryd.ntmps45
    go_wp2_with (go_at_call 55; refine (HV.out _).mono ?_; rintro e w1 ⟨rfl, rfl⟩)
    refine wp_scope_straight ?_
    go_wp2_with fail
    go_loopw [9, 10] (fun i f wr => i = .int .i64 1 ∧ f = .int .i64 0 ∧ Below w1.heap.size w1 wr) (fun _ _ _ => 0)
    case atStart => exact ⟨rfl, rfl, Below.refl _ _⟩
    case round =>
      obtain ⟨rfl, rfl, hb⟩ := hrel
      have fne : ((34 : Int) != y) = true := by simp; omega
      go_wp2_with fail
      refine wp_scope_straight ?_
      have fidx : (((⟨#[44, 34, 13, 10]⟩ : ByteArray)[1]'(by decide)).toNat : Int) = 34 := rfl
      go_wp2_with fail
      go_region
      all_goals
        go_wp2_with fail
        go_region_with ((go_at_call 54; refine (HI.out _).mono ?_; rintro e w2 ⟨rfl, rfl⟩))
        all_goals
          go_wp2_with fail
          simp (config := { zetaDelta := true }) only [Exit.noGoto, Exit.inBlock, Exit.then]
          go_ret
          exact ⟨rfl, hb.drew.drew⟩
  · obtain ⟨y, hy⟩ : ∃ y : Int, ((E[2]'(by omega)).toNat : Int) = y := ⟨_, rfl⟩
    have y0 : 128 ≤ y := by have := HL.out 2 (by omega); omega
    have y1 : y < 256 := by have := UInt8.toNat_lt (E[2]'(by omega)); omega
    have HI : Hid (∀ W : World, Calls Tryd.prog 54 #[.string ⟨#[10]⟩, .int .u8 y] W fun e w' => e = .returned (.int .i64 (-1)) ∧ w' = W) := fun W => by
      have h := Tryd.strings_IndexByte ⟨#[10]⟩ y W
      rw [byte_none y0 y1 (by decide)] at h
      exact h
    go_enter Tryd.func45, Tryd.ntmps45
    go_wp2_with (go_at_call 55; refine (HV.out _).mono ?_; rintro e w1 ⟨rfl, rfl⟩)
    refine wp_scope_straight ?_
    go_wp2_with fail
    go_loopw [9, 10] (fun i f wr => i = .int .i64 2 ∧ f = .int .i64 0 ∧ Below w1.heap.size w1 wr) (fun _ _ _ => 0)
    case atStart => exact ⟨rfl, rfl, Below.refl _ _⟩
    case round =>
      obtain ⟨rfl, rfl, hb⟩ := hrel
      have fne : ((13 : Int) != y) = true := by simp; omega
      go_wp2_with fail
      refine wp_scope_straight ?_
      have fidx : (((⟨#[44, 34, 13, 10]⟩ : ByteArray)[2]'(by decide)).toNat : Int) = 13 := rfl
      go_wp2_with fail
      go_region
      all_goals
        go_wp2_with fail
        go_region_with ((go_at_call 54; refine (HI.out _).mono ?_; rintro e w2 ⟨rfl, rfl⟩))
        all_goals
          go_wp2_with fail
          simp (config := { zetaDelta := true }) only [Exit.noGoto, Exit.inBlock, Exit.then]
          go_ret
          exact ⟨rfl, hb.drew.drew⟩
  · obtain ⟨y, hy⟩ : ∃ y : Int, ((E[3]'(by omega)).toNat : Int) = y := ⟨_, rfl⟩
    have y0 : 128 ≤ y := by have := HL.out 3 (by omega); omega
    have y1 : y < 256 := by have := UInt8.toNat_lt (E[3]'(by omega)); omega
    have HI : Hid (∀ W : World, Calls Tryd.prog 54 #[.string ⟨#[]⟩, .int .u8 y] W fun e w' => e = .returned (.int .i64 (-1)) ∧ w' = W) := fun W => by
      have h := Tryd.strings_IndexByte ⟨#[]⟩ y W
      rw [byte_none y0 y1 (by decide)] at h
      exact h
    go_enter Tryd.func45, Tryd.ntmps45
    go_wp2_with (go_at_call 55; refine (HV.out _).mono ?_; rintro e w1 ⟨rfl, rfl⟩)
    refine wp_scope_straight ?_
    go_wp2_with fail
    go_loopw [9, 10] (fun i f wr => i = .int .i64 3 ∧ f = .int .i64 0 ∧ Below w1.heap.size w1 wr) (fun _ _ _ => 0)
    case atStart => exact ⟨rfl, rfl, Below.refl _ _⟩
    case round =>
      obtain ⟨rfl, rfl, hb⟩ := hrel
      have fne : ((10 : Int) != y) = true := by simp; omega
      go_wp2_with fail
      refine wp_scope_straight ?_
      have fidx : (((⟨#[44, 34, 13, 10]⟩ : ByteArray)[3]'(by decide)).toNat : Int) = 10 := rfl
      go_wp2_with fail
      go_region
      all_goals
        go_wp2_with fail
        go_region_with ((go_at_call 54; refine (HI.out _).mono ?_; rintro e w2 ⟨rfl, rfl⟩))
        all_goals
          go_wp2_with fail
          simp (config := { zetaDelta := true }) only [Exit.noGoto, Exit.inBlock, Exit.then]
          go_ret
          exact ⟨rfl, hb.drew.drew⟩
end Go.Proofs.YtakfcfjamgaekaaDoor
