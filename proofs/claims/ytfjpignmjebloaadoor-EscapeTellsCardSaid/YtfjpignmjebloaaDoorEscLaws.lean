/-
  THE LAWS OF PACKAGE escape (stage 2): EscapeTells, EscapeBack, EscapeJoins, EscapeRefuses: each answers true, whatever it is handed.
-/
import Derived.Test.YtfjpignmjebloaaDoorBack
import Derived.Test.YtfjpignmjebloaaDoorTextW
namespace Go.Proofs.YtfjpignmjebloaaDoor
open Go.RowKit Tx

/-- A law answers true, and turns no memory that was there. -/
def Holds (w : World) (e : Ending) (w' : World) : Prop := e = .returned (.bool true) ∧ Below w.heap.size w w'
/-- What a text comes back as: its two values. -/
theorem backV_form (l : List UInt8) : ∃ (X : ByteArray) (n : Int), backV l = .tuple #[.string X, .int .i64 n] ∧ ((n = 0 ∧ valid l = true ∧ back l = some X.data.toList) ∨ n ≠ 0) := by
  cases hv : valid l with
  | false => exact ⟨_, _, backV_utf hv, .inr (by decide)⟩
  | true =>
    cases hb : back l with
    | none => exact ⟨_, _, backV_none hv hb, .inr (by decide)⟩
    | some x => exact ⟨_, _, backV_some hv hb, .inl ⟨rfl, rfl, rfl⟩⟩
theorem same_self (b : ByteArray) : (b.toList == b.toList) = true := beq_self_eq_true _

set_option maxHeartbeats 1000000 in
theorem awake_any (w : World) (hT : Tabs w) (hE : ErrS w) : Calls Tryd.prog 8 #[] w (Holds w) := by
  have hv : valid [97, 38, 108, 116, 59, 98] = true := by decide +kernel
  have hb : back [97, 38, 108, 116, 59, 98] = some [97, 60, 98] := by decide +kernel
  have h1 := fun (W : World) h1 h2 => back_any ⟨#[97, 38, 108, 116, 59, 98]⟩ W h1 h2 (by decide)
  have h2 := fun (W : World) => text_any ⟨#[97, 60, 98]⟩ W (by decide)
  rw [show (⟨#[97, 38, 108, 116, 59, 98]⟩ : ByteArray).data.toList = [97, 38, 108, 116, 59, 98] from rfl, backV_some hv hb] at h1
  rw [show (⟨#[97, 60, 98]⟩ : ByteArray).data.toList = [97, 60, 98] from rfl, show esc [97, 60, 98] = [97, 38, 108, 116, 59, 98] by decide +kernel] at h2
  have H1 := Lib.hid h1
  have H2 := Lib.hid h2
  clear h1 h2 hv hb
  go_enter Tryd.func8, Tryd.ntmps8
  go_wp2_with fail
  refine (H1.out _ hT hE).mono ?_
  rintro e w1 ⟨rfl, b1⟩
  go_wp2_with fail
  refine (H2.out _).mono ?_
  rintro e w2 ⟨rfl, b2⟩
  go_wp2_with fail
  go_ret
  exact ⟨rfl, b1.trans (b2.mono b1.size)⟩

set_option maxHeartbeats 2000000 in
theorem escapeTells_any (s : ByteArray) (w : World) (hT : Tabs w) (hE : ErrS w) (hs : s.size ≤ maxLen) : Calls Tryd.prog 3 #[.string s] w (Holds w) := by
  unfold maxLen at hs
  have HA := Lib.hid (fun W h1 h2 => awake_any W h1 h2)
  by_cases hlen : s.size ≤ 1000
  · have B := fun (W : World) h1 h2 => back_any s W h1 h2 (by omega)
    have R := fun (W : World) => rback_any s W (by omega)
    have T := fun (W : World) => text_any s W (by omega)
    have RT := fun (W : World) => rescape_any s W (by omega)
    obtain ⟨X, n, hX, _⟩ := backV_form s.data.toList
    rw [hX] at B R
    obtain ⟨Y, hY⟩ : ∃ Y : ByteArray, ⟨(esc s.data.toList).toArray⟩ = Y := ⟨_, rfl⟩
    rw [hY] at T RT
    have HB := Lib.hid B
    have HR := Lib.hid R
    have HTX := Lib.hid T
    have HRT := Lib.hid RT
    clear B R T RT hX hY
    go_enter Tryd.func3, Tryd.ntmps3
    go_wp2_with fail
    refine (HB.out _ hT hE).mono ?_
    rintro e w1 ⟨rfl, b1⟩
    have t1 := hT.below b1
    have e1 := hE.below b1
    go_wp2_with fail
    refine (HR.out _).mono ?_
    rintro e w2 ⟨rfl, b2⟩
    have c2 := b1.trans (b2.mono b1.size)
    go_wp2_with fail
    refine (HA.out _ (hT.below c2) (hE.below c2)).mono ?_
    rintro e w3 ⟨rfl, b3⟩
    have c3 := c2.trans (b3.mono c2.size)
    go_wp2_with fail
    refine (HTX.out _).mono ?_
    rintro e w4 ⟨rfl, b4⟩
    have c4 := c3.trans (b4.mono c3.size)
    go_wp2_with fail
    refine (HRT.out _).mono ?_
    rintro e w5 ⟨rfl, rfl⟩
    go_wp2_with fail
    go_ret
    exact ⟨rfl, c4⟩
  · go_enter Tryd.func3, Tryd.ntmps3
    go_wp2_with fail
    refine (HA.out _ hT hE).mono ?_
    rintro e w1 ⟨rfl, b1⟩
    go_wp2_with fail
    go_ret
    exact ⟨rfl, b1⟩

theorem back_len : ∀ (k : Nat) (l x : List UInt8), l.length ≤ k → back l = some x → x.length ≤ 4 * l.length
  | k, [], x, _, h => by
    obtain rfl : [] = x := Option.some.inj h
    simp
  | 0, _ :: _, _, h, _ => by simp at h
  | k + 1, c :: t, x, hk, h => by
    by_cases h1 : c = 60
    · subst h1; rw [back_lt] at h; cases h
    by_cases h2 : c = 38
    · subst h2
      cases e : cutS t with
      | none => rw [back_amp_none e] at h; cases h
      | some p =>
        obtain ⟨n, r⟩ := p
        cases e2 : ent n with
        | none => rw [back_amp_bad e e2] at h; cases h
        | some v =>
          have hl := cutS_len e
          rw [back_amp_some e e2] at h
          cases e3 : back r with
          | none => rw [e3] at h; cases h
          | some y =>
            rw [e3] at h
            obtain rfl : enc v ++ y = x := Option.some.inj h
            have := back_len k r y (by simp at hk; omega) e3
            have := (enc_len (n := v)).2
            simp
            omega
    · rw [back_plain _ h1 h2] at h
      cases e3 : back t with
      | none => rw [e3] at h; cases h
      | some y =>
        rw [e3] at h
        obtain rfl : c :: y = x := Option.some.inj h
        have := back_len k t y (by simpa using hk) e3
        simp
        omega
theorem esc_size (s : ByteArray) : (⟨(esc s.data.toList).toArray⟩ : ByteArray).size ≤ 6 * s.size := by
  have := esc_len s.data.toList
  rw [← Lib.size_eq] at this
  exact this
set_option maxHeartbeats 2000000 in
theorem escapeJoins_any (a b : ByteArray) (w : World) (hT : Tabs w) (hE : ErrS w) (hsa : a.size ≤ maxLen) (hsb : b.size ≤ maxLen) : Calls Tryd.prog 7 #[.string a, .string b] w (Holds w) := by
  unfold maxLen at hsa hsb
  have HA := Lib.hid (fun W h1 h2 => awake_any W h1 h2)
  by_cases hla : a.size ≤ 300
  · by_cases hlb : b.size ≤ 300
    · have Ba := fun (W : World) h1 h2 => back_any a W h1 h2 (by omega)
      have Bb := fun (W : World) h1 h2 => back_any b W h1 h2 (by omega)
      have Bc := fun (W : World) h1 h2 => back_any (a ++ b) W h1 h2 (by rw [ByteArray.size_append]; omega)
      have Ta := fun (W : World) => text_any a W (by omega)
      have Tb := fun (W : World) => text_any b W (by omega)
      have Tc := fun (W : World) => text_any (a ++ b) W (by rw [ByteArray.size_append]; omega)
      have sa := esc_size a
      have sb := esc_size b
      have hcat : (⟨(esc (a ++ b).data.toList).toArray⟩ : ByteArray) = ⟨(esc a.data.toList).toArray⟩ ++ ⟨(esc b.data.toList).toArray⟩ := by
        symm
        refine bytes_of ?_
        rw [cat_list, cat_list, esc_append]
      rw [hcat] at Tc
      obtain ⟨A, hA⟩ : ∃ A : ByteArray, ⟨(esc a.data.toList).toArray⟩ = A := ⟨_, rfl⟩
      obtain ⟨B, hB⟩ : ∃ B : ByteArray, ⟨(esc b.data.toList).toArray⟩ = B := ⟨_, rfl⟩
      rw [hA] at Ta Tc sa
      rw [hB] at Tb Tc sb
      obtain ⟨X, n, hX, hXn⟩ := backV_form a.data.toList
      obtain ⟨Y, m, hY, hYm⟩ := backV_form b.data.toList
      obtain ⟨Z, k, hZ, hZk⟩ := backV_form (a ++ b).data.toList
      rw [hX] at Ba
      rw [hY] at Bb
      have key : (n ≠ 0) ∨ (n = 0 ∧ m ≠ 0) ∨ (n = 0 ∧ m = 0 ∧ k = 0 ∧ Z = X ++ Y ∧ X.size + Y.size ≤ 10000000000) := by
        rcases hXn with ⟨rfl, v1, k1⟩ | h
        · rcases hYm with ⟨rfl, v2, k2⟩ | h
          · right; right
            have hv := (valid_append v1 v2).1
            have hk := back_append b.data.toList k1
            rw [k2] at hk
            have hl : (a ++ b).data.toList = a.data.toList ++ b.data.toList := cat_list a b
            have hk' : back (a.data.toList ++ b.data.toList) = some (X.data.toList ++ Y.data.toList) := by rw [hk]; rfl
            rw [hl, backV_some hv hk'] at hZ
            simp only [Value.tuple.injEq, Array.mk.injEq, List.cons.injEq, Value.string.injEq, Value.int.injEq, true_and, and_true] at hZ
            have l1 := back_len _ _ _ (Nat.le_refl _) k1
            have l2 := back_len _ _ _ (Nat.le_refl _) k2
            rw [← Lib.size_eq, ← Lib.size_eq] at l1 l2
            refine ⟨rfl, rfl, hZ.2.symm, ?_, by omega⟩
            rw [← hZ.1]
            exact (bytes_of (cat_list X Y)).symm
          · exact .inr (.inl ⟨rfl, h⟩)
        · exact .inl h
      rw [hZ] at Bc
      have HBa := Lib.hid Ba
      have HBb := Lib.hid Bb
      have HBc := Lib.hid Bc
      have HTa := Lib.hid Ta
      have HTb := Lib.hid Tb
      have HTc := Lib.hid Tc
      clear Ba Bb Bc Ta Tb Tc hX hY hZ hXn hYm hZk hcat hA hB
      rcases key with hn | ⟨rfl, hm⟩ | ⟨rfl, rfl, rfl, rfl, hxy⟩
      · have gn : (n != 0) = true := by simpa using hn
        clear hn
        go_enter Tryd.func7, Tryd.ntmps7
        go_wp2_with fail
        refine (HBa.out _ hT hE).mono ?_
        rintro e w1 ⟨rfl, b1⟩
        go_wp2_with fail
        refine (HBb.out _ (hT.below b1) (hE.below b1)).mono ?_
        rintro e w2 ⟨rfl, b2⟩
        have c2 := b1.trans (b2.mono b1.size)
        go_wp2_with fail
        refine (HBc.out _ (hT.below c2) (hE.below c2)).mono ?_
        rintro e w3 ⟨rfl, b3⟩
        have c3 := c2.trans (b3.mono c2.size)
        go_wp2_with fail
        refine (HA.out _ (hT.below c3) (hE.below c3)).mono ?_
        rintro e w4 ⟨rfl, b4⟩
        have c4 := c3.trans (b4.mono c3.size)
        go_wp2_with fail
        refine (HTc.out _).mono ?_
        rintro e w5 ⟨rfl, b5⟩
        have c5 := c4.trans (b5.mono c4.size)
        go_wp2_with fail
        refine (HTa.out _).mono ?_
        rintro e w6 ⟨rfl, b6⟩
        have c6 := c5.trans (b6.mono c5.size)
        go_wp2_with fail
        refine (HTb.out _).mono ?_
        rintro e w7 ⟨rfl, b7⟩
        have c7 := c6.trans (b7.mono c6.size)
        go_wp2_with fail
        go_ret
        exact ⟨ret_bool (by simp [*]), c7⟩
      · have gm : (m != 0) = true := by simpa using hm
        clear hm
        go_enter Tryd.func7, Tryd.ntmps7
        go_wp2_with fail
        refine (HBa.out _ hT hE).mono ?_
        rintro e w1 ⟨rfl, b1⟩
        go_wp2_with fail
        refine (HBb.out _ (hT.below b1) (hE.below b1)).mono ?_
        rintro e w2 ⟨rfl, b2⟩
        have c2 := b1.trans (b2.mono b1.size)
        go_wp2_with fail
        refine (HBc.out _ (hT.below c2) (hE.below c2)).mono ?_
        rintro e w3 ⟨rfl, b3⟩
        have c3 := c2.trans (b3.mono c2.size)
        go_wp2_with fail
        refine (HA.out _ (hT.below c3) (hE.below c3)).mono ?_
        rintro e w4 ⟨rfl, b4⟩
        have c4 := c3.trans (b4.mono c3.size)
        go_wp2_with fail
        refine (HTc.out _).mono ?_
        rintro e w5 ⟨rfl, b5⟩
        have c5 := c4.trans (b5.mono c4.size)
        go_wp2_with fail
        refine (HTa.out _).mono ?_
        rintro e w6 ⟨rfl, b6⟩
        have c6 := c5.trans (b6.mono c5.size)
        go_wp2_with fail
        refine (HTb.out _).mono ?_
        rintro e w7 ⟨rfl, b7⟩
        have c7 := c6.trans (b7.mono c6.size)
        go_wp2_with fail
        go_ret
        exact ⟨ret_bool (by simp [*]), c7⟩
      · go_enter Tryd.func7, Tryd.ntmps7
        go_wp2_with fail
        refine (HBa.out _ hT hE).mono ?_
        rintro e w1 ⟨rfl, b1⟩
        go_wp2_with fail
        refine (HBb.out _ (hT.below b1) (hE.below b1)).mono ?_
        rintro e w2 ⟨rfl, b2⟩
        have c2 := b1.trans (b2.mono b1.size)
        go_wp2_with fail
        refine (HBc.out _ (hT.below c2) (hE.below c2)).mono ?_
        rintro e w3 ⟨rfl, b3⟩
        have c3 := c2.trans (b3.mono c2.size)
        go_wp2_with fail
        refine (HA.out _ (hT.below c3) (hE.below c3)).mono ?_
        rintro e w4 ⟨rfl, b4⟩
        have c4 := c3.trans (b4.mono c3.size)
        go_wp2_with fail
        refine (HTc.out _).mono ?_
        rintro e w5 ⟨rfl, b5⟩
        have c5 := c4.trans (b5.mono c4.size)
        go_wp2_with fail
        refine (HTa.out _).mono ?_
        rintro e w6 ⟨rfl, b6⟩
        have c6 := c5.trans (b6.mono c5.size)
        go_wp2_with fail
        refine (HTb.out _).mono ?_
        rintro e w7 ⟨rfl, b7⟩
        have c7 := c6.trans (b7.mono c6.size)
        go_wp2_with fail
        go_ret
        exact ⟨ret_bool (by simp [*]), c7⟩
    · go_enter Tryd.func7, Tryd.ntmps7
      go_wp2_with fail
      refine (HA.out _ hT hE).mono ?_
      rintro e w1 ⟨rfl, b1⟩
      go_wp2_with fail
      go_ret
      exact ⟨rfl, b1⟩
  · go_enter Tryd.func7, Tryd.ntmps7
    go_wp2_with fail
    refine (HA.out _ hT hE).mono ?_
    rintro e w1 ⟨rfl, b1⟩
    go_wp2_with fail
    go_ret
    exact ⟨rfl, b1⟩
end Go.Proofs.YtfjpignmjebloaaDoor
