/-
  THE LAWS OF PACKAGE utf (stage 1): each answers true, whatever it is handed.
-/
import Derived.Test.YtnlphbejlgnhnaaDoorUtf
import Derived.Test.YtnlphbejlgnhnaaDoorRef
import Derived.Laws.AppendOwnNone
namespace Go.Proofs.YtnlphbejlgnhnaaDoor
open Go.RowKit Tx

def wa : ByteArray := ⟨#[97]⟩
/-- A law answers true, and turns no memory that was there. -/
def Holds (w : World) (e : Ending) (w' : World) : Prop := e = .returned (.bool true) ∧ Below w.heap.size w w'
set_option maxHeartbeats 1000000 in
theorem awake_any (w : World) (hT : Tabs w) : Calls Tryd.prog 7 #[] w (Holds w) := by
  have h1 : ∀ W, Tabs W → Calls Tryd.prog 8 #[.string ⟨#[97]⟩] W fun e w' => e = .returned (.bool true) ∧ Below W.heap.size W w' := fun W h => by
    have := valid_any ⟨#[97]⟩ W h (by decide)
    rwa [show (⟨#[97]⟩ : ByteArray).data.toList = [97] from rfl, valid_some ch_a] at this
  have h2 : ∀ W, Tabs W → Calls Tryd.prog 13 #[.string ⟨#[97, 98]⟩] W fun e w' => e = .returned (.int .i64 2) ∧ Below W.heap.size W w' := fun W h => by
    have := count_any ⟨#[97, 98]⟩ W h (by decide)
    rwa [show (⟨#[97, 98]⟩ : ByteArray).data.toList = [97, 98] from rfl, runes_some ch_ab] at this
  have h3 : ∀ W, Tabs W → Calls Tryd.prog 14 #[.string ⟨#[97, 32, 98]⟩, .int .i64 3] W fun e w' => e = .returned (.bool true) ∧ Below W.heap.size W w' := fun W h => by
    have := line_any ⟨#[97, 32, 98]⟩ 3 W h (by decide)
    rwa [show (⟨#[97, 32, 98]⟩ : ByteArray).data.toList = [97, 32, 98] from rfl, line_some ch_a_b, low_a_b] at this
  have h4 : ∀ W, Tabs W → Calls Tryd.prog 11 #[.string ⟨#[97, 98]⟩] W fun e w' => ∃ v, e = .returned v ∧ Owned W.heap.size w' v [97, 98] ∧ Below W.heap.size W w' := fun W h => by
    have := runes_any ⟨#[97, 98]⟩ W h (by decide)
    unfold RunesGives at this
    rwa [show (⟨#[97, 98]⟩ : ByteArray).data.toList = [97, 98] from rfl, runes_some ch_ab] at this
  have H1 := Lib.hid h1
  have H2 := Lib.hid h2
  have H3 := Lib.hid h3
  have H4 := Lib.hid h4
  clear h1 h2 h3 h4
  go_enter Tryd.func7, Tryd.ntmps7
  go_wp2_with fail
  refine (H1.out _ hT).mono ?_
  rintro e w1 ⟨rfl, b1⟩
  have t1 := hT.below b1
  go_wp2_with fail
  refine (H2.out _ t1).mono ?_
  rintro e w2 ⟨rfl, b2⟩
  have t2 := t1.below b2
  have c2 := b1.trans (b2.mono b1.size)
  go_wp2_with fail
  refine (H3.out _ t2).mono ?_
  rintro e w3 ⟨rfl, b3⟩
  have t3 := t2.below b3
  have c3 := c2.trans (b3.mono c2.size)
  go_wp2_with fail
  refine (H4.out _ t3).mono ?_
  rintro e w4 ⟨v, rfl, hown, b4⟩
  have c4 := c3.trans (b4.mono c3.size)
  have hr := (hown.reads.below ((Below.refl _ w4).alloc (Nat.le_refl _) (.cells #[.int .i64 97, .int .i64 98] 3))).more (C := w4.heap.size + 1) (by omega)
  go_wp2_with fail
  refine (plain_any (w4.heap.size + 1) _ _ [97, 98] [97, 98] _ hr (Reads.made _ _ _ _ _ _ (ints_two _ _) rfl) (by decide) (by decide)).mono ?_
  rintro e w5 ⟨rfl, b5⟩
  go_wp2_with fail
  go_ret
  have := c4.size
  exact ⟨rfl, (c4.alloc (by omega) _).trans (b5.mono (by simp; omega))⟩

theorem mod_lt_len (n : Nat) (h : n < 10000000000000) : n ≤ 140737488355328 := by omega
set_option maxHeartbeats 2000000 in
theorem utfTells_any (s : ByteArray) (most : Int) (w : World) (hT : Tabs w) (hs : s.size ≤ maxLen) : Calls Tryd.prog 3 #[.string s, .int .i64 most] w (Holds w) := by
  unfold maxLen at hs
  have HA := Lib.hid (fun W h => awake_any W h)
  by_cases hlen : s.size ≤ 1000
  · obtain ⟨x, hx⟩ : ∃ x, runes s.data.toList = x := ⟨_, rfl⟩
    have hrl := runes_length s.data.toList
    rw [← Lib.size_eq, hx] at hrl
    have HX := Lib.hid hx
    obtain ⟨b, hb⟩ : ∃ b, valid s.data.toList = b := ⟨_, rfl⟩
    obtain ⟨r, hr⟩ : ∃ r, line s.data.toList most = r := ⟨_, rfl⟩
    have V := Lib.hid (fun W h => valid_any s W h (by omega))
    have RV := Lib.hid (fun W => rvalid_any s W (by omega))
    have C := Lib.hid (fun W h => count_any s W h (by omega))
    have L := Lib.hid (fun W h => line_any s most W h (by omega))
    have RL := Lib.hid (fun W => rline_any s most W (by omega))
    have R := Lib.hid (fun W h => runes_any s W h (by omega))
    have RR := Lib.hid (fun W => rrunes_any s W (by omega))
    rw [hb] at V RV
    rw [hr] at L RL
    rw [hx] at C
    clear hx hb hr
    go_enter Tryd.func3, Tryd.ntmps3
    go_wp2_with fail
    refine (HA.out _ hT).mono ?_
    rintro e w1 ⟨rfl, b1⟩
    have t1 := hT.below b1
    go_wp2_with fail
    refine (V.out _ t1).mono ?_
    rintro e w2 ⟨rfl, b2⟩
    have t2 := t1.below b2
    have c2 := b1.trans (b2.mono b1.size)
    go_wp2_with fail
    refine (RV.out _).mono ?_
    rintro e w3 ⟨rfl, rfl⟩
    go_wp2_with fail
    refine (R.out _ t2).mono ?_
    rintro e w4 ⟨v, rfl, o4, b4⟩
    have c4 := c2.trans (b4.mono c2.size)
    rw [HX.out] at o4
    go_wp2_with fail
    refine (RR.out _).mono ?_
    rintro e w5 ⟨u, rfl, o5, b5⟩
    have c5 := c4.trans (b5.mono c4.size)
    rw [HX.out] at o5
    go_wp2_with fail
    refine (plain_any w5.heap.size _ _ x x _ ((o4.reads.below b5).more b5.size) o5.reads (by omega) (by omega)).mono ?_
    rintro e w6 ⟨rfl, b6⟩
    have c6 := c5.trans (b6.mono c5.size)
    have t6 := hT.below c6
    rw [beq_self_eq_true]
    go_wp2_with fail
    refine (C.out _ t6).mono ?_
    rintro e w7 ⟨rfl, b7⟩
    have c7 := c6.trans (b7.mono c6.size)
    go_wp2_with fail
    refine (RR.out _).mono ?_
    rintro e w8 ⟨z, rfl, o8, b8⟩
    have c8 := c7.trans (b8.mono c7.size)
    have t8 := hT.below c8
    rw [HX.out] at o8
    obtain ⟨A8, cap8, hz, _⟩ := o8.reads
    subst hz
    go_wp2_with fail
    refine (L.out _ t8).mono ?_
    rintro e w9 ⟨rfl, b9⟩
    have c9 := c8.trans (b9.mono c8.size)
    go_wp2_with fail
    refine (RL.out _).mono ?_
    rintro e w10 ⟨rfl, b10⟩
    have c10 := c9.trans (b10.mono c9.size)
    go_wp2_with fail
    go_ret
    exact ⟨rfl, c10⟩
  · go_enter Tryd.func3, Tryd.ntmps3
    go_wp2_with fail
    refine (HA.out _ hT).mono ?_
    rintro e w1 ⟨rfl, b1⟩
    go_wp2_with fail
    go_ret
    exact ⟨rfl, b1⟩

theorem size_one (x : UInt8) : (⟨#[x]⟩ : ByteArray).size = 1 := rfl
theorem app_list (a b : ByteArray) : (a ++ b).data.toList = a.data.toList ++ b.data.toList := by simp

set_option maxHeartbeats 4000000 in
theorem partsGood (a b : ByteArray) (c : Int) (w : World) (hT : Tabs w) (hc : 0 ≤ c) (hc1 : c < 256) (ha : a.size ≤ 300) (hb : b.size ≤ 300) (va : valid a.data.toList = true) (vb : valid b.data.toList = true) :
    Calls Tryd.prog 5 #[.string a, .string b, .int .u8 c] w (Holds w) := by
  obtain ⟨i0, hi, hz0, hz1, hz2⟩ := info_parts infoInt
  have HA := Lib.hid (fun W h => awake_any W h)
  have V := Lib.hid (fun (s : ByteArray) (W : World) (hs : s.size ≤ 1000) h => valid_any s W h (by omega))
  have C := Lib.hid (fun (s : ByteArray) (W : World) (hs : s.size ≤ 1000) h => count_any s W h (by omega))
  have R := Lib.hid (fun (s : ByteArray) (W : World) (hs : s.size ≤ 1000) h => runes_any s W h (by omega))
  have hap := valid_append va vb
  have hbad := bad_valid (b := b.data.toList) va (UInt8.ofNat (128 + c % 128).toNat) (by rw [UInt8.toNat_ofNat']; omega)
  have ra := runes_length a.data.toList
  have rb := runes_length b.data.toList
  rw [← Lib.size_eq] at ra rb
  obtain ⟨x, hx⟩ : ∃ x, runes a.data.toList = x := ⟨_, rfl⟩
  obtain ⟨y, hy⟩ : ∃ y, runes b.data.toList = y := ⟨_, rfl⟩
  rw [hx, hy] at hap
  rw [hx] at ra
  rw [hy] at rb
  have VA := Lib.hid va
  have VB := Lib.hid vb
  have VAP := Lib.hid hap
  have VBAD := Lib.hid hbad
  have HX := Lib.hid hx
  have HY := Lib.hid hy
  clear va vb hap hbad hx hy
  have hcv := fun (W : World) => oneByte (P := Tryd.prog) Tryd.underlying32 Tryd.underlying5 Tryd.underlying9 (128 + c % 128) W
  obtain ⟨bad, hbadv⟩ : ∃ bad, UInt8.ofNat (128 + c % 128).toNat = bad := ⟨_, rfl⟩
  rw [hbadv] at hcv VBAD
  clear hbadv
  have hb3 : ∀ W, Tabs W → Calls Tryd.prog 8 #[.string (a ++ ⟨#[bad]⟩ ++ ⟨#[120]⟩ ++ b)] W fun e w' => e = .returned (.bool false) ∧ Below W.heap.size W w' := fun W h => by
    have h2 := V.out (a ++ ⟨#[bad]⟩ ++ ⟨#[120]⟩ ++ b) W (by rw [ByteArray.size_append, ByteArray.size_append, ByteArray.size_append, size_one, size_one]; omega) h
    rw [app_list, app_list, app_list] at h2
    have e2 : valid (a.data.toList ++ (⟨#[bad]⟩ : ByteArray).data.toList ++ (⟨#[120]⟩ : ByteArray).data.toList ++ b.data.toList) = false := VBAD.out
    rwa [e2] at h2
  have VB2 := Lib.hid hb3
  clear hb3
  go_enter Tryd.func5, Tryd.ntmps5
  go_wp2_with fail
  refine (V.out a _ (by omega) hT).mono ?_
  rintro e w1 ⟨rfl, b1⟩
  rw [VA.out]
  have t1 := hT.below b1
  go_wp2_with fail
  refine (V.out b _ (by omega) t1).mono ?_
  rintro e w2 ⟨rfl, b2⟩
  rw [VB.out]
  have c2 := b1.trans (b2.mono b1.size)
  have c3 := c2.alloc c2.size (.cells #[.int .u8 (128 + c % 128)] 5)
  have t3 := hT.below c3
  go_wp2_with fail
  refine (HA.out _ t3).mono ?_
  rintro e w4 ⟨rfl, b4⟩
  have c4 := c3.trans (b4.mono c3.size)
  have t4 := hT.below c4
  go_wp2_with fail
  refine (V.out (a ++ b) _ (by rw [ByteArray.size_append]; omega) t4).mono ?_
  rintro e w5 ⟨rfl, b5⟩
  rw [app_list, VAP.out.1]
  have c5 := c4.trans (b5.mono c4.size)
  have t5 := hT.below c5
  go_wp2_with fail
  refine (R.out (a ++ b) _ (by rw [ByteArray.size_append]; omega) t5).mono ?_
  rintro e w6 ⟨v6, rfl, o6, b6⟩
  rw [app_list, VAP.out.2] at o6
  have c6 := c5.trans (b6.mono c5.size)
  have t6 := hT.below c6
  go_wp2_with fail
  refine (R.out a _ (by omega) t6).mono ?_
  rintro e w7 ⟨v7, rfl, o7, b7⟩
  rw [HX.out] at o7
  have c7 := c6.trans (b7.mono c6.size)
  have t7 := hT.below c7
  go_wp2_with fail
  refine (R.out b _ (by omega) t7).mono ?_
  rintro e w8 ⟨v8, rfl, o8, b8⟩
  rw [HY.out] at o8
  have c8 := c7.trans (b8.mono c7.size)
  have o78 := o7.below b8
  have o68 := o6.reads.below (b7.trans (b8.mono b7.size))
  obtain ⟨A8, cap8, hv8, hc8⟩ := o8.reads
  have hA8 : (A8 = none ∧ cap8 = 0 ∧ y = []) ∨ ∃ ad, A8 = some ad ∧ ∀ j u, (ints y)[j]? = some u → w8.cell? (ad.add j) = some u := o8.source hv8
  subst hv8
  have hs6 := c6.size
  have hs7 := b7.size
  have hs8 := b8.size
  have rest : ∀ (v9 : Value) (w9 : World), Owned w6.heap.size w9 v9 (x ++ y) → Below w6.heap.size w8 w9 → Hid (Below w.heap.size w w9 ∧ Reads w9.heap.size w9 v6 (x ++ y) ∧ Reads w9.heap.size w9 v9 (x ++ y)) := fun v9 w9 ho hb9 =>
    ⟨c8.trans (hb9.mono hs6), ((o68.below hb9).more (Nat.le_trans (Nat.le_trans hs7 hs8) hb9.size)), ho.reads⟩
  have tail : ∀ (v9 : Value) (w9 : World), Owned w6.heap.size w9 v9 (x ++ y) → Below w6.heap.size w8 w9 →
      Hid (Tabs w9 ∧ Below w.heap.size w w9 ∧ Calls Tryd.prog 10 #[v6, v9] w9 (fun e w' => e = .returned (.bool true) ∧ Below w9.heap.size w9 w')) := fun v9 w9 ho hb9 => by
    have h := rest v9 w9 ho hb9
    have hp := plain_any w9.heap.size v6 v9 (x ++ y) (x ++ y) w9 h.out.2.1 h.out.2.2 (by rw [List.length_append]; omega) (by rw [List.length_append]; omega)
    rw [beq_self_eq_true] at hp
    exact ⟨hT.below h.out.1, h.out.1, hp⟩
  clear rest o68 o8 hc8 o6
  rcases hA8 with ⟨rfl, rfl, rfl⟩ | ⟨ad, rfl, hcells⟩
  · have hno := run_append_owned_none (P := Tryd.prog) (w := w8) w6.heap.size 25 25 3 i0 1 Tryd.underlying25 hi v7 x.length (ints x) o78
    have T9 := tail v7 w8 (by rw [List.append_nil]; exact o78) (Below.refl _ _)
    clear tail o78
    go_wp2_with (at_builtin; refine BigFrame.wpList_want rfl (fun K hK => wp_append_run _ _ 25 rfl rfl rfl hno (hK _ _ ?_)))
    obtain ⟨t9, c9, p9⟩ := T9.out
    have P9 := Lib.hid p9
    clear p9 hno
    go_wp2_with fail
    refine P9.out.mono ?_
    rintro e w10 ⟨rfl, b10⟩
    have c10 := c9.trans (b10.mono c9.size)
    have t10 := hT.below c10
    go_wp2_with fail
    refine ((VB2.out _ t10).mono ?_)
    rintro e w11 ⟨rfl, b11⟩
    have c11 := c10.trans (b11.mono c10.size)
    have t11 := hT.below c11
    go_wp2_with fail
    refine (C.out (a ++ b) _ (by rw [ByteArray.size_append]; omega) t11).mono ?_
    rintro e w12 ⟨rfl, b12⟩
    rw [app_list, VAP.out.2, List.length_append]
    have c12 := c11.trans (b12.mono c11.size)
    have t12 := hT.below c12
    go_wp2_with fail
    refine (C.out a _ (by omega) t12).mono ?_
    rintro e w13 ⟨rfl, b13⟩
    rw [HX.out]
    have c13 := c12.trans (b13.mono c12.size)
    have t13 := hT.below c13
    go_wp2_with fail
    refine (C.out b _ (by omega) t13).mono ?_
    rintro e w14 ⟨rfl, b14⟩
    rw [HY.out]
    have c14 := c13.trans (b14.mono c13.size)
    go_wp2_with fail
    go_ret
    exact ⟨ret_bool (by simp), c14⟩
  · go_wp2_with (at_builtin; refine BigFrame.wpList_want rfl (fun K hK => wp_append_own _ _ _ 25 rfl w6.heap.size 3 i0 (.int .i64 0) 1 8 Tryd.underlying25 hi hz0 hz1 hz2 rfl (by decide) v7 x.length (ints x) rfl o78 ad y.length cap8 (ints y) rfl (by rw [ints_length, Nat.mul_one]) hcells (ints_cells y) (by unfold maxLen; omega) (by omega) (by omega) (fun v9 w9 hown9 hgrow _ => hK _ _ ?_)))
    have R9 := appended_of o78 (by omega) hown9 hgrow
    obtain ⟨t9, c9, p9⟩ := (tail v9 w9 R9.1 R9.2).out
    have P9 := Lib.hid p9
    clear tail hown9 hgrow p9
    go_wp2_with fail
    refine P9.out.mono ?_
    rintro e w10 ⟨rfl, b10⟩
    have c10 := c9.trans (b10.mono c9.size)
    have t10 := hT.below c10
    go_wp2_with fail
    refine ((VB2.out _ t10).mono ?_)
    rintro e w11 ⟨rfl, b11⟩
    have c11 := c10.trans (b11.mono c10.size)
    have t11 := hT.below c11
    go_wp2_with fail
    refine (C.out (a ++ b) _ (by rw [ByteArray.size_append]; omega) t11).mono ?_
    rintro e w12 ⟨rfl, b12⟩
    rw [app_list, VAP.out.2, List.length_append]
    have c12 := c11.trans (b12.mono c11.size)
    have t12 := hT.below c12
    go_wp2_with fail
    refine (C.out a _ (by omega) t12).mono ?_
    rintro e w13 ⟨rfl, b13⟩
    rw [HX.out]
    have c13 := c12.trans (b13.mono c12.size)
    have t13 := hT.below c13
    go_wp2_with fail
    refine (C.out b _ (by omega) t13).mono ?_
    rintro e w14 ⟨rfl, b14⟩
    rw [HY.out]
    have c14 := c13.trans (b14.mono c13.size)
    go_wp2_with fail
    go_ret
    exact ⟨ret_bool (by simp), c14⟩

set_option maxHeartbeats 2000000 in
theorem utfParts_any (a b : ByteArray) (c : Int) (w : World) (hT : Tabs w) (hc : 0 ≤ c ∧ c < 256) (hsa : a.size ≤ maxLen) (hsb : b.size ≤ maxLen) :
    Calls Tryd.prog 5 #[.string a, .string b, .int .u8 c] w (Holds w) := by
  unfold maxLen at hsa hsb
  have HA := Lib.hid (fun W h => awake_any W h)
  by_cases hla : a.size ≤ 300
  · by_cases hlb : b.size ≤ 300
    · have V := Lib.hid (fun (s : ByteArray) (W : World) (hs : s.size ≤ 300) h => valid_any s W h (by omega))
      have RV := Lib.hid (fun (s : ByteArray) (W : World) (hs : s.size ≤ 300) => rvalid_any s W (by omega))
      cases va : valid a.data.toList with
      | true =>
        cases vb : valid b.data.toList with
        | true => exact partsGood a b c w hT hc.1 hc.2 hla hlb va vb
        | false =>
          have VA := Lib.hid va
          have VB := Lib.hid vb
          clear va vb hc
          go_enter Tryd.func5, Tryd.ntmps5
          go_wp2_with fail
          refine (V.out a _ hla hT).mono ?_
          rintro e w1 ⟨rfl, b1⟩
          rw [VA.out]
          have t1 := hT.below b1
          go_wp2_with fail
          refine (V.out b _ hlb t1).mono ?_
          rintro e w2 ⟨rfl, b2⟩
          rw [VB.out]
          have c2 := b1.trans (b2.mono b1.size)
          have t2 := hT.below c2
          go_wp2_with fail
          refine (HA.out _ t2).mono ?_
          rintro e w3 ⟨rfl, b3⟩
          have c3 := c2.trans (b3.mono c2.size)
          have t3 := hT.below c3
          go_wp2_with fail
          refine (RV.out a _ hla).mono ?_
          rintro e w4 ⟨rfl, rfl⟩
          rw [VA.out]
          go_wp2_with fail
          refine (HA.out _ t3).mono ?_
          rintro e w5 ⟨rfl, b5⟩
          have c5 := c3.trans (b5.mono c3.size)
          go_wp2_with fail
          refine (RV.out b _ hlb).mono ?_
          rintro e w6 ⟨rfl, rfl⟩
          rw [VB.out]
          go_wp2_with fail
          go_ret
          exact ⟨rfl, c5⟩
      | false =>
        have VA := Lib.hid va
        clear va hc
        go_enter Tryd.func5, Tryd.ntmps5
        go_wp2_with fail
        refine (V.out a _ hla hT).mono ?_
        rintro e w1 ⟨rfl, b1⟩
        rw [VA.out]
        have t1 := hT.below b1
        go_wp2_with fail
        refine (HA.out _ t1).mono ?_
        rintro e w3 ⟨rfl, b3⟩
        have c3 := b1.trans (b3.mono b1.size)
        go_wp2_with fail
        refine (RV.out a _ hla).mono ?_
        rintro e w4 ⟨rfl, rfl⟩
        rw [VA.out]
        go_wp2_with fail
        go_ret
        exact ⟨rfl, c3⟩
    · clear hc
      go_enter Tryd.func5, Tryd.ntmps5
      go_wp2_with fail
      refine (HA.out _ hT).mono ?_
      rintro e w1 ⟨rfl, b1⟩
      go_wp2_with fail
      go_ret
      exact ⟨rfl, b1⟩
  · clear hc
    go_enter Tryd.func5, Tryd.ntmps5
    go_wp2_with fail
    refine (HA.out _ hT).mono ?_
    rintro e w1 ⟨rfl, b1⟩
    go_wp2_with fail
    go_ret
    exact ⟨rfl, b1⟩
end Go.Proofs.YtnlphbejlgnhnaaDoor
