/-
  THE LAWS OF PACKAGE utf (stage 1): each answers true, whatever it is handed.
-/
import Derived.Test.YtnlphbejlgnhnaaDoorUtf
import Derived.Test.YtnlphbejlgnhnaaDoorRef
namespace Go.Proofs.YtnlphbejlgnhnaaDoor
open Go.RowKit Tx

def wa : ByteArray := ⟨#[97]⟩
/-- A law answers true, and turns no memory that was there. -/
def Holds (w : World) (e : Ending) (w' : World) : Prop := e = .returned (.bool true) ∧ Below w.heap.size w w'
set_option maxHeartbeats 1000000 in
theorem awake_any (w : World) (hT : Tabs w) : Calls Tryd.prog 7 #[] w (Holds w) := by
  have h1 : ∀ W, Tabs W → Calls Tryd.prog 8 #[.string ⟨#[97]⟩] W fun e w' => e = .returned (.bool true) ∧ Below W.heap.size W w' := fun W h => by
    have := valid_any ⟨#[97]⟩ W h (by decide)
    rwa [show (⟨#[97]⟩ : ByteArray).data.toList = [97] from rfl, valid_some ch_a] at this
  have h2 : ∀ W, Tabs W → Calls Tryd.prog 13 #[.string ⟨#[97, 98]⟩] W fun e w' => e = .returned (.int .i64 2) ∧ Below W.heap.size W w' := fun W h => by
    have := count_any ⟨#[97, 98]⟩ W h (by decide)
    rwa [show (⟨#[97, 98]⟩ : ByteArray).data.toList = [97, 98] from rfl, runes_some ch_ab] at this
  have h3 : ∀ W, Tabs W → Calls Tryd.prog 14 #[.string ⟨#[97, 32, 98]⟩, .int .i64 3] W fun e w' => e = .returned (.bool true) ∧ Below W.heap.size W w' := fun W h => by
    have := line_any ⟨#[97, 32, 98]⟩ 3 W h (by decide)
    rwa [show (⟨#[97, 32, 98]⟩ : ByteArray).data.toList = [97, 32, 98] from rfl, line_some ch_a_b, low_a_b] at this
  have h4 : ∀ W, Tabs W → Calls Tryd.prog 11 #[.string ⟨#[97, 98]⟩] W fun e w' => ∃ v, e = .returned v ∧ Owned W.heap.size w' v [97, 98] ∧ Below W.heap.size W w' := fun W h => by
    have := runes_any ⟨#[97, 98]⟩ W h (by decide)
    unfold RunesGives at this
    rwa [show (⟨#[97, 98]⟩ : ByteArray).data.toList = [97, 98] from rfl, runes_some ch_ab] at this
  have H1 := Lib.hid h1
  have H2 := Lib.hid h2
  have H3 := Lib.hid h3
  have H4 := Lib.hid h4
  clear h1 h2 h3 h4
  go_enter Tryd.func7, Tryd.ntmps7
  go_wp2_with fail
  refine (H1.out _ hT).mono ?_
  rintro e w1 ⟨rfl, b1⟩
  have t1 := hT.below b1
  go_wp2_with fail
  refine (H2.out _ t1).mono ?_
  rintro e w2 ⟨rfl, b2⟩
  have t2 := t1.below b2
  have c2 := b1.trans (b2.mono b1.size)
  go_wp2_with fail
  refine (H3.out _ t2).mono ?_
  rintro e w3 ⟨rfl, b3⟩
  have t3 := t2.below b3
  have c3 := c2.trans (b3.mono c2.size)
  go_wp2_with fail
  refine (H4.out _ t3).mono ?_
  rintro e w4 ⟨v, rfl, hown, b4⟩
  have c4 := c3.trans (b4.mono c3.size)
  have hr := (hown.reads.below ((Below.refl _ w4).alloc (Nat.le_refl _) (.cells #[.int .i64 97, .int .i64 98] 3))).more (C := w4.heap.size + 1) (by omega)
  go_wp2_with fail
  refine (plain_any (w4.heap.size + 1) _ _ [97, 98] [97, 98] _ hr (Reads.made _ _ _ _ _ _ (ints_two _ _) rfl) (by decide) (by decide)).mono ?_
  rintro e w5 ⟨rfl, b5⟩
  go_wp2_with fail
  go_ret
  have := c4.size
  exact ⟨rfl, (c4.alloc (by omega) _).trans (b5.mono (by simp; omega))⟩

theorem mod_lt_len (n : Nat) (h : n < 10000000000000) : n ≤ 140737488355328 := by omega
set_option maxHeartbeats 2000000 in
theorem utfTells_any (s : ByteArray) (most : Int) (w : World) (hT : Tabs w) (hs : s.size ≤ maxLen) : Calls Tryd.prog 3 #[.string s, .int .i64 most] w (Holds w) := by
  unfold maxLen at hs
  have HA := Lib.hid (fun W h => awake_any W h)
  by_cases hlen : s.size ≤ 1000
  · obtain ⟨x, hx⟩ : ∃ x, runes s.data.toList = x := ⟨_, rfl⟩
    have hrl := runes_length s.data.toList
    rw [← Lib.size_eq, hx] at hrl
    have HX := Lib.hid hx
    obtain ⟨b, hb⟩ : ∃ b, valid s.data.toList = b := ⟨_, rfl⟩
    obtain ⟨r, hr⟩ : ∃ r, line s.data.toList most = r := ⟨_, rfl⟩
    have V := Lib.hid (fun W h => valid_any s W h (by omega))
    have RV := Lib.hid (fun W => rvalid_any s W (by omega))
    have C := Lib.hid (fun W h => count_any s W h (by omega))
    have L := Lib.hid (fun W h => line_any s most W h (by omega))
    have RL := Lib.hid (fun W => rline_any s most W (by omega))
    have R := Lib.hid (fun W h => runes_any s W h (by omega))
    have RR := Lib.hid (fun W => rrunes_any s W (by omega))
    rw [hb] at V RV
    rw [hr] at L RL
    rw [hx] at C
    clear hx hb hr
    go_enter Tryd.func3, Tryd.ntmps3
    go_wp2_with fail
    refine (HA.out _ hT).mono ?_
    rintro e w1 ⟨rfl, b1⟩
    have t1 := hT.below b1
    go_wp2_with fail
    refine (V.out _ t1).mono ?_
    rintro e w2 ⟨rfl, b2⟩
    have t2 := t1.below b2
    have c2 := b1.trans (b2.mono b1.size)
    go_wp2_with fail
    refine (RV.out _).mono ?_
    rintro e w3 ⟨rfl, rfl⟩
    go_wp2_with fail
    refine (R.out _ t2).mono ?_
    rintro e w4 ⟨v, rfl, o4, b4⟩
    have c4 := c2.trans (b4.mono c2.size)
    rw [HX.out] at o4
    go_wp2_with fail
    refine (RR.out _).mono ?_
    rintro e w5 ⟨u, rfl, o5, b5⟩
    have c5 := c4.trans (b5.mono c4.size)
    rw [HX.out] at o5
    go_wp2_with fail
    refine (plain_any w5.heap.size _ _ x x _ ((o4.reads.below b5).more b5.size) o5.reads (by omega) (by omega)).mono ?_
    rintro e w6 ⟨rfl, b6⟩
    have c6 := c5.trans (b6.mono c5.size)
    have t6 := hT.below c6
    rw [beq_self_eq_true]
    go_wp2_with fail
    refine (C.out _ t6).mono ?_
    rintro e w7 ⟨rfl, b7⟩
    have c7 := c6.trans (b7.mono c6.size)
    go_wp2_with fail
    refine (RR.out _).mono ?_
    rintro e w8 ⟨z, rfl, o8, b8⟩
    have c8 := c7.trans (b8.mono c7.size)
    have t8 := hT.below c8
    rw [HX.out] at o8
    obtain ⟨A8, cap8, hz, _⟩ := o8.reads
    subst hz
    go_wp2_with fail
    refine (L.out _ t8).mono ?_
    rintro e w9 ⟨rfl, b9⟩
    have c9 := c8.trans (b9.mono c8.size)
    go_wp2_with fail
    refine (RL.out _).mono ?_
    rintro e w10 ⟨rfl, b10⟩
    have c10 := c9.trans (b10.mono c9.size)
    go_wp2_with fail
    go_ret
    exact ⟨rfl, c10⟩
  · go_enter Tryd.func3, Tryd.ntmps3
    go_wp2_with fail
    refine (HA.out _ hT).mono ?_
    rintro e w1 ⟨rfl, b1⟩
    go_wp2_with fail
    go_ret
    exact ⟨rfl, b1⟩
end Go.Proofs.YtnlphbejlgnhnaaDoor
