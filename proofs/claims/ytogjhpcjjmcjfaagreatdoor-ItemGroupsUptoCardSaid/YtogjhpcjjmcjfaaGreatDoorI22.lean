import Derived.Test.YtogjhpcjjmcjfaaGreatDoorI21
import Derived.Test.YtogjhpcjjmcjfaaGreatDoorI05
/- what is reached of it -/
namespace Go.Proofs.YtogjhpcjjmcjfaaGreatDoor
open Go.RowKit Tx
set_option maxHeartbeats 1000000 in
/-- utf.Runes' function: one character more. -/
theorem push_any (B : Nat) (v : Value) (x : List Nat) (c : Nat) (w : World) (hown : Owned B w v x) (hB : B ≤ w.heap.size) (hl : x.length < 10000000000000) (hc : c ≤ 1114111) :
    Calls Tryz.prog 164 #[v, .int .i32 c] w (Pushed B w x c) := by
  obtain ⟨i0, hi, hz0, hz1, hz2⟩ := info_parts infoInt
  go_enter Tryz.func164, Tryz.ntmps164
  go_wp2_with (at_builtin; refine wpList_append_own _ rfl _ _ 73 rfl B 3 i0 (.int .i64 0) 1 8 Tryz.underlying73 hi hz0 hz1 hz2 rfl (by decide) _ _ _ rfl (World.ownsRow.alloc (show w.ownsRow B 3 1 v x.length (ints x) from hown) _) ⟨w.heap.size, 0, none⟩ 1 1 [.int .i64 (c : Nat)] rfl rfl ?c1 ?c2 ?c3 ?c4 ?c5 ?_)
  case c1 =>
    intro j u hj
    match j, hj with
    | 0, hj => simp at hj; subst hj; simp [Addr.add]
  case c2 => intro u hu; simp at hu; subst hu; rfl
  case c3 => unfold maxLen; omega
  case c4 => omega
  case c5 => simp; omega
  intro v' w1 hown' hgrow _
  have R := pushed_of hown hB hown' hgrow
  clear hown' hgrow
  go_wp2
  go_ret
  exact ⟨v', rfl, R.1, R.2⟩

/-- What utf.Runes hands on: the characters, none where it is no text; in memory of its own. -/
def RunesOf (B : Nat) (w : World) (l : List UInt8) (e : Ending) (w' : World) : Prop :=
  ∃ v, e = .returned (.tuple #[v, .bool (valid l)]) ∧ Owned B w' v (runes l) ∧ Below B w w'

theorem RunesOf.some {B : Nat} {w w' : World} {l : List UInt8} {x : List Nat} {v : Value} (h : ch l = .some x) (ho : Owned B w' v x) (hb : Below B w w') : RunesOf B w l (.returned (.tuple #[v, .bool true])) w' :=
  ⟨v, by rw [valid_some h], by rw [runes_some h]; exact ho, hb⟩
theorem RunesOf.none {B : Nat} {w w' : World} {l : List UInt8} (h : ch l = .none) (hb : Below B w w') : RunesOf B w l (.returned (.tuple #[.slice .none 0 0, .bool false])) w' :=
  ⟨_, by rw [valid_none h], by rw [runes_none h]; exact Owned.nil _ _, hb⟩
set_option maxHeartbeats 1000000 in
theorem walk_ints (s : ByteArray) (w : World) (hT : Tabs w) (hs : s.size < 10000000000000) :
    Calls Tryz.prog 163 #[.string s, .func (.func 164) #[] #[]] w (RunesOf w.heap.size w s.data.toList) := by
  go_enter Tryz.func163, Tryz.ntmps163
  go_wp2_with fail
  go_loopw [6, 8] (fun told at_ wr => ∃ (k : Nat) (x : List Nat), k ≤ s.size ∧ at_ = .int .i64 k ∧ x.length ≤ k ∧ At s.data.toList k x ∧
      Owned w.heap.size wr told x ∧ Below w.heap.size w wr) (fun _ at_ _ => s.size - (intOf at_).toNat)
  case atStart => exact ⟨0, [], Nat.zero_le _, rfl, Nat.le_refl _, At.start _, Owned.nil _ _, Below.refl _ _⟩
  case round =>
    obtain ⟨k, x, hk, rfl, hx, hat, hown, hb⟩ := hrel
    have hsz := Lib.hid (Lib.size_eq s)
    have hsw := hb.size
    by_cases hlt : k < s.size
    · have hlt' : k < s.data.toList.length := by rw [← hsz.out]; exact hlt
      have hne := drop_ne hlt'
      obtain ⟨c, n, hd, hn1, hn2, hc1⟩ : ∃ c n, Hid (dc (s.data.toList.drop k) = (c, n)) ∧ 1 ≤ n ∧ k + n ≤ s.size ∧ c ≤ 1114111 := by
        refine ⟨_, _, Lib.hid rfl, dc_ge1 _, ?_, dc_rune _⟩
        have := dc_le hne; rw [List.length_drop, ← hsz.out] at this; omega
      have hext := Lib.hid (Lib.extract_to_end s k)
      go_wp2_with fail
      refine (dec_any _ c n wr (by rw [hext.out]; exact hne) (by unfold Hid; rw [hext.out]; exact hd.out) (hT.below hb)).mono ?_
      rintro e w1 ⟨rfl, hb1⟩
      have hbw : Below w.heap.size w w1 := hb.trans (hb1.mono hsw)
      have hs1 := hb1.size
      have hown1 : Owned w.heap.size w1 _ x := hown.below hb1
      have nxe : Hid (nx (s.data.toList.drop k) = if (c == 65533 && n == 1 || !okc c) then (0, 0) else (c, n)) := by unfold Hid; rw [nx_eq, hd.out]
      by_cases hbad : (c == 65533 && n == 1) = true
      · simp only [Bool.and_eq_true, beq_iff_eq] at hbad
        obtain ⟨rfl, rfl⟩ := hbad
        have hno : Hid (ch s.data.toList = none) := hat.bad hlt' (by rw [nxe.out]; rfl)
        go_wp2_with fail
        go_ret2
        exact RunesOf.none hno.out hbw
      · have hbi : ¬ ((c : Int) = 65533 ∧ (n : Int) = 1) := by
          intro h; apply hbad; simp only [Bool.and_eq_true, beq_iff_eq]; omega
        cases hok : okc c with
        | false =>
          have hno : Hid (ch s.data.toList = none) := hat.bad hlt' (by rw [nxe.out, hok, Bool.not_false, Bool.or_true, if_pos rfl])
          have hgo : ∀ W : World, Calls Tryz.prog 93 #[.int .i32 c] W fun e w' => e = .returned (.bool false) ∧ W = w' := fun W => by have := allowed_any c W; rwa [hok] at this
          have HGO := Lib.hid hgo
          clear hgo hok
          by_cases h1 : (c : Int) = 65533
          · have g1 : ((c : Int) == 65533) = true := by simpa using h1
            have g2 : ((n : Int) == 1) = false := by simp; omega
            clear h1 hbad
            go_wp2_with (go_at_call 93; refine (HGO.out _).mono ?_; rintro e w2 ⟨rfl, rfl⟩)
            go_ret2
            exact RunesOf.none hno.out hbw
          · have g1 : ((c : Int) == 65533) = false := by simpa using h1
            clear h1 hbad
            go_wp2_with (go_at_call 93; refine (HGO.out _).mono ?_; rintro e w2 ⟨rfl, rfl⟩)
            go_ret2
            exact RunesOf.none hno.out hbw
        | true =>
          have hnx : Hid (nx (s.data.toList.drop k) = (c, n)) := by
            unfold Hid; rw [nxe.out, hok, if_neg]; simp only [Bool.not_true, Bool.or_false]; exact hbad
          have hat' := hat.next hlt' (by rw [hnx.out]; show n ≠ 0; omega)
          rw [hnx.out] at hat'
          have hgo : ∀ W : World, Calls Tryz.prog 93 #[.int .i32 c] W fun e w' => e = .returned (.bool true) ∧ W = w' := fun W => by have := allowed_any c W; rwa [hok] at this
          have HGO := Lib.hid hgo
          have HP := Lib.hid (push_any w.heap.size _ x c w1 hown1 (by omega) (by omega) hc1)
          clear hgo hok
          by_cases h1 : (c : Int) = 65533
          · have g1 : ((c : Int) == 65533) = true := by simpa using h1
            have g2 : ((n : Int) == 1) = false := by simp; omega
            clear h1 hbad
            go_wp2_with (first | (go_at_call 93; refine (HGO.out _).mono ?_; rintro e w2 ⟨rfl, rfl⟩) | (go_at_call 164; refine HP.out.mono ?_; rintro e w2 ⟨v2, rfl, hown2, hb2⟩))
            go_roundw
            case rel => exact ⟨k + n, x ++ [c], hn2, by go_num, by simp; omega, hat', hown2, hbw.trans hb2⟩
            case measure => simp [intOf]; omega
          · have g1 : ((c : Int) == 65533) = false := by simpa using h1
            clear h1 hbad
            go_wp2_with (first | (go_at_call 93; refine (HGO.out _).mono ?_; rintro e w2 ⟨rfl, rfl⟩) | (go_at_call 164; refine HP.out.mono ?_; rintro e w2 ⟨v2, rfl, hown2, hb2⟩))
            go_roundw
            case rel => exact ⟨k + n, x ++ [c], hn2, by go_num, by simp; omega, hat', hown2, hbw.trans hb2⟩
            case measure => simp [intOf]; omega
    · have hke : k = s.data.toList.length := by rw [← hsz.out]; omega
      have hch : Hid (ch s.data.toList = some x) := At.stop (by rw [← hke]; exact hat)
      clear hke
      go_wp2_with fail
      go_ret2
      exact RunesOf.some hch.out hown hb

/-- utf.Runes' answer. -/
def RunesGives (B : Nat) (w : World) (l : List UInt8) (e : Ending) (w' : World) : Prop := ∃ v, e = .returned v ∧ Owned B w' v (runes l) ∧ Below B w w'
set_option maxHeartbeats 400000 in
theorem runes_any (s : ByteArray) (w : World) (hT : Tabs w) (hs : s.size < 10000000000000) :
    Calls Tryz.prog 129 #[.string s] w (RunesGives w.heap.size w s.data.toList) := by
  have HW := Lib.hid (walk_ints s w hT hs)
  go_enter Tryz.func129, Tryz.ntmps129
  go_wp2_with (go_at_call 163; refine HW.out.mono ?_; rintro e w1 ⟨v, rfl, hown, hb⟩)
  go_ret
  exact ⟨_, rfl, hown, hb⟩
end Go.Proofs.YtogjhpcjjmcjfaaGreatDoor
