import Derived.Test.YtogjhpcjjmcjfaaGreatDoorL23
import Derived.Test.YtogjhpcjjmcjfaaGreatDoorL09
import Derived.Test.YtogjhpcjjmcjfaaGreatDoorL03
import Derived.Test.YtogjhpcjjmcjfaaGreatDoorL17
import Derived.Test.YtogjhpcjjmcjfaaGreatDoorL24
section
/- what is reached of it -/
namespace Go.Proofs.YtogjhpcjjmcjfaaGreatDoor
open Go.RowKit Rg Tx
theorem wrong1_in (c : Nat) : Pr.wrong 1 c = (inL bannedL c || ([32, 34, 38, 39, 47, 58, 60, 62, 64] : List Nat).any fun d => (d : Int) == (c : Int)) := by
  have h : inL Pr.besideBL c = ([32, 34, 38, 39, 47, 58, 60, 62, 64] : List Nat).any fun d => (d : Int) == (c : Int) := by
    rw [Bool.eq_iff_iff]
    simp [inL, Pr.besideBL]
    omega
  rw [← h]
  rfl
theorem wrong2_in (c : Nat) : (!Pr.wrong 2 c) = (decide ((48 : Int) ≤ c) && decide ((c : Int) ≤ 57) || (c : Int) == 45 || (c : Int) == 46 || inL lettersL c || inL rightLeftL c) := by
  have h : inL Pr.besideLL c = (decide ((48 : Int) ≤ c) && decide ((c : Int) ≤ 57) || (c : Int) == 45 || (c : Int) == 46) := by
    rw [Bool.eq_iff_iff]
    simp [inL, Pr.besideLL]
    omega
  rw [← h]
  show (!(!(inL lettersL c || inL rightLeftL c || inL Pr.besideLL c))) = _
  cases inL lettersL c <;> cases inL rightLeftL c <;> cases inL Pr.besideLL c <;> rfl
theorem nine : (ints [32, 34, 38, 39, 47, 58, 60, 62, 64]).toArray = #[.int .i64 32, .int .i64 34, .int .i64 38, .int .i64 39, .int .i64 47, .int .i64 58, .int .i64 60, .int .i64 62, .int .i64 64] := by
  unfold ints
  rfl

set_option maxHeartbeats 4000000 in
theorem rallowed1_any (c : Nat) (w : World) : Calls Tryz.prog 144 #[.int .i64 1, .int .i64 c] w fun e w' => e = .returned (.bool (!Pr.wrong 1 c)) ∧ Below w.heap.size w w' := by
  have HB := Lib.hid refBanned_any
  have HI := Lib.hid (fun (B : Nat) v W (h : OwnR B W v bannedL) => refIn_any v bannedL c W h.reads (by simp [bannedL]))
  have hn := nine
  obtain ⟨x, hx⟩ : ∃ x : List Nat, x = [32, 34, 38, 39, 47, 58, 60, 62, 64] := ⟨_, rfl⟩
  have hxl : x.length = 9 := by rw [hx]; rfl
  have hw := wrong1_in c
  rw [← hx] at hw hn
  have HH := Lib.hid (fun (W : World) => hin_any (.slice (some ⟨W.heap.size, 0, none⟩) 9 9) x c (W.alloc (.cells (ints x).toArray 3)) ((Reads.made W 3 x _ 9 9 rfl hxl).more (by simp)) (by omega))
  rw [hn] at HH
  obtain ⟨g1, h1⟩ : ∃ g, inL bannedL c = g := ⟨_, rfl⟩
  obtain ⟨g2, h2⟩ : ∃ g, (x.any fun d => (d : Int) == (c : Int)) = g := ⟨_, rfl⟩
  rw [h1, h2] at hw
  rw [h1] at HI
  rw [h2] at HH
  rw [hw]
  obtain ⟨z, hz⟩ : ∃ z : Int, (c : Int) = z := ⟨_, rfl⟩
  rw [hz] at HI HH ⊢
  clear hn hx hxl hw h1 h2 hz
  cases g1 <;> cases g2
  all_goals
    go_enter Tryz.func144, Tryz.ntmps144
    go_wp2_with fail
    refine (HB.out w).mono ?_
    rintro e w1 ⟨v1, rfl, o1, b1⟩
    have O1 := Lib.hid o1
    obtain ⟨A1, c1, rfl⟩ := o1.slice
    clear o1
    go_wp2_with fail
    refine (HI.out _ _ w1 O1.out).mono ?_
    rintro e w2 ⟨rfl, b2⟩
    have B2 := Lib.hid (b1.trans (b2.mono b1.size))
    have H2 := Lib.hid (HH.out w2)
    have B3 := Lib.hid (B2.out.alloc B2.out.size (.cells #[.int .i64 32, .int .i64 34, .int .i64 38, .int .i64 39, .int .i64 47, .int .i64 58, .int .i64 60, .int .i64 62, .int .i64 64] 3))
    clear b1 b2
    (go_wp2_with (go_at_call 180; refine H2.out.mono ?_; rintro e w4 ⟨rfl, rfl⟩))
    go_ret
    first | exact ⟨rfl, B3.out⟩ | exact ⟨rfl, B2.out⟩
set_option maxHeartbeats 4000000 in
theorem rallowed3_any (c : Nat) (w : World) : Calls Tryz.prog 144 #[.int .i64 3, .int .i64 c] w fun e w' => e = .returned (.bool (!Pr.wrong 3 c)) ∧ Below w.heap.size w w' := by
  have HB := Lib.hid refBanned_any
  have HI := Lib.hid (fun (B : Nat) v W (h : OwnR B W v bannedL) => refIn_any v bannedL c W h.reads (by simp [bannedL]))
  have hw : Pr.wrong 3 c = inL bannedL c := rfl
  obtain ⟨g1, h1⟩ : ∃ g, inL bannedL c = g := ⟨_, rfl⟩
  rw [h1] at hw HI
  rw [hw]
  obtain ⟨z, hz⟩ : ∃ z : Int, (c : Int) = z := ⟨_, rfl⟩
  rw [hz] at HI ⊢
  clear hw h1 hz
  cases g1
  all_goals
    go_enter Tryz.func144, Tryz.ntmps144
    go_wp2_with fail
    refine (HB.out w).mono ?_
    rintro e w1 ⟨v1, rfl, o1, b1⟩
    have O1 := Lib.hid o1
    obtain ⟨A1, c1, rfl⟩ := o1.slice
    clear o1
    go_wp2_with fail
    refine (HI.out _ _ w1 O1.out).mono ?_
    rintro e w2 ⟨rfl, b2⟩
    have B2 := Lib.hid (b1.trans (b2.mono b1.size))
    clear b1 b2
    go_wp2_with fail
    go_ret
    exact ⟨rfl, B2.out⟩
set_option maxHeartbeats 8000000 in
theorem rallowed2_any (c : Nat) (w : World) : Calls Tryz.prog 144 #[.int .i64 2, .int .i64 c] w fun e w' => e = .returned (.bool (!Pr.wrong 2 c)) ∧ Below w.heap.size w w' := by
  have HL := Lib.hid refLetters_any
  have HR := Lib.hid refRightLeft_any
  have HI := Lib.hid (fun (B : Nat) v W (h : OwnR B W v lettersL) => refIn_any v lettersL c W h.reads (by simp [lettersL]))
  have HJ := Lib.hid (fun (B : Nat) v W (h : OwnR B W v rightLeftL) => refIn_any v rightLeftL c W h.reads (by simp [rightLeftL]))
  have hw := wrong2_in c
  obtain ⟨g1, h1⟩ : ∃ g, inL lettersL c = g := ⟨_, rfl⟩
  obtain ⟨g2, h2⟩ : ∃ g, inL rightLeftL c = g := ⟨_, rfl⟩
  rw [h1, h2] at hw
  rw [h1] at HI
  rw [h2] at HJ
  rw [hw]
  obtain ⟨z, hz⟩ : ∃ z : Int, (c : Int) = z := ⟨_, rfl⟩
  rw [hz] at HI HJ ⊢
  clear hw h1 h2 hz
  obtain ⟨d, hd⟩ : ∃ d, (decide ((48 : Int) ≤ z) && decide (z ≤ 57) || z == 45 || z == 46) = d := ⟨_, rfl⟩
  rw [hd]
  cases d with
  | true =>
    rcases (show (decide (48 ≤ z) = true ∧ decide (z ≤ 57) = true) ∨ (decide (48 ≤ z) = false ∧ (z == 45) = true) ∨ (decide (48 ≤ z) = false ∧ (z == 45) = false ∧ (z == 46) = true) by
      simp only [Bool.or_eq_true, Bool.and_eq_true, decide_eq_true_eq, decide_eq_false_iff_not, beq_iff_eq, beq_eq_false_iff_ne] at hd ⊢; omega) with ⟨k1, k2⟩ | ⟨k1, k2⟩ | ⟨k1, k2, k3⟩
    all_goals
      clear hd
      go_enter Tryz.func144, Tryz.ntmps144
      go_wp2_with fail
      go_ret
      exact ⟨rfl, Below.refl _ _⟩
  | false =>
    rcases (show (decide (48 ≤ z) = true ∧ decide (z ≤ 57) = false ∧ (z == 45) = false ∧ (z == 46) = false) ∨ (decide (48 ≤ z) = false ∧ (z == 45) = false ∧ (z == 46) = false) by
      simp only [Bool.or_eq_false_iff, Bool.and_eq_false_iff, decide_eq_true_eq, decide_eq_false_iff_not, beq_eq_false_iff_ne] at hd ⊢; omega) with ⟨k1, k2, k3, k4⟩ | ⟨k1, k2, k3⟩
    all_goals
      clear hd
      cases g1 with
      | true =>
        go_enter Tryz.func144, Tryz.ntmps144
        go_wp2_with fail
        refine (HL.out w).mono ?_
        rintro e w1 ⟨v1, rfl, o1, b1⟩
        have O1 := Lib.hid o1
        obtain ⟨A1, c1, rfl⟩ := o1.slice
        clear o1
        go_wp2_with fail
        refine (HI.out _ _ w1 O1.out).mono ?_
        rintro e w2 ⟨rfl, b2⟩
        have B2 := Lib.hid (b1.trans (b2.mono b1.size))
        clear b1 b2
        go_wp2_with fail
        go_ret
        exact ⟨rfl, B2.out⟩
      | false =>
        cases g2
        all_goals
          go_enter Tryz.func144, Tryz.ntmps144
          go_wp2_with fail
          refine (HL.out w).mono ?_
          rintro e w1 ⟨v1, rfl, o1, b1⟩
          have O1 := Lib.hid o1
          obtain ⟨A1, c1, rfl⟩ := o1.slice
          clear o1
          go_wp2_with fail
          refine (HI.out _ _ w1 O1.out).mono ?_
          rintro e w2 ⟨rfl, b2⟩
          have B2 := Lib.hid (b1.trans (b2.mono b1.size))
          clear b1 b2
          go_wp2_with fail
          refine (HR.out w2).mono ?_
          rintro e w3 ⟨v3, rfl, o3, b3⟩
          have B3 := Lib.hid (B2.out.trans (b3.mono B2.out.size))
          have O3 := Lib.hid o3
          obtain ⟨A3, c3, rfl⟩ := o3.slice
          clear o3 b3
          go_wp2_with fail
          refine (HJ.out _ _ w3 O3.out).mono ?_
          rintro e w4 ⟨rfl, b4⟩
          have B4 := Lib.hid (B3.out.trans (b4.mono B3.out.size))
          clear b4
          go_wp2_with fail
          go_ret
          exact ⟨rfl, B4.out⟩
/-- allowed, of each of the three -/
theorem rallowed_any (k c : Nat) (w : World) (hk : k = 1 ∨ k = 2 ∨ k = 3) : Calls Tryz.prog 144 #[.int .i64 k, .int .i64 c] w fun e w' => e = .returned (.bool (!Pr.wrong k c)) ∧ Below w.heap.size w w' := by
  rcases hk with rfl | rfl | rfl
  · exact rallowed1_any c w
  · exact rallowed2_any c w
  · exact rallowed3_any c w
end Go.Proofs.YtogjhpcjjmcjfaaGreatDoor
end
section
/- what is reached of it -/
namespace Go.Proofs.YtogjhpcjjmcjfaaGreatDoor
open Go.RowKit Tx
def RRunes (B : Nat) (w : World) (l : List UInt8) (e : Ending) (w' : World) : Prop := ∃ v, e = .returned v ∧ Owned B w' v (runes l) ∧ Below B w w'
set_option maxHeartbeats 1000000 in
theorem rrunes_any (s : ByteArray) (w : World) (hs : s.size < 10000000000000) :
    Calls Tryz.prog 60 #[.string s] w (RRunes w.heap.size w s.data.toList) := by
  obtain ⟨i0, hi, hz0, hz1, hz2⟩ := info_parts infoInt
  have hsz := Lib.hid (Lib.size_eq s)
  have HV := Lib.hid (rvalid_any s w hs)
  cases hch : ch s.data.toList with
  | none =>
    have hfin : RRunes w.heap.size w s.data.toList (.returned (.slice none 0 0)) w := ⟨_, rfl, by rw [runes_none hch]; exact Owned.nil _ _, Below.refl _ _⟩
    rw [valid_none hch] at HV
    have HF := Lib.hid hfin
    clear hch hfin
    go_enter Tryz.func60, Tryz.ntmps60
    go_wp2_with (go_at_call 61; refine HV.out.mono ?_; rintro e w' ⟨rfl, rfl⟩)
    go_ret
    exact HF.out
  | some all =>
    rw [valid_some hch] at HV
    have HCH := Lib.hid hch
    clear hch
    go_enter Tryz.func60, Tryz.ntmps60
    go_wp2_with (go_at_call 61; refine HV.out.mono ?_; rintro e w' ⟨rfl, rfl⟩)
    go_loopw [3, 4] (fun v at_ wr => ∃ (k : Nat) (x : List Nat), k ≤ s.size ∧ at_ = .int .i64 k ∧ x.length ≤ k ∧ At s.data.toList k x ∧ Owned w.heap.size wr v x ∧ Below w.heap.size w wr) (fun _ at_ _ => s.size - (intOf at_).toNat)
    case atStart => exact ⟨0, [], Nat.zero_le _, rfl, Nat.le_refl _, At.start _, Owned.nil _ _, Below.refl _ _⟩
    case round =>
      obtain ⟨k, x, hk, rfl, hxk, hat, hown, hb⟩ := hrel
      have hsw := hb.size
      by_cases hlt : k < s.size
      · have hlt' : k < s.data.toList.length := by rw [← hsz.out]; exact hlt
        have hle := nx_le (drop_ne hlt')
        have hru := nx_rune (s.data.toList.drop k)
        rw [List.length_drop, ← hsz.out] at hle
        have HD := Lib.hid (next_any s k wr hs hlt)
        obtain ⟨c, n, hcn⟩ : ∃ c n, Hid (nx (s.data.toList.drop k) = (c, n)) := ⟨_, _, Lib.hid rfl⟩
        have hD : Hid (∀ e w', Nexted wr (s.data.toList.drop k) e w' → e = .returned (.tuple #[.int .i64 c, .int .i64 n]) ∧ wr = w') := fun e w' ⟨h1, h2⟩ => ⟨by rw [h1, hcn.out], h2⟩
        rw [hcn.out] at hle hru
        by_cases hn : n = 0
        · exfalso
          have := hat.bad hlt' (by rw [hcn.out]; exact hn)
          rw [HCH.out] at this
          cases this
        · have hat' := hat.next hlt' (by rw [hcn.out]; exact hn)
          rw [hcn.out] at hat'
          go_wp2_with (first | (go_at_call 79; refine HD.out.mono ?_; intro e w' hd; obtain ⟨rfl, rfl⟩ := hD.out _ _ hd) | (at_builtin; refine wpList_append_own _ rfl _ _ 73 rfl w.heap.size 3 i0 (.int .i64 0) 1 8 Tryz.underlying73 hi hz0 hz1 hz2 rfl (by decide) _ _ _ rfl (World.ownsRow.alloc (show wr.ownsRow w.heap.size 3 1 _ x.length (ints x) from hown) _) ⟨wr.heap.size, 0, none⟩ 1 1 [.int .i64 (c : Nat)] rfl rfl ?c1 ?c2 ?c3 ?c4 ?c5 ?_))
          case c1 =>
            intro j u hj
            match j, hj with
            | 0, hj => simp at hj; subst hj; simp [Addr.add]
          case c2 => intro u hu; simp at hu; subst hu; rfl
          case c3 => unfold maxLen; omega
          case c4 => omega
          case c5 => simp; omega
          intro v' w1 hown' hgrow _
          have R := pushed_of hown hsw hown' hgrow
          clear hown' hgrow
          go_wp2
          go_roundw
          case rel => exact ⟨k + n, x ++ [c], by omega, by go_num, by simp; omega, hat', R.1, hb.trans R.2⟩
          case measure => simp [intOf]; omega
      · have hke : k = s.data.toList.length := by rw [← hsz.out]; omega
        have hx : x = all := by
          have := At.stop (by rw [← hke]; exact hat)
          rw [HCH.out] at this
          exact (Option.some.inj this).symm
        have hr : runes s.data.toList = x := by rw [hx]; exact runes_some HCH.out
        have hown2 := hown
        rw [← hr] at hown2
        clear hke hx hr
        go_wp2_with fail
        go_ret
        exact ⟨_, rfl, hown2, hb⟩
end Go.Proofs.YtogjhpcjjmcjfaaGreatDoor
end
section
/- what is reached of it -/
namespace Go.Proofs.YtogjhpcjjmcjfaaGreatDoor
open Go.RowKit Rg Tx
set_option maxHeartbeats 8000000 in
theorem rprep_any (k : Nat) (K : Int) (hK : K = (k : Int)) (hk : k = 1 ∨ k = 2 ∨ k = 3) (s : ByteArray) (w : World) (hs : s.size ≤ 500000000) :
    Calls Tryz.prog 118 #[.string s, .int .i64 K] w fun e w' => e = .returned (prepV k s.data.toList) ∧ Below w.heap.size w w' := by
  have HV := Lib.hid (rvalid_any s w (by omega))
  have hsz := Lib.size_eq s
  cases hch : ch s.data.toList with
  | none =>
    have HF := Lib.hid (prepV_of (Pr.prepL_bad (k := k) (valid_none hch)))
    rw [valid_none hch] at HV
    rw [HF.out]
    clear hch hsz hK hk
    go_enter Tryz.func118, Tryz.ntmps118
    go_wp2_with (go_at_call 61; refine HV.out.mono ?_; rintro e w1 ⟨rfl, rfl⟩)
    go_ret2
    exact ⟨rfl, Below.refl _ _⟩
  | some x =>
    have hx0 := ch_good_all _ _ _ (Nat.le_refl _) hch
    have hxl := ch_length _ _ _ (Nat.le_refl _) hch
    rw [← hsz] at hxl
    have hxm : ∀ c ∈ x, c ≤ 1114111 := fun c hc => by have := (hx0 c hc).1; unfold sane at this; omega
    have hone : ∀ c, (Pr.one (k != 3) c).length ≤ 2 := fun c => by
      unfold Pr.one Pr.put Pr.small
      repeat' split
      all_goals simp
    have hyl := flatMap_len hone x
    obtain ⟨y, hy⟩ : ∃ y, x.flatMap (Pr.one (k != 3)) = y := ⟨_, rfl⟩
    have hys : ∀ c ∈ y, c ≤ 1114111 := by
      rw [← hy]
      exact Pr.mapL_each (p := fun c => c ≤ 1114111) fun c hc d hd => by have := (Pr.one_fine _ (hx0 c hc) d hd).1; unfold sane at this; omega
    have hpl : Pr.prepL k s.data.toList = Pr.prepC k y := by rw [Pr.prepL_ch hch, ← hy]; rfl
    rw [hy] at hyl
    have hyb : y.length ≤ 1000000000 := by omega
    have HM := Lib.hid (fun v W (hv : Reads W.heap.size W v x) => rmapped_any v x (k != 3) W hv (by omega) hxm)
    have HA := Lib.hid (fun (c : Nat) W => rallowed_any k c W hk)
    have HO := Lib.hid (fun v W (hv : Reads W.heap.size W v y) => rway_any v y W hv (by omega))
    have HB := Lib.hid (fun v W (hv : Reads W.heap.size W v y) => rtexts_any v y W hv (by omega) hys)
    rw [hy] at HM
    have hrx : runes s.data.toList = x := runes_some hch
    have HR := Lib.hid (fun W => (rrunes_any s W (by omega)).mono (fun e w' (h : RRunes W.heap.size W s.data.toList e w') => show ∃ v, e = .returned v ∧ Owned W.heap.size w' v x ∧ Below W.heap.size W w' from by obtain ⟨v, h1, h2, h3⟩ := h; rw [hrx] at h2; exact ⟨v, h1, h2, h3⟩))
    rw [valid_some hch] at HV
    obtain ⟨r, hr⟩ : ∃ r, prepV k s.data.toList = r := ⟨_, rfl⟩
    have HE := Lib.hid (fun a n (h : Pr.prepC k y = (a, n)) => hr.symm.trans (prepV_of (hpl.trans h)))
    have HC0 := Lib.hid (fun (h : y.any (Pr.wrong k) = true) => HE.out _ _ (Pr.prepC_char h))
    have HC1 := Lib.hid (fun (h : y.any (Pr.wrong k) = false) (h2 : Pr.wayB y = false) => HE.out _ _ (Pr.prepC_ways h h2))
    have HC2 := Lib.hid (fun (h : y.any (Pr.wrong k) = false) (h2 : Pr.wayB y = true) => HE.out _ _ (Pr.prepC_kept h h2))
    have HH := Lib.hid (fun (j : Nat) (h : j < y.length) (h2 : Pr.wrong k (y.getD j 0) = true) => any_hit h h2)
    have HN := Lib.hid (fun (h : ∀ j, j < y.length → Pr.wrong k (y.getD j 0) = false) => any_miss h)
    have hbn : (K != 3) = (k != 3) := by
      rw [hK, Bool.eq_iff_iff]
      simp
      omega
    obtain ⟨b, hb⟩ : ∃ b, (k != 3) = b := ⟨_, rfl⟩
    rw [hb] at hbn HM
    have hK2 := hK.symm
    simp only [hK2] at HA
    rw [hr]
    clear hch hsz hx0 hxl hxm hone hyl hy hys hpl hrx hr HE hb hK hK2 hk
    go_enter Tryz.func118, Tryz.ntmps118
    go_wp2_with (go_at_call 61; refine HV.out.mono ?_; rintro e w1 ⟨rfl, rfl⟩)
    refine (HR.out w).mono ?_
    rintro e w2 ⟨v2, rfl, o2, b2⟩
    have B2 := Lib.hid b2
    have O2 := Lib.hid o2
    have M2 := Lib.hid (HM.out _ w2 o2.reads)
    obtain ⟨A2, c2, rfl⟩ := o2.slice
    clear o2 b2
    go_wp2_with fail
    refine M2.out.mono ?_
    rintro e w4 ⟨v4, rfl, o4, b4⟩
    have B4 := Lib.hid (B2.out.trans (b4.mono B2.out.size))
    have O4 := Lib.hid o4
    obtain ⟨A4, c4, hv4⟩ := o4.slice
    subst hv4
    have R4 := Lib.hid o4.reads
    clear o4 b4 M2 HM
    go_wp2_with fail
    go_loopw [7] (fun i wr => ∃ (j : Nat), j ≤ y.length ∧ i = .int .i64 j ∧ Hid (∀ t, t < j → Pr.wrong k (y.getD t 0) = false) ∧ Below w4.heap.size w4 wr) (fun i _ => y.length - (intOf i).toNat)
    case atStart => exact ⟨0, Nat.zero_le _, rfl, Lib.hid (fun j h => absurd h (Nat.not_lt_zero _)), Below.refl _ _⟩
    case round =>
      obtain ⟨j, hj, rfl, hno, bw⟩ := hrel
      have hsw := bw.size
      by_cases hlt : j < y.length
      · obtain ⟨-, hx⟩ := R4.out.cells
        obtain ⟨ad, rfl, hlb, hc⟩ := hx (by omega)
        have c0 := hc j hlt
        rw [← bw.cell (p := ad.add j) (by rw [addBlock]; omega)] at c0
        obtain ⟨c, hcx⟩ : ∃ c, y.getD j 0 = c := ⟨_, rfl⟩
        rw [hcx] at c0
        have HCX := Lib.hid hcx
        have A5 := Lib.hid (HA.out c wr)
        obtain ⟨z, hz⟩ : ∃ z : Int, (c : Int) = z := ⟨_, rfl⟩
        rw [hz] at A5 c0
        obtain ⟨g, hg⟩ : ∃ g, Pr.wrong k c = g := ⟨_, rfl⟩
        rw [hg] at A5
        have HG := Lib.hid hg
        clear hc hx hcx hz hg
        cases g with
        | true =>
          have HF := Lib.hid (HC0.out (HH.out j hlt (by rw [HCX.out]; exact HG.out)))
          go_wp2_with fail
          refine A5.out.mono ?_
          rintro e w5 ⟨rfl, b5⟩
          have B5 := Lib.hid (B4.out.trans ((bw.trans (b5.mono hsw)).mono B4.out.size))
          clear b5
          go_wp2_with fail
          go_ret2
          exact ⟨by rw [HF.out]; rfl, B5.out⟩
        | false =>
          have hno2 : Hid (∀ t, t < j + 1 → Pr.wrong k (y.getD t 0) = false) := Lib.hid (fun t ht => by
            rcases Nat.lt_or_ge t j with h | h
            · exact hno.out t h
            · obtain rfl : t = j := by omega
              rw [HCX.out]
              exact HG.out)
          go_wp2_with fail
          refine A5.out.mono ?_
          rintro e w5 ⟨rfl, b5⟩
          have b6 := bw.trans (b5.mono hsw)
          clear b5
          go_wp2_with fail
          go_roundw
          case rel => exact ⟨j + 1, by omega, by go_num, hno2, b6⟩
          case measure => simp [intOf]; omega
      · have hje : j = y.length := by omega
        have HW := Lib.hid (HN.out (fun t ht => hno.out t (by omega)))
        have B5 := Lib.hid (B4.out.trans (bw.mono B4.out.size))
        have R5 := Lib.hid ((R4.out.below bw).more hsw)
        have W5 := Lib.hid (HO.out _ wr R5.out)
        obtain ⟨t, ht⟩ : ∃ t, Pr.wayB y = t := ⟨_, rfl⟩
        rw [ht] at W5
        have HTT := Lib.hid ht
        clear hje ht
        go_wp2_with fail
        refine W5.out.mono ?_
        rintro e w6 ⟨rfl, b6⟩
        have B6 := Lib.hid (B5.out.trans (b6.mono B5.out.size))
        have R6 := Lib.hid ((R5.out.below b6).more b6.size)
        clear b6
        cases t with
        | false =>
          have HF := Lib.hid (HC1.out HW.out HTT.out)
          go_wp2_with fail
          go_ret2
          exact ⟨by rw [HF.out]; rfl, B6.out⟩
        | true =>
          have HF := Lib.hid (HC2.out HW.out HTT.out)
          have Y6 := Lib.hid (HB.out _ w6 R6.out)
          obtain ⟨q, hq⟩ : ∃ q : ByteArray, (⟨(flat y).toArray⟩ : ByteArray) = q := ⟨_, rfl⟩
          rw [hq] at Y6 HF
          clear hq
          go_wp2_with fail
          refine Y6.out.mono ?_
          rintro e w7 ⟨rfl, b7⟩
          have B7 := Lib.hid (B6.out.trans (b7.mono B6.out.size))
          clear b7
          go_wp2_with fail
          go_ret2
          exact ⟨by rw [HF.out]; rfl, B7.out⟩
theorem prepV_parts (k : Nat) (l : List UInt8) : ∃ (a : ByteArray) (n : Int), prepV k l = .tuple #[.string a, .int .i64 n] := ⟨_, _, rfl⟩
set_option maxHeartbeats 1000000 in
theorem rnode_any (s : ByteArray) (w : World) (hs : s.size ≤ 500000000) :
    Calls Tryz.prog 95 #[.string s] w fun e w' => e = .returned (prepV 1 s.data.toList) ∧ Below w.heap.size w w' := by
  have HP := Lib.hid (rprep_any 1 1 rfl (.inl rfl) s w hs)
  obtain ⟨a, n, h⟩ := prepV_parts 1 s.data.toList
  rw [h] at HP ⊢
  clear h
  go_enter Tryz.func95, Tryz.ntmps95
  go_wp2_with fail
  refine HP.out.mono ?_
  rintro e w1 ⟨rfl, b1⟩
  go_wp2_with fail
  go_ret2
  exact ⟨rfl, b1⟩
set_option maxHeartbeats 1000000 in
theorem rhost_any (s : ByteArray) (w : World) (hs : s.size ≤ 500000000) :
    Calls Tryz.prog 117 #[.string s] w fun e w' => e = .returned (prepV 2 s.data.toList) ∧ Below w.heap.size w w' := by
  have HP := Lib.hid (rprep_any 2 2 rfl (.inr (.inl rfl)) s w hs)
  obtain ⟨a, n, h⟩ := prepV_parts 2 s.data.toList
  rw [h] at HP ⊢
  clear h
  go_enter Tryz.func117, Tryz.ntmps117
  go_wp2_with fail
  refine HP.out.mono ?_
  rintro e w1 ⟨rfl, b1⟩
  go_wp2_with fail
  go_ret2
  exact ⟨rfl, b1⟩
set_option maxHeartbeats 1000000 in
theorem rresource_any (s : ByteArray) (w : World) (hs : s.size ≤ 500000000) :
    Calls Tryz.prog 96 #[.string s] w fun e w' => e = .returned (prepV 3 s.data.toList) ∧ Below w.heap.size w w' := by
  have HP := Lib.hid (rprep_any 3 3 rfl (.inr (.inr rfl)) s w hs)
  obtain ⟨a, n, h⟩ := prepV_parts 3 s.data.toList
  rw [h] at HP ⊢
  clear h
  go_enter Tryz.func96, Tryz.ntmps96
  go_wp2_with fail
  refine HP.out.mono ?_
  rintro e w1 ⟨rfl, b1⟩
  go_wp2_with fail
  go_ret2
  exact ⟨rfl, b1⟩
end Go.Proofs.YtogjhpcjjmcjfaaGreatDoor
end
section
/- what is reached of it -/
namespace Go.Proofs.YtogjhpcjjmcjfaaGreatDoor
open Go.RowKit Tx
theorem low_zero_iff (x : List Nat) : (low x = 0) ↔ ∀ i, i < x.length → 32 ≤ x.getD i 0 := by
  rw [low_def]
  constructor
  · intro h i hi
    rcases Nat.lt_or_ge (x.getD i 0) 32 with hc | hc
    · exfalso
      have hm : x.getD i 0 ∈ x.filter (fun c => decide (c < 32)) := by
        rw [List.mem_filter]
        refine ⟨?_, by simpa using hc⟩
        rw [List.getD, List.getElem?_eq_getElem hi]
        exact List.getElem_mem hi
      rw [List.eq_nil_of_length_eq_zero h] at hm
      cases hm
    · exact hc
  · intro h
    refine List.length_eq_zero_iff.2 (List.filter_eq_nil_iff.2 fun a ha => ?_)
    obtain ⟨i, hi, rfl⟩ := List.getElem_of_mem ha
    have := h i hi
    rw [List.getD, List.getElem?_eq_getElem hi] at this
    simpa using this

set_option maxHeartbeats 1000000 in
/-- The document's Line. -/
theorem rline_any (s : ByteArray) (most : Int) (w : World) (hs : s.size < 10000000000000) :
    Calls Tryz.prog 36 #[.string s, .int .i64 most] w fun e w' => e = .returned (.bool (line s.data.toList most)) ∧ Below w.heap.size w w' := by
  have HR := Lib.hid (rrunes_any s w hs)
  have HV := Lib.hid (fun W => rvalid_any s W hs)
  obtain ⟨x, hx⟩ : ∃ x, runes s.data.toList = x := ⟨_, rfl⟩
  have hrl := runes_length s.data.toList
  rw [← Lib.size_eq, hx] at hrl
  have hR : Hid (∀ e w', RRunes w.heap.size w s.data.toList e w' → ∃ v, e = .returned v ∧ Owned w.heap.size w' v x ∧ Below w.heap.size w w') := fun e w' ⟨v, h1, h2, h3⟩ => ⟨v, h1, by rw [← hx]; exact h2, h3⟩
  obtain ⟨b, hb⟩ : ∃ b, valid s.data.toList = b := ⟨_, rfl⟩
  obtain ⟨r, hr⟩ : ∃ r, line s.data.toList most = r := ⟨_, rfl⟩
  have hlow : Hid (r = (b && (low x == 0) && decide ((x.length : Int) ≤ most))) := by
    unfold Hid
    rw [← hr, ← hb, ← hx]
    cases h : ch s.data.toList with
    | none => rw [line_none h, valid_none h]; rfl
    | some y => rw [line_some h, valid_some h, runes_some h]; rfl
  rw [hb] at HV
  rw [hr]
  clear hx hb hr
  go_enter Tryz.func36, Tryz.ntmps36
  go_wp2_with (go_at_call 60; refine HR.out.mono ?_; intro e w1 hd; obtain ⟨v, rfl, hown, hbw⟩ := hR.out _ _ hd)
  obtain ⟨A, cap, hv, hcell⟩ := hown.reads
  subst hv
  go_wp2_with fail
  go_loop [6] (fun i => ∃ k : Nat, k ≤ x.length ∧ i = .int .i64 k ∧ Hid (∀ j, j < k → 32 ≤ x.getD j 0)) (fun i => x.length - (intOf i).toNat)
  case atStart => exact ⟨0, Nat.zero_le _, rfl, fun j hj => absurd hj (by omega)⟩
  case round =>
    obtain ⟨k, hk, rfl, hall⟩ := hrel
    by_cases hlt : k < x.length
    · obtain ⟨ad, rfl, hlb, hc⟩ := hcell (by omega)
      have c1 := hc k hlt
      obtain ⟨p, hp⟩ : ∃ p, x.getD k 0 = p := ⟨_, rfl⟩
      rw [hp] at c1
      have HP := Lib.hid hp
      clear hp hc hcell
      by_cases hp32 : (p : Int) < 32
      · have hr : Hid (r = false) := by
          unfold Hid
          rw [hlow.out]
          have : (low x == 0) = false := by
            cases h : low x == 0 with
            | false => rfl
            | true =>
              have := (low_zero_iff x).1 (eq_of_beq h) k hlt
              rw [HP.out] at this
              omega
          rw [this]; simp
        go_wp2_with fail
        go_ret
        exact ⟨ret_bool hr.out.symm, hbw⟩
      · go_wp2_with fail
        go_round
        case rel =>
          refine ⟨k + 1, by omega, by go_num, fun j hj => ?_⟩
          rcases Nat.lt_or_ge j k with h | h
          · exact hall.out j h
          · rw [show j = k by omega, HP.out]; omega
        case measure => simp [intOf]; omega
    · have hke : k = x.length := by omega
      have hz : (low x == 0) = true := by
        rw [beq_iff_eq, low_zero_iff]
        rw [← hke]; exact hall.out
      have hr : Hid (r = (b && decide ((x.length : Int) ≤ most))) := by unfold Hid; rw [hlow.out, hz, Bool.and_true]
      clear hke hz hcell
      cases b with
      | false =>
        go_wp2_with (go_at_call 61; refine (HV.out _).mono ?_; rintro e w2 ⟨rfl, rfl⟩)
        go_ret
        exact ⟨ret_bool (by rw [hr.out]; rfl), hbw⟩
      | true =>
        go_wp2_with (go_at_call 61; refine (HV.out _).mono ?_; rintro e w2 ⟨rfl, rfl⟩)
        go_ret
        exact ⟨ret_bool (by rw [hr.out]; rfl), hbw⟩
end Go.Proofs.YtogjhpcjjmcjfaaGreatDoor
end
