import Derived.Test.YtogjhpcjjmcjfaaGreatDoorJ24
import Derived.Test.YtogjhpcjjmcjfaaGreatDoorJ13
section
/- what is reached of it -/
namespace Go.Proofs.YtogjhpcjjmcjfaaGreatDoor
open Go.RowKit Tx
def RRunes (B : Nat) (w : World) (l : List UInt8) (e : Ending) (w' : World) : Prop := ∃ v, e = .returned v ∧ Owned B w' v (runes l) ∧ Below B w w'
set_option maxHeartbeats 1000000 in
theorem rrunes_any (s : ByteArray) (w : World) (hs : s.size < 10000000000000) :
    Calls Tryz.prog 60 #[.string s] w (RRunes w.heap.size w s.data.toList) := by
  obtain ⟨i0, hi, hz0, hz1, hz2⟩ := info_parts infoInt
  have hsz := Lib.hid (Lib.size_eq s)
  have HV := Lib.hid (rvalid_any s w hs)
  cases hch : ch s.data.toList with
  | none =>
    have hfin : RRunes w.heap.size w s.data.toList (.returned (.slice none 0 0)) w := ⟨_, rfl, by rw [runes_none hch]; exact Owned.nil _ _, Below.refl _ _⟩
    rw [valid_none hch] at HV
    have HF := Lib.hid hfin
    clear hch hfin
    go_enter Tryz.func60, Tryz.ntmps60
    go_wp2_with (go_at_call 61; refine HV.out.mono ?_; rintro e w' ⟨rfl, rfl⟩)
    go_ret
    exact HF.out
  | some all =>
    rw [valid_some hch] at HV
    have HCH := Lib.hid hch
    clear hch
    go_enter Tryz.func60, Tryz.ntmps60
    go_wp2_with (go_at_call 61; refine HV.out.mono ?_; rintro e w' ⟨rfl, rfl⟩)
    go_loopw [3, 4] (fun v at_ wr => ∃ (k : Nat) (x : List Nat), k ≤ s.size ∧ at_ = .int .i64 k ∧ x.length ≤ k ∧ At s.data.toList k x ∧ Owned w.heap.size wr v x ∧ Below w.heap.size w wr) (fun _ at_ _ => s.size - (intOf at_).toNat)
    case atStart => exact ⟨0, [], Nat.zero_le _, rfl, Nat.le_refl _, At.start _, Owned.nil _ _, Below.refl _ _⟩
    case round =>
      obtain ⟨k, x, hk, rfl, hxk, hat, hown, hb⟩ := hrel
      have hsw := hb.size
      by_cases hlt : k < s.size
      · have hlt' : k < s.data.toList.length := by rw [← hsz.out]; exact hlt
        have hle := nx_le (drop_ne hlt')
        have hru := nx_rune (s.data.toList.drop k)
        rw [List.length_drop, ← hsz.out] at hle
        have HD := Lib.hid (next_any s k wr hs hlt)
        obtain ⟨c, n, hcn⟩ : ∃ c n, Hid (nx (s.data.toList.drop k) = (c, n)) := ⟨_, _, Lib.hid rfl⟩
        have hD : Hid (∀ e w', Nexted wr (s.data.toList.drop k) e w' → e = .returned (.tuple #[.int .i64 c, .int .i64 n]) ∧ wr = w') := fun e w' ⟨h1, h2⟩ => ⟨by rw [h1, hcn.out], h2⟩
        rw [hcn.out] at hle hru
        by_cases hn : n = 0
        · exfalso
          have := hat.bad hlt' (by rw [hcn.out]; exact hn)
          rw [HCH.out] at this
          cases this
        · have hat' := hat.next hlt' (by rw [hcn.out]; exact hn)
          rw [hcn.out] at hat'
          go_wp2_with (first | (go_at_call 79; refine HD.out.mono ?_; intro e w' hd; obtain ⟨rfl, rfl⟩ := hD.out _ _ hd) | (at_builtin; refine wpList_append_own _ rfl _ _ 73 rfl w.heap.size 3 i0 (.int .i64 0) 1 8 Tryz.underlying73 hi hz0 hz1 hz2 rfl (by decide) _ _ _ rfl (World.ownsRow.alloc (show wr.ownsRow w.heap.size 3 1 _ x.length (ints x) from hown) _) ⟨wr.heap.size, 0, none⟩ 1 1 [.int .i64 (c : Nat)] rfl rfl ?c1 ?c2 ?c3 ?c4 ?c5 ?_))
          case c1 =>
            intro j u hj
            match j, hj with
            | 0, hj => simp at hj; subst hj; simp [Addr.add]
          case c2 => intro u hu; simp at hu; subst hu; rfl
          case c3 => unfold maxLen; omega
          case c4 => omega
          case c5 => simp; omega
          intro v' w1 hown' hgrow _
          have R := pushed_of hown hsw hown' hgrow
          clear hown' hgrow
          go_wp2
          go_roundw
          case rel => exact ⟨k + n, x ++ [c], by omega, by go_num, by simp; omega, hat', R.1, hb.trans R.2⟩
          case measure => simp [intOf]; omega
      · have hke : k = s.data.toList.length := by rw [← hsz.out]; omega
        have hx : x = all := by
          have := At.stop (by rw [← hke]; exact hat)
          rw [HCH.out] at this
          exact (Option.some.inj this).symm
        have hr : runes s.data.toList = x := by rw [hx]; exact runes_some HCH.out
        have hown2 := hown
        rw [← hr] at hown2
        clear hke hx hr
        go_wp2_with fail
        go_ret
        exact ⟨_, rfl, hown2, hb⟩
end Go.Proofs.YtogjhpcjjmcjfaaGreatDoor
end
section
/- what is reached of it -/
namespace Go.Proofs.YtogjhpcjjmcjfaaGreatDoor
open Go.RowKit Tx
theorem low_zero_iff (x : List Nat) : (low x = 0) ↔ ∀ i, i < x.length → 32 ≤ x.getD i 0 := by
  rw [low_def]
  constructor
  · intro h i hi
    rcases Nat.lt_or_ge (x.getD i 0) 32 with hc | hc
    · exfalso
      have hm : x.getD i 0 ∈ x.filter (fun c => decide (c < 32)) := by
        rw [List.mem_filter]
        refine ⟨?_, by simpa using hc⟩
        rw [List.getD, List.getElem?_eq_getElem hi]
        exact List.getElem_mem hi
      rw [List.eq_nil_of_length_eq_zero h] at hm
      cases hm
    · exact hc
  · intro h
    refine List.length_eq_zero_iff.2 (List.filter_eq_nil_iff.2 fun a ha => ?_)
    obtain ⟨i, hi, rfl⟩ := List.getElem_of_mem ha
    have := h i hi
    rw [List.getD, List.getElem?_eq_getElem hi] at this
    simpa using this

set_option maxHeartbeats 1000000 in
/-- The document's Line. -/
theorem rline_any (s : ByteArray) (most : Int) (w : World) (hs : s.size < 10000000000000) :
    Calls Tryz.prog 36 #[.string s, .int .i64 most] w fun e w' => e = .returned (.bool (line s.data.toList most)) ∧ Below w.heap.size w w' := by
  have HR := Lib.hid (rrunes_any s w hs)
  have HV := Lib.hid (fun W => rvalid_any s W hs)
  obtain ⟨x, hx⟩ : ∃ x, runes s.data.toList = x := ⟨_, rfl⟩
  have hrl := runes_length s.data.toList
  rw [← Lib.size_eq, hx] at hrl
  have hR : Hid (∀ e w', RRunes w.heap.size w s.data.toList e w' → ∃ v, e = .returned v ∧ Owned w.heap.size w' v x ∧ Below w.heap.size w w') := fun e w' ⟨v, h1, h2, h3⟩ => ⟨v, h1, by rw [← hx]; exact h2, h3⟩
  obtain ⟨b, hb⟩ : ∃ b, valid s.data.toList = b := ⟨_, rfl⟩
  obtain ⟨r, hr⟩ : ∃ r, line s.data.toList most = r := ⟨_, rfl⟩
  have hlow : Hid (r = (b && (low x == 0) && decide ((x.length : Int) ≤ most))) := by
    unfold Hid
    rw [← hr, ← hb, ← hx]
    cases h : ch s.data.toList with
    | none => rw [line_none h, valid_none h]; rfl
    | some y => rw [line_some h, valid_some h, runes_some h]; rfl
  rw [hb] at HV
  rw [hr]
  clear hx hb hr
  go_enter Tryz.func36, Tryz.ntmps36
  go_wp2_with (go_at_call 60; refine HR.out.mono ?_; intro e w1 hd; obtain ⟨v, rfl, hown, hbw⟩ := hR.out _ _ hd)
  obtain ⟨A, cap, hv, hcell⟩ := hown.reads
  subst hv
  go_wp2_with fail
  go_loop [6] (fun i => ∃ k : Nat, k ≤ x.length ∧ i = .int .i64 k ∧ Hid (∀ j, j < k → 32 ≤ x.getD j 0)) (fun i => x.length - (intOf i).toNat)
  case atStart => exact ⟨0, Nat.zero_le _, rfl, fun j hj => absurd hj (by omega)⟩
  case round =>
    obtain ⟨k, hk, rfl, hall⟩ := hrel
    by_cases hlt : k < x.length
    · obtain ⟨ad, rfl, hlb, hc⟩ := hcell (by omega)
      have c1 := hc k hlt
      obtain ⟨p, hp⟩ : ∃ p, x.getD k 0 = p := ⟨_, rfl⟩
      rw [hp] at c1
      have HP := Lib.hid hp
      clear hp hc hcell
      by_cases hp32 : (p : Int) < 32
      · have hr : Hid (r = false) := by
          unfold Hid
          rw [hlow.out]
          have : (low x == 0) = false := by
            cases h : low x == 0 with
            | false => rfl
            | true =>
              have := (low_zero_iff x).1 (eq_of_beq h) k hlt
              rw [HP.out] at this
              omega
          rw [this]; simp
        go_wp2_with fail
        go_ret
        exact ⟨ret_bool hr.out.symm, hbw⟩
      · go_wp2_with fail
        go_round
        case rel =>
          refine ⟨k + 1, by omega, by go_num, fun j hj => ?_⟩
          rcases Nat.lt_or_ge j k with h | h
          · exact hall.out j h
          · rw [show j = k by omega, HP.out]; omega
        case measure => simp [intOf]; omega
    · have hke : k = x.length := by omega
      have hz : (low x == 0) = true := by
        rw [beq_iff_eq, low_zero_iff]
        rw [← hke]; exact hall.out
      have hr : Hid (r = (b && decide ((x.length : Int) ≤ most))) := by unfold Hid; rw [hlow.out, hz, Bool.and_true]
      clear hke hz hcell
      cases b with
      | false =>
        go_wp2_with (go_at_call 61; refine (HV.out _).mono ?_; rintro e w2 ⟨rfl, rfl⟩)
        go_ret
        exact ⟨ret_bool (by rw [hr.out]; rfl), hbw⟩
      | true =>
        go_wp2_with (go_at_call 61; refine (HV.out _).mono ?_; rintro e w2 ⟨rfl, rfl⟩)
        go_ret
        exact ⟨ret_bool (by rw [hr.out]; rfl), hbw⟩
end Go.Proofs.YtogjhpcjjmcjfaaGreatDoor
end
