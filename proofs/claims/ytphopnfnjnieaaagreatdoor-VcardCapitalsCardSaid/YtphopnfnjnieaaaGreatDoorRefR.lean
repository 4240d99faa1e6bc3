/-
  THE DOCUMENT's OWN ANSWER, package cardexref01: its Runes.
-/
import Derived.Test.YtphopnfnjnieaaaGreatDoorRefV
import Derived.Test.YtphopnfnjnieaaaGreatDoorIntsO
namespace Go.Proofs.YtphopnfnjnieaaaGreatDoor
open Go.RowKit Tx

def RRunes (B : Nat) (w : World) (l : List UInt8) (e : Ending) (w' : World) : Prop := ∃ v, e = .returned v ∧ Owned B w' v (runes l) ∧ Below B w w'
set_option maxHeartbeats 1000000 in
theorem rrunes_any (s : ByteArray) (w : World) (hs : s.size < 10000000000000) :
    Calls Tryz.prog 53 #[.string s] w (RRunes w.heap.size w s.data.toList) := by
  obtain ⟨i0, hi, hz0, hz1, hz2⟩ := info_parts infoInt
  have hsz := Lib.hid (Lib.size_eq s)
  have HV := Lib.hid (rvalid_any s w hs)
  cases hch : ch s.data.toList with
  | none =>
    have hfin : RRunes w.heap.size w s.data.toList (.returned (.slice none 0 0)) w := ⟨_, rfl, by rw [runes_none hch]; exact Owned.nil _ _, Below.refl _ _⟩
    rw [valid_none hch] at HV
    have HF := Lib.hid hfin
    clear hch hfin
    go_enter Tryz.func53, Tryz.ntmps53
    go_wp2_with (go_at_call 41; refine HV.out.mono ?_; rintro e w' ⟨rfl, rfl⟩)
    go_ret
    exact HF.out
  | some all =>
    rw [valid_some hch] at HV
    have HCH := Lib.hid hch
    clear hch
    go_enter Tryz.func53, Tryz.ntmps53
    go_wp2_with (go_at_call 41; refine HV.out.mono ?_; rintro e w' ⟨rfl, rfl⟩)
    go_loopw [3, 4] (fun v at_ wr => ∃ (k : Nat) (x : List Nat), k ≤ s.size ∧ at_ = .int .i64 k ∧ x.length ≤ k ∧ At s.data.toList k x ∧ Owned w.heap.size wr v x ∧ Below w.heap.size w wr) (fun _ at_ _ => s.size - (intOf at_).toNat)
    case atStart => exact ⟨0, [], Nat.zero_le _, rfl, Nat.le_refl _, At.start _, Owned.nil _ _, Below.refl _ _⟩
    case round =>
      obtain ⟨k, x, hk, rfl, hxk, hat, hown, hb⟩ := hrel
      have hsw := hb.size
      by_cases hlt : k < s.size
      · have hlt' : k < s.data.toList.length := by rw [← hsz.out]; exact hlt
        have hle := nx_le (drop_ne hlt')
        have hru := nx_rune (s.data.toList.drop k)
        rw [List.length_drop, ← hsz.out] at hle
        have HD := Lib.hid (next_any s k wr hs hlt)
        obtain ⟨c, n, hcn⟩ : ∃ c n, Hid (nx (s.data.toList.drop k) = (c, n)) := ⟨_, _, Lib.hid rfl⟩
        have hD : Hid (∀ e w', Nexted wr (s.data.toList.drop k) e w' → e = .returned (.tuple #[.int .i64 c, .int .i64 n]) ∧ wr = w') := fun e w' ⟨h1, h2⟩ => ⟨by rw [h1, hcn.out], h2⟩
        rw [hcn.out] at hle hru
        by_cases hn : n = 0
        · exfalso
          have := hat.bad hlt' (by rw [hcn.out]; exact hn)
          rw [HCH.out] at this
          cases this
        · have hat' := hat.next hlt' (by rw [hcn.out]; exact hn)
          rw [hcn.out] at hat'
          go_wp2_with (first | (go_at_call 62; refine HD.out.mono ?_; intro e w' hd; obtain ⟨rfl, rfl⟩ := hD.out _ _ hd) | (at_builtin; refine wpList_append_own _ rfl _ _ 92 rfl w.heap.size 3 i0 (.int .i64 0) 1 8 Tryz.underlying92 hi hz0 hz1 hz2 rfl (by decide) _ _ _ rfl (World.ownsRow.alloc (show wr.ownsRow w.heap.size 3 1 _ x.length (ints x) from hown) _) ⟨wr.heap.size, 0, none⟩ 1 1 [.int .i64 (c : Nat)] rfl rfl ?c1 ?c2 ?c3 ?c4 ?c5 ?_))
          case c1 =>
            intro j u hj
            match j, hj with
            | 0, hj => simp at hj; subst hj; simp [Addr.add]
          case c2 => intro u hu; simp at hu; subst hu; rfl
          case c3 => unfold maxLen; omega
          case c4 => omega
          case c5 => simp; omega
          intro v' w1 hown' hgrow _
          have R := pushed_of hown hsw hown' hgrow
          clear hown' hgrow
          go_wp2
          go_roundw
          case rel => exact ⟨k + n, x ++ [c], by omega, by go_num, by simp; omega, hat', R.1, hb.trans R.2⟩
          case measure => simp [intOf]; omega
      · have hke : k = s.data.toList.length := by rw [← hsz.out]; omega
        have hx : x = all := by
          have := At.stop (by rw [← hke]; exact hat)
          rw [HCH.out] at this
          exact (Option.some.inj this).symm
        have hr : runes s.data.toList = x := by rw [hx]; exact runes_some HCH.out
        have hown2 := hown
        rw [← hr] at hown2
        clear hke hx hr
        go_wp2_with fail
        go_ret
        exact ⟨_, rfl, hown2, hb⟩
end Go.Proofs.YtphopnfnjnieaaaGreatDoor
