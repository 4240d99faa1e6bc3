/-
  (*strings.Builder).WriteRune ON A BUILDER THAT THE CALL HAS MADE.
-/
import Derived.Test.YtlpjealcmnnbnaaGreatDoorBld
namespace Go.Proofs.YtlpjealcmnnbnaaGreatDoor
open Go.RowKit

set_option maxHeartbeats 1000000 in
set_option maxRecDepth 100000 in
/-- (*strings.Builder).WriteRune -/
theorem bld_rune (b C : Nat) (l : List UInt8) (r : Int) (w : World) (h : Bld b C l w) (hr : 0 ≤ r) (hr1 : r ≤ 2147483647) (hlen : l.length + 4 ≤ 140737488355328 - 4096) :
    Calls Tryz.prog 63 #[.pointer (some ⟨b, 0, none⟩), .int .i32 r] w fun e w' => (∃ n : Int, e = .returned (.tuple #[.int .i64 n, .nilIface])) ∧ Bld b C (l ++ Lib.encodeRune r) w' ∧ Btw b C w w' := by
  have hle := Lib.runeCells_le r
  rw [Lib.runeCells_length] at hle
  go_enter Tryz.func63, Tryz.ntmps63
  go_wp2_with (go_at_call 73; refine (bld_check b C l _ h).mono ?_)
  rintro e w1 ⟨rfl, ⟨v, hb, hown, h3, h4⟩, ht⟩
  obtain ⟨c0, c1, _⟩ := words hb
  have HA := Lib.hid (Tryz.utf8_AppendRune_row C v l.length (Lib.byteCells l) r (by omega) hr1 w1 hown (by omega) h4)
  obtain ⟨a, n, cap, hv⟩ := slice_of hown
  have hn : n = l.length := by
    rcases hown.2 with ⟨e1, e2⟩ | ⟨g, cp, cur, fz, e1, _⟩
    · rw [e1] at hv; cases hv; omega
    · rw [e1] at hv; cases hv; rfl
  subst hn
  have HO := Lib.hid hown
  subst hv
  clear hown
  go_wp2_with (go_at_call 78; refine HA.out.mono ?_)
  rintro e w2 ⟨v', rfl, hown', o, hgrow⟩
  rw [Lib.runeCells_length, ← Lib.byteCells_encodeRune] at hown'
  have R := wrote (more := Lib.encodeRune r) hb HO.out h3 h4 hown' (gtrans (World.grownBy_alloc w1 _ _) hgrow)
  obtain ⟨d0, d1, f1⟩ := words R.1
  obtain ⟨a', n', cap', rfl⟩ := slice_of hown'
  have hb4 : Bk (w2.setCell ⟨b, 1, none⟩ (.slice a' n' cap')) b 91 #[_, .slice a' n' cap'] := R.1.put 1 _
  obtain ⟨g0, g1, _⟩ := words hb4
  have RR := Lib.hid R
  clear R hown' hgrow hb4
  go_wp2_with fail
  go_ret2
  exact ⟨⟨_, rfl⟩, ⟨_, .inr rfl, RR.out.2.1⟩, ht.trans RR.out.2.2⟩
end Go.Proofs.YtlpjealcmnnbnaaGreatDoor
