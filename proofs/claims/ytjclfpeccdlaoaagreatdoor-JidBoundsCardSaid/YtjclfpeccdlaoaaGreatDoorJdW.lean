/-
  cardexlaw07.awake.
-/
import Derived.Test.YtjclfpeccdlaoaaGreatDoorJdP
import Derived.Test.YtjclfpeccdlaoaaGreatDoorJdH
import Derived.Test.YtjclfpeccdlaoaaGreatDoorHolds
namespace Go.Proofs.YtjclfpeccdlaoaaGreatDoor
open Go.RowKit Rg Tx

theorem bare_AB : twoV (Jd.bareL (⟨#[65, 64, 66]⟩ : ByteArray).data.toList) = .tuple #[.string ⟨#[97, 64, 98]⟩, .int .i64 0] := by
  rw [show (⟨#[65, 64, 66]⟩ : ByteArray).data.toList = [65, 64, 66] from rfl, Jd.bare_AB]
  rfl
theorem parse_abC : jidnV (Jd.parseL (⟨#[97, 64, 98, 47, 67]⟩ : ByteArray).data.toList) = .tuple #[.agg #[.string ⟨#[97]⟩, .string ⟨#[98]⟩, .string ⟨#[67]⟩], .int .i64 0] := by
  rw [show (⟨#[97, 64, 98, 47, 67]⟩ : ByteArray).data.toList = [97, 64, 98, 47, 67] from rfl, Jd.parse_abC]
  rfl
theorem text_abC : bts (Jd.textL ((⟨#[97]⟩ : ByteArray).data.toList, (⟨#[98]⟩ : ByteArray).data.toList, (⟨#[67]⟩ : ByteArray).data.toList)) = ⟨#[97, 64, 98, 47, 67]⟩ := by
  rfl
theorem less_ab : Jd.lessL (⟨#[97, 64, 98]⟩ : ByteArray).data.toList (⟨#[98, 64, 98]⟩ : ByteArray).data.toList = true := Jd.less_ab
set_option maxHeartbeats 4000000 in
theorem awake_any (w : World) (hO : Okw w) : Calls Tryz.prog 8 #[] w (Holds w) := by
  have H1 := Lib.hid (bare_any ⟨#[65, 64, 66]⟩ w hO (by decide))
  have H2 := Lib.hid (fun W (h : Below w.heap.size w W) => parse_any ⟨#[97, 64, 98, 47, 67]⟩ W (hO.below h) (by decide))
  have H3 := Lib.hid (fun W => text_any ⟨#[97]⟩ ⟨#[98]⟩ ⟨#[67]⟩ W (by decide) (by decide) (by decide))
  have H4 := Lib.hid (fun W (h : Below w.heap.size w W) => less2_any ⟨#[97, 64, 98]⟩ ⟨#[98, 64, 98]⟩ W (hO.below h) (by decide) (by decide))
  rw [bare_AB] at H1
  rw [parse_abC] at H2
  rw [text_abC] at H3
  rw [less_ab] at H4
  clear hO
  go_enter Tryz.func8, Tryz.ntmps8
  go_wp2_with fail
  refine H1.out.mono ?_
  rintro e w1 ⟨rfl, b1⟩
  have B1 := Lib.hid b1
  clear b1
  go_wp2_with fail
  refine (H2.out w1 B1.out).mono ?_
  rintro e w2 ⟨rfl, b2⟩
  have B2 := Lib.hid (B1.out.trans (b2.mono B1.out.size))
  clear b2
  have B3 : Hid (Below w.heap.size w (w2.alloc (.cells #[.string ⟨#[97]⟩, .string ⟨#[98]⟩, .string ⟨#[67]⟩] 23))) := B2.out.alloc B2.out.size _
  go_wp2_with fail
  refine (H3.out _).mono ?_
  rintro e w4 ⟨rfl, b4⟩
  have B4 := Lib.hid (B3.out.trans (b4.mono B3.out.size))
  clear b4
  go_wp2_with fail
  refine (H4.out w4 B4.out).mono ?_
  rintro e w5 ⟨rfl, b5⟩
  have B5 := Lib.hid (B4.out.trans (b5.mono B4.out.size))
  clear b5
  go_wp2_with fail
  go_ret
  exact ⟨rfl, B5.out⟩
end Go.Proofs.YtjclfpeccdlaoaaGreatDoor
