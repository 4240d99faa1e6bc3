/-
  JidOrder.
-/
import Derived.Test.YtjclfpeccdlaoaaGreatDoorJdW
namespace Go.Proofs.YtjclfpeccdlaoaaGreatDoor
open Go.RowKit Rg Tx

theorem toList_ne {a b : ByteArray} (h : a.data.toList ≠ b.data.toList) : (a.toList == b.toList) = false := by
  rw [toList_data, toList_data]
  simpa using h
theorem toList_eq {a b : ByteArray} (h : a.data.toList = b.data.toList) : a = b := bytes_of h
set_option maxHeartbeats 16000000 in
theorem jidOrder_any (a b c : ByteArray) (w : World) (hO : Okw w) (ha : a.size ≤ 140737488355328) (hb : b.size ≤ 140737488355328) (hc : c.size ≤ 140737488355328) :
    Calls Tryz.prog 5 #[.string a, .string b, .string c] w (Holds w) := by
  have HA := Lib.hid (fun W (h : Below w.heap.size w W) => awake_any W (hO.below h))
  by_cases hlen : a.size + b.size + c.size ≤ 900
  · have hab := Lib.hid (fun W (h : Below w.heap.size w W) => less2_any a b W (hO.below h) (by omega) (by omega))
    have hba := Lib.hid (fun W (h : Below w.heap.size w W) => less2_any b a W (hO.below h) (by omega) (by omega))
    have hbc := Lib.hid (fun W (h : Below w.heap.size w W) => less2_any b c W (hO.below h) (by omega) (by omega))
    have hac := Lib.hid (fun W (h : Below w.heap.size w W) => less2_any a c W (hO.below h) (by omega) (by omega))
    have haa := Lib.hid (fun W (h : Below w.heap.size w W) => less2_any a a W (hO.below h) (by omega) (by omega))
    rw [Jd.less_irr] at haa
    clear hO
    rcases Jd.less_tri a.data.toList b.data.toList with ⟨x1, x2, x3⟩ | ⟨x1, x2, x3⟩ | ⟨x1, x2, x3⟩
    · rw [x1] at hab
      rw [x2] at hba
      have hne := toList_ne x3
      cases hz : Jd.lessL b.data.toList c.data.toList with
      | true =>
        rw [Jd.less_trans x1 hz] at hac
        rw [hz] at hbc
        clear hz x3
        clear x1 x2
        have B0 : Hid (Below w.heap.size w w) := Below.refl _ _
        go_enter Tryz.func5, Tryz.ntmps5
        go_wp2_with fail
        refine (hab.out w B0.out).mono ?_
        rintro e w1 ⟨rfl, b1⟩
        have B1 := Lib.hid (B0.out.trans (b1.mono B0.out.size))
        clear b1
        go_wp2_with fail
        refine (hba.out w1 B1.out).mono ?_
        rintro e w2 ⟨rfl, b2⟩
        have B2 := Lib.hid (B1.out.trans (b2.mono B1.out.size))
        clear b2
        go_wp2_with fail
        refine (hbc.out w2 B2.out).mono ?_
        rintro e w3 ⟨rfl, b3⟩
        have B3 := Lib.hid (B2.out.trans (b3.mono B2.out.size))
        clear b3
        go_wp2_with fail
        refine (HA.out w3 B3.out).mono ?_
        rintro e w4 ⟨rfl, b4⟩
        have B4 := Lib.hid (B3.out.trans (b4.mono B3.out.size))
        clear b4
        go_wp2_with fail
        refine (hac.out w4 B4.out).mono ?_
        rintro e w5 ⟨rfl, b5⟩
        have B5 := Lib.hid (B4.out.trans (b5.mono B4.out.size))
        clear b5
        go_wp2_with fail
        refine (haa.out w5 B5.out).mono ?_
        rintro e w6 ⟨rfl, b6⟩
        have B6 := Lib.hid (B5.out.trans (b6.mono B5.out.size))
        clear b6
        go_wp2_with fail
        go_ret
        exact ⟨rfl, B6.out⟩
      | false =>
        rw [hz] at hbc
        clear hz x3
        clear x1 x2
        have B0 : Hid (Below w.heap.size w w) := Below.refl _ _
        go_enter Tryz.func5, Tryz.ntmps5
        go_wp2_with fail
        refine (hab.out w B0.out).mono ?_
        rintro e w1 ⟨rfl, b1⟩
        have B1 := Lib.hid (B0.out.trans (b1.mono B0.out.size))
        clear b1
        go_wp2_with fail
        refine (hba.out w1 B1.out).mono ?_
        rintro e w2 ⟨rfl, b2⟩
        have B2 := Lib.hid (B1.out.trans (b2.mono B1.out.size))
        clear b2
        go_wp2_with fail
        refine (hbc.out w2 B2.out).mono ?_
        rintro e w3 ⟨rfl, b3⟩
        have B3 := Lib.hid (B2.out.trans (b3.mono B2.out.size))
        clear b3
        go_wp2_with fail
        refine (HA.out w3 B3.out).mono ?_
        rintro e w4 ⟨rfl, b4⟩
        have B4 := Lib.hid (B3.out.trans (b4.mono B3.out.size))
        clear b4
        go_wp2_with fail
        refine (haa.out w4 B4.out).mono ?_
        rintro e w5 ⟨rfl, b5⟩
        have B5 := Lib.hid (B4.out.trans (b5.mono B4.out.size))
        clear b5
        go_wp2_with fail
        go_ret
        exact ⟨rfl, B5.out⟩
    · rw [x1] at hab
      rw [x2] at hba
      have hne := toList_ne x3
      cases hz : Jd.lessL b.data.toList c.data.toList with
      | true =>
        rw [hz] at hbc
        clear hz x3
        clear x1 x2
        have B0 : Hid (Below w.heap.size w w) := Below.refl _ _
        go_enter Tryz.func5, Tryz.ntmps5
        go_wp2_with fail
        refine (hab.out w B0.out).mono ?_
        rintro e w1 ⟨rfl, b1⟩
        have B1 := Lib.hid (B0.out.trans (b1.mono B0.out.size))
        clear b1
        go_wp2_with fail
        refine (hba.out w1 B1.out).mono ?_
        rintro e w2 ⟨rfl, b2⟩
        have B2 := Lib.hid (B1.out.trans (b2.mono B1.out.size))
        clear b2
        go_wp2_with fail
        refine (hbc.out w2 B2.out).mono ?_
        rintro e w3 ⟨rfl, b3⟩
        have B3 := Lib.hid (B2.out.trans (b3.mono B2.out.size))
        clear b3
        go_wp2_with fail
        refine (HA.out w3 B3.out).mono ?_
        rintro e w4 ⟨rfl, b4⟩
        have B4 := Lib.hid (B3.out.trans (b4.mono B3.out.size))
        clear b4
        go_wp2_with fail
        refine (haa.out w4 B4.out).mono ?_
        rintro e w5 ⟨rfl, b5⟩
        have B5 := Lib.hid (B4.out.trans (b5.mono B4.out.size))
        clear b5
        go_wp2_with fail
        go_ret
        exact ⟨rfl, B5.out⟩
      | false =>
        rw [hz] at hbc
        clear hz x3
        clear x1 x2
        have B0 : Hid (Below w.heap.size w w) := Below.refl _ _
        go_enter Tryz.func5, Tryz.ntmps5
        go_wp2_with fail
        refine (hab.out w B0.out).mono ?_
        rintro e w1 ⟨rfl, b1⟩
        have B1 := Lib.hid (B0.out.trans (b1.mono B0.out.size))
        clear b1
        go_wp2_with fail
        refine (hba.out w1 B1.out).mono ?_
        rintro e w2 ⟨rfl, b2⟩
        have B2 := Lib.hid (B1.out.trans (b2.mono B1.out.size))
        clear b2
        go_wp2_with fail
        refine (hbc.out w2 B2.out).mono ?_
        rintro e w3 ⟨rfl, b3⟩
        have B3 := Lib.hid (B2.out.trans (b3.mono B2.out.size))
        clear b3
        go_wp2_with fail
        refine (HA.out w3 B3.out).mono ?_
        rintro e w4 ⟨rfl, b4⟩
        have B4 := Lib.hid (B3.out.trans (b4.mono B3.out.size))
        clear b4
        go_wp2_with fail
        refine (haa.out w4 B4.out).mono ?_
        rintro e w5 ⟨rfl, b5⟩
        have B5 := Lib.hid (B4.out.trans (b5.mono B4.out.size))
        clear b5
        go_wp2_with fail
        go_ret
        exact ⟨rfl, B5.out⟩
    · rw [x1] at hab
      rw [x2] at hba
      obtain rfl := toList_eq x3
      have hsame := same_self a
      cases hz : Jd.lessL a.data.toList c.data.toList with
      | true =>
        rw [hz] at hbc
        clear hz x3
        clear x1 x2
        have B0 : Hid (Below w.heap.size w w) := Below.refl _ _
        go_enter Tryz.func5, Tryz.ntmps5
        go_wp2_with fail
        refine (hab.out w B0.out).mono ?_
        rintro e w1 ⟨rfl, b1⟩
        have B1 := Lib.hid (B0.out.trans (b1.mono B0.out.size))
        clear b1
        go_wp2_with fail
        refine (hba.out w1 B1.out).mono ?_
        rintro e w2 ⟨rfl, b2⟩
        have B2 := Lib.hid (B1.out.trans (b2.mono B1.out.size))
        clear b2
        go_wp2_with fail
        refine (hbc.out w2 B2.out).mono ?_
        rintro e w3 ⟨rfl, b3⟩
        have B3 := Lib.hid (B2.out.trans (b3.mono B2.out.size))
        clear b3
        go_wp2_with fail
        refine (HA.out w3 B3.out).mono ?_
        rintro e w4 ⟨rfl, b4⟩
        have B4 := Lib.hid (B3.out.trans (b4.mono B3.out.size))
        clear b4
        go_wp2_with fail
        refine (haa.out w4 B4.out).mono ?_
        rintro e w5 ⟨rfl, b5⟩
        have B5 := Lib.hid (B4.out.trans (b5.mono B4.out.size))
        clear b5
        go_wp2_with fail
        go_ret
        exact ⟨rfl, B5.out⟩
      | false =>
        rw [hz] at hbc
        clear hz x3
        clear x1 x2
        have B0 : Hid (Below w.heap.size w w) := Below.refl _ _
        go_enter Tryz.func5, Tryz.ntmps5
        go_wp2_with fail
        refine (hab.out w B0.out).mono ?_
        rintro e w1 ⟨rfl, b1⟩
        have B1 := Lib.hid (B0.out.trans (b1.mono B0.out.size))
        clear b1
        go_wp2_with fail
        refine (hba.out w1 B1.out).mono ?_
        rintro e w2 ⟨rfl, b2⟩
        have B2 := Lib.hid (B1.out.trans (b2.mono B1.out.size))
        clear b2
        go_wp2_with fail
        refine (hbc.out w2 B2.out).mono ?_
        rintro e w3 ⟨rfl, b3⟩
        have B3 := Lib.hid (B2.out.trans (b3.mono B2.out.size))
        clear b3
        go_wp2_with fail
        refine (HA.out w3 B3.out).mono ?_
        rintro e w4 ⟨rfl, b4⟩
        have B4 := Lib.hid (B3.out.trans (b4.mono B3.out.size))
        clear b4
        go_wp2_with fail
        refine (haa.out w4 B4.out).mono ?_
        rintro e w5 ⟨rfl, b5⟩
        have B5 := Lib.hid (B4.out.trans (b5.mono B4.out.size))
        clear b5
        go_wp2_with fail
        go_ret
        exact ⟨rfl, B5.out⟩
  · clear hO
    go_enter Tryz.func5, Tryz.ntmps5
    go_wp2_with fail
    refine (HA.out w (Below.refl _ _)).mono ?_
    rintro e w1 ⟨rfl, b1⟩
    go_wp2_with fail
    go_ret
    exact ⟨rfl, b1⟩
end Go.Proofs.YtjclfpeccdlaoaaGreatDoor
