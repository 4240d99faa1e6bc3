/-
  package vcard: a card's first line (checked); a line, by where it stands (take).
-/
import Derived.Test.YtphopnfnjnieaaaGreatDoorVTake
namespace Go.Proofs.YtphopnfnjnieaaaGreatDoor
open Go.RowKit Vc

set_option maxHeartbeats 4000000 in
set_option maxRecDepth 100000 in
/-- (*reading).checked -/
theorem checked_any (B R : Nat) (s : ByteArray) (w : World) (a : List (List Pr)) (c : List Pr) (hM : MaxL w) (hs : s.size ≤ 1000000000) (hR : Rdg B R w (a, some (true, c))) (hBR : B ≤ R) :
    Calls Tryz.prog 36 #[.pointer (some ⟨R, 0, none⟩), .string s] w fun e w' => e = .returned (.int .i64 ((stepV (a, some (true, c)) s.data.toList).1 : Nat)) ∧ Below B w w' ∧ ((stepV (a, some (true, c)) s.data.toList).1 = 0 → Rdg B R w' (stepV (a, some (true, c)) s.data.toList).2) := by
  obtain ⟨l, hl⟩ : ∃ l, s.data.toList = l := ⟨_, rfl⟩
  have HP := Lib.hid (property_any s w hM hs)
  rw [hl] at HP ⊢
  obtain ⟨v, us, C, hBC, hC, hk, ⟨u, ho, hp⟩, hr, hn, hc40⟩ := hR
  have HK := Lib.hid hk
  have HO := Lib.hid ho
  have HPc := Lib.hid hp
  have HR := Lib.hid hr
  simp only at HR hn
  rw [if_pos rfl] at HK
  clear hM hs hl hk ho hp hr
  go_enter Tryz.func36, Tryz.ntmps36
  go_wp2_with fail
  refine HP.out.mono ?_
  rintro e w1 ⟨hv, b1⟩
  have HV := Lib.hid hv
  have B1 := Lib.hid b1
  clear hv b1
  rcases HV.out with ⟨p, pu, rfl, hpp, hown, -, -, -, -⟩ | ⟨hpp, rfl⟩
  · obtain ⟨A, cap, rfl⟩ := hown.slice
    obtain ⟨n, hn2⟩ : ∃ n, p.2.2.1.length = n := ⟨_, rfl⟩
    obtain ⟨x0, e0⟩ : ∃ a, bts p.1 = a := ⟨_, rfl⟩
    obtain ⟨x1, e1⟩ : ∃ a, bts p.2.1 = a := ⟨_, rfl⟩
    obtain ⟨x3, e3⟩ : ∃ a, bts p.2.2.2 = a := ⟨_, rfl⟩
    have HPP := Lib.hid hpp
    have hvn : (x1.toList == [86, 69, 82, 83, 73, 79, 78]) = decide (p.2.1 = versN) := by rw [← e1]; exact bts_eq _ _
    have hfo : (x3.toList == [52, 46, 48]) = decide (p.2.2.2 = fourT) := by rw [← e3]; exact bts_eq _ _
    unfold agP
    rw [e0, e1, e3, hn2]
    clear hown e0 e1 e3 hn2 hpp
    go_upto_region 2 with fail
    obtain ⟨W2, hW2⟩ : ∃ W2, w1.alloc (.cells #[.string x0, .string x1, .slice A n cap, .string x3] 41) = W2 := ⟨_, rfl⟩
    obtain ⟨Y, hY⟩ : ∃ Y, w1.heap.size = Y := ⟨_, rfl⟩
    have b2 : Below w1.heap.size w1 W2 := by rw [← hW2]; exact (Below.refl _ _).alloc (Nat.le_refl _) _
    have k2 : Bk W2 Y 41 #[.string x0, .string x1, .slice A n cap, .string x3] := by rw [← hW2, ← hY]; exact Bk.new _ _ _
    have y1 : W2.cell? ⟨Y, 1, none⟩ = some (.string x1) := k2.cell 1
    have y3 : W2.cell? ⟨Y, 3, none⟩ = some (.string x3) := k2.cell 3
    have b2' : Below w.heap.size w W2 := B1.out.trans (b2.mono B1.out.size)
    have B2 := Lib.hid b2'
    have K2 := Lib.hid (HK.out.below b2' HK.out.lt)
    rw [hW2, hY]
    clear b2 b2' k2 hW2 hY
    by_cases hvs : p.2.1 = versN ∧ p.2.2.2 = fourT
    · have hst : Hid (stepV (a, some (true, c)) l = (0, (a, some (false, c)))) := by unfold Hid; simp only [stepV, HPP.out]; rw [if_pos hvs]
      rw [decide_eq_true hvs.1] at hvn
      rw [decide_eq_true hvs.2] at hfo
      obtain ⟨v0, d0⟩ : ∃ v, W2.cell? ⟨R, 0, none⟩ = some v := ⟨_, K2.out.cell 0⟩
      have f0 : W2.frozen? ⟨R, 0, none⟩ = false := K2.out.free 0
      clear hvs
      go_wp2_with fail
      go_ret
      rw [hst.out]
      refine ⟨rfl, (B2.out.mono (Nat.le_trans hBC hC)).setCell (p := ⟨R, 0, none⟩) hBR _, fun _ => ⟨v, us, C, hBC, ?_, ?_, ⟨u, ?_, ?_⟩, ?_, hn, hc40⟩⟩
      · rw [World.size_setCell]; exact Nat.le_trans hC B2.out.size
      · have := K2.out.put 0 (.int .i64 2)
        simpa using this
      · exact (HO.out.keep (keepL_below B2.out)).keep (fun g cs hg => hg.stored K2.out (by decide) _ _)
      · exact (HPc.out.below B2.out).keep (KeepP.set K2.out (by decide) _ _) (KeepA.set K2.out (by decide) _ _)
      · exact (HR.out.below B2.out).keep (Nat.le_refl _) (fun g cs _ hg => hg.stored K2.out (by decide) _ _) (KeepA.set K2.out (by decide) _ _)
    · have hst : Hid (stepV (a, some (true, c)) l = (20, (a, some (true, c)))) := by unfold Hid; simp only [stepV, HPP.out]; rw [if_neg hvs]
      by_cases hv1 : p.2.1 = versN
      · have hv2 : ¬ p.2.2.2 = fourT := fun h => hvs ⟨hv1, h⟩
        rw [decide_eq_true hv1] at hvn
        rw [decide_eq_false hv2] at hfo
        clear hv1 hv2 hvs
        go_wp2_with fail
        go_ret
        rw [hst.out]
        exact ⟨rfl, B2.out.mono (Nat.le_trans hBC hC), fun h => by cases h⟩
      · rw [decide_eq_false hv1] at hvn
        clear hv1 hvs hfo
        go_wp2_with fail
        go_ret
        rw [hst.out]
        exact ⟨rfl, B2.out.mono (Nat.le_trans hBC hC), fun h => by cases h⟩
  · have hst : Hid (stepV (a, some (true, c)) l = (20, (a, some (true, c)))) := by unfold Hid; simp only [stepV, hpp]
    clear hpp
    go_wp2_with fail
    go_ret
    rw [hst.out]
    exact ⟨rfl, (B1.out.alloc B1.out.size _).mono (Nat.le_trans hBC hC), fun h => by cases h⟩
end Go.Proofs.YtphopnfnjnieaaaGreatDoor
