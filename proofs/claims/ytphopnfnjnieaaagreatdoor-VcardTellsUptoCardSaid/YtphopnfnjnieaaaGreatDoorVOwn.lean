/-
  package vcard: the property that a line is, within a card (own); a line, by where it stands (opened, checked, take).
-/
import Derived.Test.YtphopnfnjnieaaaGreatDoorVPty
import Derived.Test.YtphopnfnjnieaaaGreatDoorVAdd
namespace Go.Proofs.YtphopnfnjnieaaaGreatDoor
open Go.RowKit Vc

abbrev agZ : Value := .agg #[.string ⟨#[]⟩, .string ⟨#[]⟩, .slice none 0 0, .string ⟨#[]⟩]
/-- Is a name one that a card has of its own? -/
def ownN (n : List UInt8) : Bool := decide (n = beginN) || decide (n = versN)
/-- What own answers: why the line is none (0: it is one). -/
def ownE (l : List UInt8) : Nat := match propL l with
  | none => 17
  | some p => if ownN p.2.1 = true then 20 else 0
/-- The property's parts are no longer than the line. -/
def Within (p : Pr) (n : Nat) : Prop := p.1.length ≤ n ∧ p.2.1.length ≤ n ∧ p.2.2.2.length ≤ n ∧ p.2.2.1.length ≤ n
def OwnV (B : Nat) (l : List UInt8) (e : Ending) (w' : World) : Prop :=
  (∃ (p : Pr) (u : Value), e = .returned (.tuple #[agP p u, .int .i64 0]) ∧ ownE l = 0 ∧ propL l = some p ∧ OwnA B w' u p.2.2.1 ∧ Within p l.length) ∨ (ownE l ≠ 0 ∧ e = .returned (.tuple #[agZ, .int .i64 (ownE l : Nat)]))
theorem bts_eq (a b : List UInt8) : ((bts a).toList == b) = decide (a = b) := by
  rw [ByteArray.toList_mk, Bool.eq_iff_iff]
  simp
set_option maxHeartbeats 4000000 in
set_option maxRecDepth 100000 in
/-- vcard.own -/
theorem own_any (s : ByteArray) (w : World) (hM : MaxL w) (hs : s.size ≤ 1000000000) :
    Calls Tryz.prog 38 #[.string s] w fun e w' => OwnV w.heap.size s.data.toList e w' ∧ Below w.heap.size w w' := by
  obtain ⟨l, hl⟩ : ∃ l, s.data.toList = l := ⟨_, rfl⟩
  have HP := Lib.hid (fun (W : World) (h : Below w.heap.size w W) => property_any s W (hM.below h) hs)
  rw [hl] at HP ⊢
  clear hM hs hl
  go_enter Tryz.func38, Tryz.ntmps38
  go_wp2_with fail
  refine (HP.out _ ((Below.refl _ w).alloc (Nat.le_refl _) _)).mono ?_
  rintro e w1 ⟨hv, b1⟩
  have HV := Lib.hid hv
  have K1 := Lib.hid ((Bk.new w 41 #[.string ⟨#[]⟩, .string ⟨#[]⟩, .slice none 0 0, .string ⟨#[]⟩]).below b1 (Bk.new _ _ _).lt)
  have B1 : Hid (Below w.heap.size w w1) := ((Below.refl _ w).alloc (Nat.le_refl _) _).trans (b1.mono (by simp))
  have HZ0 : Hid (w.heap.size ≤ (w.alloc (.cells #[.string ⟨#[]⟩, .string ⟨#[]⟩, .slice none 0 0, .string ⟨#[]⟩] 41)).heap.size) := by unfold Hid; simp
  clear hv b1
  rcases HV.out with ⟨p, u, rfl, hp, hown, hl1, hl2, hl3, hl4⟩ | ⟨hp, rfl⟩
  · obtain ⟨A, cap, rfl⟩ := hown.slice
    have HO : Hid (OwnA w.heap.size w1 (.slice A p.2.2.1.length cap) p.2.2.1) := hown.weak HZ0.out
    have HLL : Hid (Within p l.length) := ⟨hl1, hl2, hl3, hl4⟩
    obtain ⟨n, hn⟩ : ∃ n, p.2.2.1.length = n := ⟨_, rfl⟩
    obtain ⟨x0, e0⟩ : ∃ a, bts p.1 = a := ⟨_, rfl⟩
    obtain ⟨x1, e1⟩ : ∃ a, bts p.2.1 = a := ⟨_, rfl⟩
    obtain ⟨x3, e3⟩ : ∃ a, bts p.2.2.2 = a := ⟨_, rfl⟩
    have E0 := Lib.hid e0
    have E1 := Lib.hid e1
    have E3 := Lib.hid e3
    have HN := Lib.hid hn
    have HPP := Lib.hid hp
    have hb : (x1.toList == [66, 69, 71, 73, 78]) = decide (p.2.1 = beginN) := by rw [← e1]; exact bts_eq _ _
    have hvn : (x1.toList == [86, 69, 82, 83, 73, 79, 78]) = decide (p.2.1 = versN) := by rw [← e1]; exact bts_eq _ _
    rw [hn] at HO
    unfold agP
    rw [e0, e1, e3, hn]
    clear hown hl1 hl2 hl3 hl4 e0 e1 e3 hn hp
    go_upto_region 2 with fail
    obtain ⟨W2, hW2⟩ : ∃ W2, w1.alloc (.cells #[.string x0, .string x1, .slice A n cap, .string x3] 41) = W2 := ⟨_, rfl⟩
    obtain ⟨Y, hY⟩ : ∃ Y, w1.heap.size = Y := ⟨_, rfl⟩
    have b2 : Below w1.heap.size w1 W2 := by rw [← hW2]; exact (Below.refl _ _).alloc (Nat.le_refl _) _
    have k2 : Bk W2 Y 41 #[.string x0, .string x1, .slice A n cap, .string x3] := by rw [← hW2, ← hY]; exact Bk.new _ _ _
    have y0 : W2.cell? ⟨Y, 0, none⟩ = some (.string x0) := k2.cell 0
    have y1 : W2.cell? ⟨Y, 1, none⟩ = some (.string x1) := k2.cell 1
    have y2 : W2.cell? ⟨Y, 2, none⟩ = some (.slice A n cap) := k2.cell 2
    have y3 : W2.cell? ⟨Y, 3, none⟩ = some (.string x3) := k2.cell 3
    have K2 := Lib.hid (K1.out.below b2 K1.out.lt)
    have B2 : Hid (Below w.heap.size w W2) := B1.out.trans (b2.mono B1.out.size)
    have O2 := Lib.hid (HO.out.below b2)
    rw [hW2, hY]
    clear b2 k2 hW2 hY
    obtain ⟨v0, d0⟩ : ∃ v, W2.cell? ⟨w.heap.size, 0, none⟩ = some v := ⟨_, K2.out.cell 0⟩
    obtain ⟨v1, d1⟩ : ∃ v, W2.cell? ⟨w.heap.size, 1, none⟩ = some v := ⟨_, K2.out.cell 1⟩
    obtain ⟨v2, d2⟩ : ∃ v, W2.cell? ⟨w.heap.size, 2, none⟩ = some v := ⟨_, K2.out.cell 2⟩
    obtain ⟨v3, d3⟩ : ∃ v, W2.cell? ⟨w.heap.size, 3, none⟩ = some v := ⟨_, K2.out.cell 3⟩
    have f0 : W2.frozen? ⟨w.heap.size, 0, none⟩ = false := K2.out.free 0
    have f1 : W2.frozen? ⟨w.heap.size, 1, none⟩ = false := K2.out.free 1
    have f2 : W2.frozen? ⟨w.heap.size, 2, none⟩ = false := K2.out.free 2
    have f3 : W2.frozen? ⟨w.heap.size, 3, none⟩ = false := K2.out.free 3
    by_cases hbg : p.2.1 = beginN
    · have hoe : Hid (ownE l = 20) := by unfold Hid ownE; rw [HPP.out]; simp only [ownN, hbg]; rfl
      rw [decide_eq_true hbg] at hb
      clear hbg hvn
      go_wp2_with fail
      have KF := Bk.four K2.out ⟨_, _, _, _, rfl⟩ (.string ⟨#[]⟩) (.string ⟨#[]⟩) (.slice none 0 0) (.string ⟨#[]⟩)
      have q0 : World.cell? (four w.heap.size W2 (.string ⟨#[]⟩) (.string ⟨#[]⟩) (.slice none 0 0) (.string ⟨#[]⟩)) ⟨w.heap.size, 0, none⟩ = some (.string ⟨#[]⟩) := KF.cell 0
      have q1 : World.cell? (four w.heap.size W2 (.string ⟨#[]⟩) (.string ⟨#[]⟩) (.slice none 0 0) (.string ⟨#[]⟩)) ⟨w.heap.size, 1, none⟩ = some (.string ⟨#[]⟩) := KF.cell 1
      have q2 : World.cell? (four w.heap.size W2 (.string ⟨#[]⟩) (.string ⟨#[]⟩) (.slice none 0 0) (.string ⟨#[]⟩)) ⟨w.heap.size, 2, none⟩ = some (.slice none 0 0) := KF.cell 2
      have q3 : World.cell? (four w.heap.size W2 (.string ⟨#[]⟩) (.string ⟨#[]⟩) (.slice none 0 0) (.string ⟨#[]⟩)) ⟨w.heap.size, 3, none⟩ = some (.string ⟨#[]⟩) := KF.cell 3
      refine bodyPost_ret (v := .tuple #[.agg #[.string ⟨#[]⟩, .string ⟨#[]⟩, .slice none 0 0, .string ⟨#[]⟩], .int .i64 20]) (by simp [results, Tryz.results38, go_sem, q0, q1, q2, q3]) rfl ⟨.inr ⟨by rw [hoe.out]; decide, by rw [hoe.out]; rfl⟩, below_four B2.out (Nat.le_refl _) _ _ _ _⟩
    · rw [decide_eq_false hbg] at hb
      by_cases hvs : p.2.1 = versN
      · have hoe : Hid (ownE l = 20) := by unfold Hid ownE; rw [HPP.out]; simp only [ownN, hvs]; rfl
        rw [decide_eq_true hvs] at hvn
        clear hbg hvs
        go_wp2_with fail
        have KF := Bk.four K2.out ⟨_, _, _, _, rfl⟩ (.string ⟨#[]⟩) (.string ⟨#[]⟩) (.slice none 0 0) (.string ⟨#[]⟩)
        have q0 : World.cell? (four w.heap.size W2 (.string ⟨#[]⟩) (.string ⟨#[]⟩) (.slice none 0 0) (.string ⟨#[]⟩)) ⟨w.heap.size, 0, none⟩ = some (.string ⟨#[]⟩) := KF.cell 0
        have q1 : World.cell? (four w.heap.size W2 (.string ⟨#[]⟩) (.string ⟨#[]⟩) (.slice none 0 0) (.string ⟨#[]⟩)) ⟨w.heap.size, 1, none⟩ = some (.string ⟨#[]⟩) := KF.cell 1
        have q2 : World.cell? (four w.heap.size W2 (.string ⟨#[]⟩) (.string ⟨#[]⟩) (.slice none 0 0) (.string ⟨#[]⟩)) ⟨w.heap.size, 2, none⟩ = some (.slice none 0 0) := KF.cell 2
        have q3 : World.cell? (four w.heap.size W2 (.string ⟨#[]⟩) (.string ⟨#[]⟩) (.slice none 0 0) (.string ⟨#[]⟩)) ⟨w.heap.size, 3, none⟩ = some (.string ⟨#[]⟩) := KF.cell 3
        refine bodyPost_ret (v := .tuple #[.agg #[.string ⟨#[]⟩, .string ⟨#[]⟩, .slice none 0 0, .string ⟨#[]⟩], .int .i64 20]) (by simp [results, Tryz.results38, go_sem, q0, q1, q2, q3]) rfl ⟨.inr ⟨by rw [hoe.out]; decide, by rw [hoe.out]; rfl⟩, below_four B2.out (Nat.le_refl _) _ _ _ _⟩
      · have hoe : Hid (ownE l = 0) := by unfold Hid ownE; rw [HPP.out]; simp only [ownN, decide_eq_false hbg, decide_eq_false hvs]; rfl
        rw [decide_eq_false hvs] at hvn
        clear hbg hvs
        go_wp2_with fail
        have KF := Bk.four K2.out ⟨_, _, _, _, rfl⟩ (.string x0) (.string x1) (.slice A n cap) (.string x3)
        have q0 : World.cell? (four w.heap.size W2 (.string x0) (.string x1) (.slice A n cap) (.string x3)) ⟨w.heap.size, 0, none⟩ = some (.string x0) := KF.cell 0
        have q1 : World.cell? (four w.heap.size W2 (.string x0) (.string x1) (.slice A n cap) (.string x3)) ⟨w.heap.size, 1, none⟩ = some (.string x1) := KF.cell 1
        have q2 : World.cell? (four w.heap.size W2 (.string x0) (.string x1) (.slice A n cap) (.string x3)) ⟨w.heap.size, 2, none⟩ = some (.slice A n cap) := KF.cell 2
        have q3 : World.cell? (four w.heap.size W2 (.string x0) (.string x1) (.slice A n cap) (.string x3)) ⟨w.heap.size, 3, none⟩ = some (.string x3) := KF.cell 3
        refine bodyPost_ret (v := .tuple #[.agg #[.string x0, .string x1, .slice A n cap, .string x3], .int .i64 0]) (by simp [results, Tryz.results38, go_sem, q0, q1, q2, q3]) rfl ⟨.inl ⟨p, .slice A n cap, by unfold agP; rw [E0.out, E1.out, E3.out], hoe.out, HPP.out, O2.out.four K2.out (by decide) _ _ _ _, HLL.out⟩, below_four B2.out (Nat.le_refl _) _ _ _ _⟩
  · have hoe : Hid (ownE l = 17) := by unfold Hid ownE; rw [hp]
    clear hp
    go_upto_region 2 with fail
    obtain ⟨W2, hW2⟩ : ∃ W2, w1.alloc (.cells #[.string ⟨#[]⟩, .string ⟨#[]⟩, .slice none 0 0, .string ⟨#[]⟩] 41) = W2 := ⟨_, rfl⟩
    have b2 : Below w1.heap.size w1 W2 := by rw [← hW2]; exact (Below.refl _ _).alloc (Nat.le_refl _) _
    have K2 := Lib.hid (K1.out.below b2 K1.out.lt)
    have B2 : Hid (Below w.heap.size w W2) := B1.out.trans (b2.mono B1.out.size)
    rw [hW2]
    clear b2 hW2
    obtain ⟨v0, d0⟩ : ∃ v, W2.cell? ⟨w.heap.size, 0, none⟩ = some v := ⟨_, K2.out.cell 0⟩
    obtain ⟨v1, d1⟩ : ∃ v, W2.cell? ⟨w.heap.size, 1, none⟩ = some v := ⟨_, K2.out.cell 1⟩
    obtain ⟨v2, d2⟩ : ∃ v, W2.cell? ⟨w.heap.size, 2, none⟩ = some v := ⟨_, K2.out.cell 2⟩
    obtain ⟨v3, d3⟩ : ∃ v, W2.cell? ⟨w.heap.size, 3, none⟩ = some v := ⟨_, K2.out.cell 3⟩
    have f0 : W2.frozen? ⟨w.heap.size, 0, none⟩ = false := K2.out.free 0
    have f1 : W2.frozen? ⟨w.heap.size, 1, none⟩ = false := K2.out.free 1
    have f2 : W2.frozen? ⟨w.heap.size, 2, none⟩ = false := K2.out.free 2
    have f3 : W2.frozen? ⟨w.heap.size, 3, none⟩ = false := K2.out.free 3
    go_wp2_with fail
    have KF := Bk.four K2.out ⟨_, _, _, _, rfl⟩ (.string ⟨#[]⟩) (.string ⟨#[]⟩) (.slice none 0 0) (.string ⟨#[]⟩)
    have q0 : World.cell? (four w.heap.size W2 (.string ⟨#[]⟩) (.string ⟨#[]⟩) (.slice none 0 0) (.string ⟨#[]⟩)) ⟨w.heap.size, 0, none⟩ = some (.string ⟨#[]⟩) := KF.cell 0
    have q1 : World.cell? (four w.heap.size W2 (.string ⟨#[]⟩) (.string ⟨#[]⟩) (.slice none 0 0) (.string ⟨#[]⟩)) ⟨w.heap.size, 1, none⟩ = some (.string ⟨#[]⟩) := KF.cell 1
    have q2 : World.cell? (four w.heap.size W2 (.string ⟨#[]⟩) (.string ⟨#[]⟩) (.slice none 0 0) (.string ⟨#[]⟩)) ⟨w.heap.size, 2, none⟩ = some (.slice none 0 0) := KF.cell 2
    have q3 : World.cell? (four w.heap.size W2 (.string ⟨#[]⟩) (.string ⟨#[]⟩) (.slice none 0 0) (.string ⟨#[]⟩)) ⟨w.heap.size, 3, none⟩ = some (.string ⟨#[]⟩) := KF.cell 3
    refine bodyPost_ret (v := .tuple #[.agg #[.string ⟨#[]⟩, .string ⟨#[]⟩, .slice none 0 0, .string ⟨#[]⟩], .int .i64 17]) (by simp [results, Tryz.results38, go_sem, q0, q1, q2, q3]) rfl ⟨.inr ⟨by rw [hoe.out]; decide, by rw [hoe.out]; rfl⟩, below_four B2.out (Nat.le_refl _) _ _ _ _⟩
end Go.Proofs.YtphopnfnjnieaaaGreatDoor
