/-
  package vcard: would a line come back as the property (comesBack)?
-/
import Derived.Test.YtphopnfnjnieaaaGreatDoorVEqA
namespace Go.Proofs.YtphopnfnjnieaaaGreatDoor
open Go.RowKit Vc

/-- Is that line the property, within a card? -/
def comB (l : List UInt8) (p : Pr) : Bool := Tx.valid l && (decide (Tx.clean l) && (!decide (up l = endT) && (decide (ownE l = 0) && decide (propL l = some p))))
set_option maxHeartbeats 4000000 in
set_option maxRecDepth 100000 in
theorem comesBack_any (s : ByteArray) (p : Pr) (u : Value) (w : World) (hT : Tabs w) (hF : Folds w) (hM : MaxL w) (hs : s.size ≤ 1000000000) (hu : ReadA w u p.2.2.1) (hl : p.2.2.1.length ≤ 1000000000) :
    Calls Tryz.prog 45 #[.string s, agP p u] w fun e w' => e = .returned (.bool (comB s.data.toList p)) ∧ Below w.heap.size w w' := by
  have HU := Lib.hid hu
  obtain ⟨UA, ucap, hua, -⟩ := hu
  obtain ⟨un, hun⟩ : ∃ un, p.2.2.1.length = un := ⟨_, rfl⟩
  rw [hun] at hua
  subst hua
  obtain ⟨b0, k0⟩ : ∃ a, bts p.1 = a := ⟨_, rfl⟩
  obtain ⟨b1, k1⟩ : ∃ a, bts p.2.1 = a := ⟨_, rfl⟩
  obtain ⟨b3, k3⟩ : ∃ a, bts p.2.2.2 = a := ⟨_, rfl⟩
  have K0 := Lib.hid k0
  have K1 := Lib.hid k1
  have K3 := Lib.hid k3
  unfold agP
  rw [k0, k1, k3]
  obtain ⟨W1, hW1⟩ : ∃ W1, w.alloc (.cells #[.string b0, .string b1, .slice UA un ucap, .string b3] 41) = W1 := ⟨_, rfl⟩
  obtain ⟨P, hP⟩ : ∃ P, w.heap.size = P := ⟨_, rfl⟩
  have bb1 : Below w.heap.size w W1 := by rw [← hW1]; exact (Below.refl _ _).alloc (Nat.le_refl _) _
  have kk1 : Bk W1 P 41 #[.string b0, .string b1, .slice UA un ucap, .string b3] := by rw [← hW1, ← hP]; exact Bk.new _ _ _
  have BB1 := Lib.hid bb1
  have KK1 := Lib.hid kk1
  have HW1 := Lib.hid hW1
  have HPE := Lib.hid hP
  obtain ⟨l, hll⟩ : ∃ l, s.data.toList = l := ⟨_, rfl⟩
  have HV := valid_any s W1 (hT.below bb1) (by omega)
  have HE := fun (W : World) => hasEnd_any s W (by omega)
  have HI := fun (W : World) (h : Below W1.heap.size W1 W) => is_any s ⟨#[69, 78, 68, 58, 86, 67, 65, 82, 68]⟩ W plain_end ((hT.below bb1).below h) ((hF.below bb1).below h) (by omega)
  have HO := fun (W : World) (h : Below W1.heap.size W1 W) => own_any s W ((hM.below bb1).below h) hs
  rw [hll] at HV HO ⊢
  simp only [hll] at HE HI
  rw [show up (⟨#[69, 78, 68, 58, 86, 67, 65, 82, 68]⟩ : ByteArray).data.toList = endT from up_end] at HI
  obtain ⟨bv, hbv⟩ : ∃ b, Tx.valid l = b := ⟨_, rfl⟩
  obtain ⟨bc, hbc⟩ : ∃ b, decide (Tx.clean l) = b := ⟨_, rfl⟩
  obtain ⟨be, hbe⟩ : ∃ b, decide (up l = endT) = b := ⟨_, rfl⟩
  rw [hbv] at HV
  rw [hbc] at HE
  rw [hbe] at HI
  have HVH := Lib.hid HV
  have HEH := Lib.hid HE
  have HIH := Lib.hid HI
  have HOH := Lib.hid HO
  have hC : comB l p = (bv && (bc && (!be && (decide (ownE l = 0) && decide (propL l = some p))))) := by unfold comB; rw [hbv, hbc, hbe]
  rw [hC]
  obtain ⟨d0, hd0⟩ : ∃ b, (decide (ownE l = 0) && decide (propL l = some p)) = b := ⟨_, rfl⟩
  have HD := Lib.hid hd0
  rw [hd0]
  have HLL : Hid (l.length ≤ 1000000000) := by unfold Hid; rw [← hll, ← Lib.size_eq]; exact hs
  clear HV HE HI HO hT hF hM hs hll hbv hbc hbe k0 k1 k3 hW1 hP bb1 kk1 hC hd0
  go_enter Tryz.func45, Tryz.ntmps45
  go_upto_region 1 with fail
  rw [HW1.out, HPE.out]
  go_wp2_with fail
  refine HVH.out.mono ?_
  rintro e w2 ⟨rfl, b2⟩
  have B2 := Lib.hid b2
  clear b2
  cases bv
  · go_wp2_with fail
    go_ret
    exact ⟨rfl, BB1.out.trans (B2.out.mono BB1.out.size)⟩
  go_wp2_with fail
  refine (HEH.out _).mono ?_
  rintro e w3 ⟨rfl, b3⟩
  have B3 := Lib.hid (B2.out.trans (b3.mono B2.out.size))
  clear b3
  cases bc
  · go_wp2_with fail
    go_ret
    exact ⟨rfl, BB1.out.trans (B3.out.mono BB1.out.size)⟩
  go_wp2_with fail
  refine (HIH.out _ B3.out).mono ?_
  rintro e w4 ⟨rfl, b4⟩
  have B4 := Lib.hid (B3.out.trans (b4.mono B3.out.size))
  clear b4
  cases be
  case' true =>
    go_wp2_with fail
    go_ret
    exact ⟨rfl, BB1.out.trans (B4.out.mono BB1.out.size)⟩
  go_wp2_with fail
  refine (HOH.out _ B4.out).mono ?_
  rintro e w5 ⟨hv, b5⟩
  have HVV := Lib.hid hv
  have B5 := Lib.hid (B4.out.trans (b5.mono B4.out.size))
  clear hv b5
  rcases HVV.out with ⟨q, qu, rfl, hoe, hpp, hown, -, -, -, hql⟩ | ⟨hoe, rfl⟩
  · have hd : d0 = decide (q = p) := by rw [← HD.out, hoe, hpp]; simp
    have HQL : Hid (q.2.2.1.length ≤ l.length) := hql
    have HOW := Lib.hid hown
    obtain ⟨A, cap, rfl⟩ := hown.slice
    obtain ⟨n, hn⟩ : ∃ n, q.2.2.1.length = n := ⟨_, rfl⟩
    obtain ⟨x0, e0⟩ : ∃ a, bts q.1 = a := ⟨_, rfl⟩
    obtain ⟨x1, e1⟩ : ∃ a, bts q.2.1 = a := ⟨_, rfl⟩
    obtain ⟨x3, e3⟩ : ∃ a, bts q.2.2.2 = a := ⟨_, rfl⟩
    have hsp := pr_split q p
    rw [e0, e1, e3, K0.out, K1.out, K3.out] at hsp
    unfold agP
    rw [e0, e1, e3, hn]
    have HRD : Hid (ReadA w5 (.slice A n cap) q.2.2.1) := by have := HOW.out.row.reads; rwa [hn] at this
    clear hown e0 e1 e3 hpp hoe
    go_upto_region 4 with fail
    obtain ⟨W6, hW6⟩ : ∃ W6, w5.alloc (.cells #[.string x0, .string x1, .slice A n cap, .string x3] 41) = W6 := ⟨_, rfl⟩
    obtain ⟨Y, hY⟩ : ∃ Y, w5.heap.size = Y := ⟨_, rfl⟩
    have b6 : Below w5.heap.size w5 W6 := by rw [← hW6]; exact (Below.refl _ _).alloc (Nat.le_refl _) _
    have k6 : Bk W6 Y 41 #[.string x0, .string x1, .slice A n cap, .string x3] := by rw [← hW6, ← hY]; exact Bk.new _ _ _
    have y0 : W6.cell? ⟨Y, 0, none⟩ = some (.string x0) := k6.cell 0
    have y1 : W6.cell? ⟨Y, 1, none⟩ = some (.string x1) := k6.cell 1
    have y2 : W6.cell? ⟨Y, 2, none⟩ = some (.slice A n cap) := k6.cell 2
    have y3 : W6.cell? ⟨Y, 3, none⟩ = some (.string x3) := k6.cell 3
    have bb6 := B5.out.trans (b6.mono B5.out.size)
    have kk6 := KK1.out.below bb6 KK1.out.lt
    have p0 : W6.cell? ⟨P, 0, none⟩ = some (.string b0) := kk6.cell 0
    have p1 : W6.cell? ⟨P, 1, none⟩ = some (.string b1) := kk6.cell 1
    have p2 : W6.cell? ⟨P, 2, none⟩ = some (.slice UA un ucap) := kk6.cell 2
    have p3 : W6.cell? ⟨P, 3, none⟩ = some (.string b3) := kk6.cell 3
    have HS := sEqual_any (.slice A n cap) (.slice UA un ucap) q.2.2.1 p.2.2.1 W6 (HRD.out.below b6) ((HU.out.below BB1.out).below bb6) (Nat.le_trans HQL.out HLL.out) (by omega)
    have BF : Hid (Below w.heap.size w W6) := BB1.out.trans (bb6.mono BB1.out.size)
    obtain ⟨d, hdd⟩ : ∃ d, decide (q.2.2.1 = p.2.2.1) = d := ⟨_, rfl⟩
    rw [hdd] at HS hsp
    have HSH := Lib.hid HS
    have hcs : ∃ e0 e1 e3 : Bool, (x0.toList == b0.toList) = e0 ∧ (x1.toList == b1.toList) = e1 ∧ (x3.toList == b3.toList) = e3 := ⟨_, _, _, rfl, rfl, rfl⟩
    obtain ⟨e0, e1, e3, g0, g1, g3⟩ := hcs
    rw [g0, g1, g3] at hsp
    have HDD : Hid (d0 = (e0 && (e1 && (e3 && d)))) := by unfold Hid; rw [hd, hsp]
    rw [hW6, hY]
    clear HS hW6 hY b6 k6 bb6 kk6 hdd hsp hd hn
    have hc2 : e0 = false ∨ (e0 = true ∧ (e1 = false ∨ (e1 = true ∧ (e3 = false ∨ e3 = true)))) := by cases e0 <;> cases e1 <;> cases e3 <;> simp
    rcases hc2 with rfl | ⟨rfl, rfl | ⟨rfl, rfl | rfl⟩⟩
    case' inr.inr.inr =>
      go_wp2_with (go_at_call 64; refine HSH.out.mono ?_; rintro e w7 ⟨rfl, b7⟩)
      go_ret
      exact ⟨by rw [HDD.out]; rfl, BF.out.trans (b7.mono BF.out.size)⟩
    all_goals
      go_wp2_with fail
      go_ret
      exact ⟨by rw [HDD.out]; rfl, BF.out⟩
  · have hd : d0 = false := by rw [← HD.out, decide_eq_false hoe, Bool.false_and]
    subst hd
    obtain ⟨z, hz⟩ : ∃ z : Int, ((ownE l : Nat) : Int) = z := ⟨_, rfl⟩
    have gz : (z == 0) = false := beq_eq_false_iff_ne.2 (by omega)
    rw [hz]
    clear hz hoe
    go_wp2_with fail
    go_ret
    exact ⟨rfl, (BB1.out.trans (B5.out.mono BB1.out.size)).alloc (Nat.le_trans BB1.out.size B5.out.size) _⟩
theorem may_com (p : Pr) : comB (lineT p) p = mayB p := by
  unfold comB mayB
  have hc : decide (Tx.clean (lineT p)) = (lineT p).all (fun c => c != 10 && c != 13) := by
    rw [Bool.eq_iff_iff, decide_eq_true_eq, List.all_eq_true]
    unfold Tx.clean
    simp only [Bool.and_eq_true, bne_iff_ne]
  rw [hc]
  by_cases hp : propL (lineT p) = some p
  · have ho : decide (ownE (lineT p) = 0) = (decide (p.2.1 ≠ beginN) && decide (p.2.1 ≠ versN)) := by
      unfold ownE
      rw [hp]
      simp only [ownN]
      by_cases h1 : p.2.1 = beginN <;> by_cases h2 : p.2.1 = versN <;> simp [h1, h2]
    rw [ho, decide_eq_true hp]
    cases Tx.valid (lineT p) <;> cases (lineT p).all (fun c => c != 10 && c != 13) <;> cases decide (p.2.1 ≠ beginN) <;> cases decide (p.2.1 ≠ versN) <;> by_cases he : up (lineT p) = endT <;> simp [he]
  · rw [decide_eq_false hp, Bool.and_false, Bool.and_false, Bool.and_false, Bool.and_false]
    simp
end Go.Proofs.YtphopnfnjnieaaaGreatDoor
