import Derived.Test.YtbgaglcgennhiaaGreatDoorB06
/- what is reached of it -/
namespace Go.Proofs.YtbgaglcgennhiaaGreatDoor
open Go.RowKit Go.Sort Sy
/-- What is asked of the function that holds two against each other. -/
def CmpS (g : Nat) (cb : Array Value) (cf : ByteArray → ByteArray → Int) (W0 : World) (B : Nat) : Prop :=
  ∀ (D : Array ByteArray) (W : World), St encS 1 W0 B D W → ∀ x y, Calls Tryz.prog g (#[.string x, .string y] ++ cb) W fun e w' => e = .returned (.int .i64 (cf x y)) ∧ Below W.heap.size W w'
set_option maxHeartbeats 4000000 in
set_option maxRecDepth 100000 in
theorem insertionS_any (lt : ByteArray → ByteArray → Bool) (hW : Weak lt) (cf : ByteArray → ByteArray → Int) (hcf : ∀ x y, lt x y = decide (cf x y < 0)) (g : Nat) (cb : Array Value) (eg : ∀ args w, (callFunc g args).run Tryz.prog w = .ok (.enter g args) w)
    (X S Y : List ByteArray) (a b len cap : Nat) (W0 W : World) (B : Nat) (hC : CmpS g cb cf W0 B) (hl : (X ++ S ++ Y).length = len) (hlen : len ≤ 1000000000) (ha : X.length = a) (hb : a + S.length = b) (hS : St encS 1 W0 B (X ++ S ++ Y).toArray W) :
    Calls Tryz.prog 285 #[.slice (some ⟨B, 0, none⟩) len cap, .int .i64 a, .int .i64 b, .func (.func g) #[] cb] W fun e w' => e = .returned (.tuple #[]) ∧ St encS 1 W0 B (X ++ sortS lt S ++ Y).toArray w' := by
  obtain ⟨T, hT⟩ : ∃ T, (X ++ sortS lt S ++ Y).toArray = T := ⟨_, rfl⟩
  rw [hT]
  have HT := Lib.hid hT
  have HC := Lib.hid hC
  have HS := Lib.hid hS
  have HL := Lib.hid hl
  have HA := Lib.hid ha
  have HB := Lib.hid hb
  have HW := Lib.hid hW
  have HCF := Lib.hid hcf
  have hbl : b ≤ len := by rw [← hl]; simp; omega
  have hab : a ≤ b := by omega
  have wa : IntKind.i64.wrap ((a : Int) + 1) = (a : Int) + 1 := by rw [IntKind.wrap_i64]; omega
  clear hC hS hl ha hb hW hcf hT
  go_enter Tryz.func285, Tryz.ntmps285
  go_wp2_with fail
  go_loopw [8] (fun iv wr => ∃ (i : Nat) (D : Array ByteArray), iv = .int .i64 (i : Nat) ∧ a < i ∧ i ≤ b + 1 ∧ Hid (OutR lt X S Y i D) ∧ Hid (St encS 1 W0 B D wr)) (fun iv _ => b + 1 - (intOf iv).toNat)
  case atStart => exact ⟨a + 1, _, by go_num, by omega, by omega, by rw [← HA.out]; exact OutR.start X S Y, HS.out⟩
  case round =>
    clear HS
    obtain ⟨i, D, rfl, hai, hib, HO, SD⟩ := hrel
    by_cases hlt : i < b
    · have hltz : (i : Int) < (b : Int) := by omega
      obtain ⟨x, hx, hI⟩ := HO.out.inner (by rw [HA.out]; exact hai) (by rw [HA.out, HB.out]; exact hlt)
      have HX := Lib.hid hx
      have HI := Lib.hid hI
      have hUp := Lib.hid (sortS_up HW.out (S.take (i - X.length)))
      have HZ : Hid (X.length + (sortS lt (S.take (i - X.length))).length + 1 + (S.drop (i - X.length + 1) ++ Y).length = len) := by
        unfold Hid
        have := HL.out
        simp only [List.length_append, sortS_len, List.length_take, List.length_drop] at this ⊢
        have h1 := HA.out
        have h2 := HB.out
        omega
      have hNX : Hid (OutR lt X S Y (i + 1) (X ++ insS lt x (sortS lt (S.take (i - X.length))) ++ (S.drop (i - X.length + 1) ++ Y)).toArray) := OutR.next (by rw [HA.out]; exact hai) hx
      obtain ⟨L, hL⟩ : ∃ L, sortS lt (S.take (i - X.length)) = L := ⟨_, rfl⟩
      obtain ⟨Z, hZ⟩ : ∃ L, S.drop (i - X.length + 1) ++ Y = L := ⟨_, rfl⟩
      rw [hL, hZ] at HI hNX HZ
      rw [hL] at hUp
      have wi : IntKind.i64.wrap ((i : Int) + 1) = (i : Int) + 1 := by rw [IntKind.wrap_i64]; omega
      have hil : i < len := by omega
      clear hx hI hL hZ HO
      go_wp2_with fail
      go_loopw [9] (fun jv wr => ∃ (j : Nat) (E : Array ByteArray), jv = .int .i64 (j : Nat) ∧ a ≤ j ∧ j ≤ i ∧ Hid (InsR lt X x L Z j E) ∧ Hid (St encS 1 W0 B E wr)) (fun jv _ => (intOf jv).toNat)
      case atStart => exact ⟨i, D, rfl, by omega, Nat.le_refl _, HI, SD⟩
      case round =>
        clear SD HI
        obtain ⟨j, E, rfl, haj, hji, HJ, SE⟩ := hrel
        have hEl : E.size = len := HJ.out.size.1.trans HZ.out
        by_cases hja : a < j
        · obtain ⟨p, hq⟩ : ∃ p, p + 1 = j := ⟨j - 1, by omega⟩
          have wq : IntKind.i64.wrap ((j : Int) - 1) = (p : Int) := by rw [IntKind.wrap_i64]; omega
          have hgq : (a : Int) < (j : Int) := by omega
          have hgd : decide ((a : Int) < (j : Int)) = true := decide_eq_true hgq
          have hgd2 : decide ((j : Int) > (a : Int)) = true := decide_eq_true hgq
          have hpl : p < len := by omega
          have hql : j < len := by omega
          have cp : ∀ v : Bel wr, v.v.cell? ⟨B, p, none⟩ = some (.string E[p]!) := fun v => ((SE.out.bel v).cell p (by rw [hEl]; exact hpl)).1
          have cq : ∀ v : Bel wr, v.v.cell? ⟨B, j, none⟩ = some (.string E[j]!) := fun v => ((SE.out.bel v).cell j (by rw [hEl]; exact hql)).1
          have hcm : ∀ v : Bel wr, Calls Tryz.prog g (#[.string E[j]!, .string E[p]!] ++ cb) v.v fun e w' => e = .returned (.int .i64 (cf E[j]! E[p]!)) ∧ Below v.v.heap.size v.v w' := fun v => HC.out E v.v (SE.out.bel v) _ _
          have SW1 : Hid (∀ w2, Below wr.heap.size wr w2 → St encS 1 W0 B (swp E j p) ((w2.setCell ⟨B, j, none⟩ (.string E[p]!)).setCell ⟨B, p, none⟩ (.string E[j]!))) := fun w2 h2 => (SE.out.below h2).swapS j p (by rw [hEl]; exact hql) (by rw [hEl]; exact hpl)
          have CL : Hid (∀ w2, Below wr.heap.size wr w2 → (w2.cell? ⟨B, p, none⟩ = some (.string E[p]!) ∧ w2.frozen? ⟨B, p, none⟩ = false) ∧ (w2.cell? ⟨B, j, none⟩ = some (.string E[j]!) ∧ w2.frozen? ⟨B, j, none⟩ = false) ∧ (w2.setCell ⟨B, j, none⟩ (.string E[p]!)).cell? ⟨B, p, none⟩ = some (.string E[p]!)) := fun w2 h2 =>
            ⟨(SE.out.below h2).cell p (by rw [hEl]; exact hpl), (SE.out.below h2).cell j (by rw [hEl]; exact hql), by rw [World.cell?_setCell_other _ _ _ _ (by simp)]; exact ((SE.out.below h2).cell p (by rw [hEl]; exact hpl)).1⟩
          have hlq := HCF.out E[j]! E[p]!
          have hst : Hid (lt E[j]! E[p]! = true → InsR lt X x L Z p (swp E j p)) := fun h => by
            have := HJ.out.step (by rw [HA.out]; omega) (by rw [show j - 1 = p by omega]; exact h)
            rwa [show j - 1 = p by omega] at this
          have hsp : Hid (lt E[j]! E[p]! = false → E = (X ++ insS lt x L ++ Z).toArray) := fun h => HJ.out.stop HW.out hUp.out (Or.inr (by rw [show j - 1 = p by omega]; exact h))
          obtain ⟨s, hs⟩ : ∃ s, E[j]! = s := ⟨_, rfl⟩
          obtain ⟨t, ht⟩ : ∃ s, E[p]! = s := ⟨_, rfl⟩
          rw [hs, ht] at hcm SW1 CL hlq hst hsp
          rw [ht] at cp
          rw [hs] at cq
          have hip : p < i := by omega
          have hpa : a ≤ p := by omega
          have HQP : Hid (p + 1 = j) := hq
          clear hs ht hq
          by_cases hc : cf s t < 0
          · have hcd : decide (cf s t < 0) = true := decide_eq_true hc
            have hL2 : Hid (lt s t = true) := by unfold Hid; rw [hlq]; exact hcd
            clear hlq
            go_wp2_with fail
            refine wp_region_quiet_bel (by kernel_rfl) (by kernel_rfl) ?_
            repeat (quiet_step (first | (go_at_fn g; exact Calls.bel_of (hcm _))))
            refine wpQuiet_nil ?_
            intro w2 hw'
            have hb2 : Below wr.heap.size wr w2 := by obtain ⟨v, rfl⟩ := hw'; exact v.h
            clear hw'
            obtain ⟨⟨c1, c2⟩, ⟨c3, c4⟩, c5⟩ := CL.out w2 hb2
            have SW2 := Lib.hid (SW1.out w2 hb2)
            have hR := Lib.hid (hst.out hL2.out)
            clear cp cq hcm CL SW1 hst hsp SE HJ
            go_wp2_with fail
            go_region
            have S3 := Lib.hid SW2.out.drew
            go_wp2_with fail
            go_roundw
            case rel => exact ⟨p, _, rfl, hpa, by omega, hR, S3⟩
            case measure => have := HQP.out; simp [intOf]; omega
          · have hcd : decide (cf s t < 0) = false := decide_eq_false hc
            have hL2 : Hid (lt s t = false) := by unfold Hid; rw [hlq]; exact hcd
            clear hlq
            go_wp2_with fail
            refine wp_region_quiet_bel (by kernel_rfl) (by kernel_rfl) ?_
            repeat (quiet_step (first | (go_at_fn g; exact Calls.bel_of (hcm _))))
            refine wpQuiet_nil ?_
            intro w2 hw'
            have hb2 : Below wr.heap.size wr w2 := by obtain ⟨v, rfl⟩ := hw'; exact v.h
            clear hw'
            have S3 := Lib.hid (SE.out.below hb2)
            have hE := Lib.hid (hsp.out hL2.out)
            clear cp cq hcm CL SW1 hst hsp SE HJ
            go_wp2_with fail
            go_roundw
            case rel => exact ⟨i + 1, _, by go_num, by omega, by omega, hNX, by rw [← hE.out]; exact S3.out⟩
            case measure => simp [intOf]; omega
        · have hje : j = a := by omega
          subst hje
          have hg : decide ((j : Int) < (j : Int)) = false := decide_eq_false (by omega)
          have hg2 : ¬ (j : Int) < (j : Int) := by omega
          have hE := Lib.hid (HJ.out.stop HW.out hUp.out (Or.inl (by rw [HA.out]; exact Nat.le_refl _)))
          clear HJ
          go_wp2_with fail
          go_quiet (fail)
          have S3 : Hid (St encS 1 W0 B E (wr.drewN nq)) := SE.out.drewN nq
          go_wp2_with fail
          go_roundw
          case rel => exact ⟨i + 1, _, by go_num, by omega, by omega, hNX, by rw [← hE.out]; exact S3.out⟩
          case measure => simp [intOf]; omega
    · have hltz : ¬ (i : Int) < (b : Int) := by omega
      have hD := HO.out.last (by rw [HA.out, HB.out]; omega)
      go_wp2_with fail
      go_end0
      exact ⟨rfl, by rw [← HT.out, ← hD]; exact SD.out⟩
end Go.Proofs.YtbgaglcgennhiaaGreatDoor
