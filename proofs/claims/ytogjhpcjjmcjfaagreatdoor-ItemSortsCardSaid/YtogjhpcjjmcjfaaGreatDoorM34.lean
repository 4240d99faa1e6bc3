import Derived.Test.YtogjhpcjjmcjfaaGreatDoorM33
import Derived.BigQuiet
/- what is reached of it -/
namespace Go.Proofs.YtogjhpcjjmcjfaaGreatDoor
open Go.RowKit Go.Sort Sy Tx Vc Ct
/-- What is asked of the function that holds two against each other. -/
def CmpI (g : Nat) (cb : Array Value) (cf : ItOk → ItOk → Int) (W0 : World) (B : Nat) : Prop :=
  ∀ (D : Array ItOk) (W : World), St encIt 6 W0 B D W → ∀ x y, Calls Tryz.prog g (#[.agg (encIt x).toArray, .agg (encIt y).toArray] ++ cb) W fun e w' => e = .returned (.int .i64 (cf x y)) ∧ Below W.heap.size W w'
set_option maxHeartbeats 4000000 in
set_option maxRecDepth 100000 in
theorem insertionI_any (lt : ItOk → ItOk → Bool) (hW : Weak lt) (cf : ItOk → ItOk → Int) (hcf : ∀ x y, lt x y = decide (cf x y < 0)) (g : Nat) (cb : Array Value) (eg : ∀ args w, (callFunc g args).run Tryz.prog w = .ok (.enter g args) w)
    (X S Y : List ItOk) (a b len cap : Nat) (W0 W : World) (B : Nat) (hC : CmpI g cb cf W0 B) (hl : (X ++ S ++ Y).length = len) (hlen : len ≤ 1000000000) (ha : X.length = a) (hb : a + S.length = b) (hS : St encIt 6 W0 B (X ++ S ++ Y).toArray W) :
    Calls Tryz.prog 99 #[.slice (some ⟨B, 0, none⟩) len cap, .int .i64 a, .int .i64 b, .func (.func g) #[] cb] W fun e w' => e = .returned (.tuple #[]) ∧ St encIt 6 W0 B (X ++ sortS lt S ++ Y).toArray w' := by
  obtain ⟨T, hT⟩ : ∃ T, (X ++ sortS lt S ++ Y).toArray = T := ⟨_, rfl⟩
  rw [hT]
  have HT := Lib.hid hT
  have HC := Lib.hid hC
  have HS := Lib.hid hS
  have HL := Lib.hid hl
  have HA := Lib.hid ha
  have HB := Lib.hid hb
  have HW := Lib.hid hW
  have HCF := Lib.hid hcf
  have hbl : b ≤ len := by rw [← hl]; simp; omega
  have hab : a ≤ b := by omega
  have wa : IntKind.i64.wrap ((a : Int) + 1) = (a : Int) + 1 := by rw [IntKind.wrap_i64]; omega
  clear hC hS hl ha hb hW hcf hT
  go_enter Tryz.func99, Tryz.ntmps99
  go_wp2_with fail
  go_loopw [8] (fun iv wr => ∃ (i : Nat) (D : Array ItOk), iv = .int .i64 (i : Nat) ∧ a < i ∧ i ≤ b + 1 ∧ Hid (OutR lt X S Y i D) ∧ Hid (St encIt 6 W0 B D wr)) (fun iv _ => b + 1 - (intOf iv).toNat)
  case atStart => exact ⟨a + 1, _, by go_num, by omega, by omega, by rw [← HA.out]; exact OutR.start X S Y, HS.out⟩
  case round =>
    clear HS
    obtain ⟨i, D, rfl, hai, hib, HO, SD⟩ := hrel
    by_cases hlt : i < b
    · have hltz : (i : Int) < (b : Int) := by omega
      obtain ⟨x, hx, hI⟩ := HO.out.inner (by rw [HA.out]; exact hai) (by rw [HA.out, HB.out]; exact hlt)
      have HX := Lib.hid hx
      have HI := Lib.hid hI
      have hUp := Lib.hid (sortS_up HW.out (S.take (i - X.length)))
      have HZ : Hid (X.length + (sortS lt (S.take (i - X.length))).length + 1 + (S.drop (i - X.length + 1) ++ Y).length = len) := by
        unfold Hid
        have := HL.out
        simp only [List.length_append, sortS_len, List.length_take, List.length_drop] at this ⊢
        have h1 := HA.out
        have h2 := HB.out
        omega
      have hNX : Hid (OutR lt X S Y (i + 1) (X ++ insS lt x (sortS lt (S.take (i - X.length))) ++ (S.drop (i - X.length + 1) ++ Y)).toArray) := OutR.next (by rw [HA.out]; exact hai) hx
      obtain ⟨L, hL⟩ : ∃ L, sortS lt (S.take (i - X.length)) = L := ⟨_, rfl⟩
      obtain ⟨Z, hZ⟩ : ∃ L, S.drop (i - X.length + 1) ++ Y = L := ⟨_, rfl⟩
      rw [hL, hZ] at HI hNX HZ
      rw [hL] at hUp
      have wi : IntKind.i64.wrap ((i : Int) + 1) = (i : Int) + 1 := by rw [IntKind.wrap_i64]; omega
      have hil : i < len := by omega
      clear hx hI hL hZ HO
      go_wp2_with fail
      go_loopw [9] (fun jv wr => ∃ (j : Nat) (E : Array ItOk), jv = .int .i64 (j : Nat) ∧ a ≤ j ∧ j ≤ i ∧ Hid (InsR lt X x L Z j E) ∧ Hid (St encIt 6 W0 B E wr)) (fun jv _ => (intOf jv).toNat)
      case atStart => exact ⟨i, D, rfl, by omega, Nat.le_refl _, HI, SD⟩
      case round =>
        clear SD HI
        obtain ⟨j, E, rfl, haj, hji, HJ, SE⟩ := hrel
        have hEl : E.size = len := HJ.out.size.1.trans HZ.out
        by_cases hja : a < j
        · obtain ⟨p, hq⟩ : ∃ p, p + 1 = j := ⟨j - 1, by omega⟩
          have wq : IntKind.i64.wrap ((j : Int) - 1) = (p : Int) := by rw [IntKind.wrap_i64]; omega
          have hgq : (a : Int) < (j : Int) := by omega
          have hgd : decide ((a : Int) < (j : Int)) = true := decide_eq_true hgq
          have hgd2 : decide ((j : Int) > (a : Int)) = true := decide_eq_true hgq
          have hpl : p < len := by omega
          have hql : j < len := by omega
          have hcm0 : ∀ v : Bel wr, Calls Tryz.prog g (#[.agg (encIt E[j]!).toArray, .agg (encIt E[p]!).toArray] ++ cb) v.v fun e w' => e = .returned (.int .i64 (cf E[j]! E[p]!)) ∧ Below v.v.heap.size v.v w' := fun v => HC.out E v.v (SE.out.bel v) _ _
          have CC : ∀ w2, Below wr.heap.size wr w2 → (∀ c, c < 6 → w2.cell? ⟨B, p * 6 + c, none⟩ = some (encIt E[p]!)[c]! ∧ w2.frozen? ⟨B, p * 6 + c, none⟩ = false) ∧ (∀ c, c < 6 → w2.cell? ⟨B, j * 6 + c, none⟩ = some (encIt E[j]!)[c]! ∧ w2.frozen? ⟨B, j * 6 + c, none⟩ = false) := fun w2 h2 =>
            ⟨fun c hc => (SE.out.below h2).cellI p (by rw [hEl]; exact hpl) c hc, fun c hc => (SE.out.below h2).cellI j (by rw [hEl]; exact hql) c hc⟩
          have SW0 : ∀ w2, Below wr.heap.size wr w2 → St encIt 6 W0 B (swp E j p) ((w2.setCells B (j * 6) (encIt E[p]!)).setCells B (p * 6) (encIt E[j]!)) := fun w2 h2 => (SE.out.below h2).swap encIt_enc j p (by rw [hEl]; exact hql) (by rw [hEl]; exact hpl)
          have hlq := HCF.out E[j]! E[p]!
          have hst : Hid (lt E[j]! E[p]! = true → InsR lt X x L Z p (swp E j p)) := fun h => by
            have := HJ.out.step (by rw [HA.out]; omega) (by rw [show j - 1 = p by omega]; exact h)
            rwa [show j - 1 = p by omega] at this
          have hsp : Hid (lt E[j]! E[p]! = false → E = (X ++ insS lt x L ++ Z).toArray) := fun h => HJ.out.stop HW.out hUp.out (Or.inr (by rw [show j - 1 = p by omega]; exact h))
          obtain ⟨s, hs⟩ : ∃ s, E[j]! = s := ⟨_, rfl⟩
          obtain ⟨t, ht⟩ : ∃ s, E[p]! = s := ⟨_, rfl⟩
          rw [hs, ht] at hcm0 SW0 CC hlq hst hsp
          obtain ⟨P, hP⟩ : ∃ P, p * 6 = P := ⟨_, rfl⟩
          obtain ⟨Q, hQ⟩ : ∃ P, j * 6 = P := ⟨_, rfl⟩
          rw [hP, hQ] at CC SW0
          obtain ⟨K, hK⟩ : ∃ z, cf s t = z := ⟨_, rfl⟩
          obtain ⟨Lb, hLb⟩ : ∃ z, lt s t = z := ⟨_, rfl⟩
          rw [hK] at hcm0 hlq
          rw [hLb] at hlq hst hsp
          clear hK hLb hs ht
          obtain ⟨⟨⟨xj, xm, xg, xs, xk, xa⟩, xA, xn, xc⟩, xo⟩ := s
          obtain ⟨⟨⟨yj, ym, yg, ys, yk, ya⟩, yA, yn, yc⟩, yo⟩ := t
          obtain ⟨xJ, hxJ⟩ : ∃ J, bts xj = J := ⟨_, rfl⟩
          obtain ⟨xN, hxN⟩ : ∃ J, bts xm = J := ⟨_, rfl⟩
          obtain ⟨yJ, hyJ⟩ : ∃ J, bts yj = J := ⟨_, rfl⟩
          obtain ⟨yN, hyN⟩ : ∃ J, bts ym = J := ⟨_, rfl⟩
          have eX : encIt ⟨(⟨xj, xm, xg, xs, xk, xa⟩, xA, xn, xc), xo⟩ = [.string xJ, .string xN, .slice xA xn xc, .int .i64 xs, .bool xk, .bool xa] := by rw [← hxJ, ← hxN]; rfl
          have eY : encIt ⟨(⟨yj, ym, yg, ys, yk, ya⟩, yA, yn, yc), yo⟩ = [.string yJ, .string yN, .slice yA yn yc, .int .i64 ys, .bool yk, .bool ya] := by rw [← hyJ, ← hyN]; rfl
          rw [eX, eY] at hcm0 SW0 CC
          clear eX eY hxJ hxN hyJ hyN
          have hcm : ∀ v : Bel wr, Calls Tryz.prog g (#[.agg #[.string xJ, .string xN, .slice xA xn xc, .int .i64 xs, .bool xk, .bool xa], .agg #[.string yJ, .string yN, .slice yA yn yc, .int .i64 ys, .bool yk, .bool ya]] ++ cb) v.v fun e w' => e = .returned (.int .i64 K) ∧ Below v.v.heap.size v.v w' := hcm0
          have CL := Lib.hid CC
          have SW1 := Lib.hid SW0
          clear hcm0 SW0
          have cp0 : ∀ v : Bel wr, v.v.cell? ⟨B, P, none⟩ = some (.string yJ) := fun v => ((CC v.v v.h).1 0 (by omega)).1
          have cp1 : ∀ v : Bel wr, v.v.cell? ⟨B, P + 1, none⟩ = some (.string yN) := fun v => ((CC v.v v.h).1 1 (by omega)).1
          have cp2 : ∀ v : Bel wr, v.v.cell? ⟨B, P + 2, none⟩ = some (.slice yA yn yc) := fun v => ((CC v.v v.h).1 2 (by omega)).1
          have cp3 : ∀ v : Bel wr, v.v.cell? ⟨B, P + 3, none⟩ = some (.int .i64 ys) := fun v => ((CC v.v v.h).1 3 (by omega)).1
          have cp4 : ∀ v : Bel wr, v.v.cell? ⟨B, P + 4, none⟩ = some (.bool yk) := fun v => ((CC v.v v.h).1 4 (by omega)).1
          have cp5 : ∀ v : Bel wr, v.v.cell? ⟨B, P + 5, none⟩ = some (.bool ya) := fun v => ((CC v.v v.h).1 5 (by omega)).1
          have cq0 : ∀ v : Bel wr, v.v.cell? ⟨B, Q, none⟩ = some (.string xJ) := fun v => ((CC v.v v.h).2 0 (by omega)).1
          have cq1 : ∀ v : Bel wr, v.v.cell? ⟨B, Q + 1, none⟩ = some (.string xN) := fun v => ((CC v.v v.h).2 1 (by omega)).1
          have cq2 : ∀ v : Bel wr, v.v.cell? ⟨B, Q + 2, none⟩ = some (.slice xA xn xc) := fun v => ((CC v.v v.h).2 2 (by omega)).1
          have cq3 : ∀ v : Bel wr, v.v.cell? ⟨B, Q + 3, none⟩ = some (.int .i64 xs) := fun v => ((CC v.v v.h).2 3 (by omega)).1
          have cq4 : ∀ v : Bel wr, v.v.cell? ⟨B, Q + 4, none⟩ = some (.bool xk) := fun v => ((CC v.v v.h).2 4 (by omega)).1
          have cq5 : ∀ v : Bel wr, v.v.cell? ⟨B, Q + 5, none⟩ = some (.bool xa) := fun v => ((CC v.v v.h).2 5 (by omega)).1
          clear CC
          have hip : p < i := by omega
          have hpa : a ≤ p := by omega
          have HQP : Hid (p + 1 = j) := hq
          have hPQ : P + 6 = Q := by omega
          clear hq
          by_cases hc : K < 0
          · have hcd : decide (K < 0) = true := decide_eq_true hc
            have hL2 : Hid (Lb = true) := by unfold Hid; rw [hlq]; exact hcd
            clear hlq
            go_wp2_with fail
            refine wp_region_quiet_bel (by kernel_rfl) (by kernel_rfl) ?_
            repeat (go_big_quiet_step ((go_at_fn g; exact Calls.bel_of (hcm _))))
            refine wpQuiet_nil ?_
            intro w2 hw'
            have hb2 : Below wr.heap.size wr w2 := by obtain ⟨v, rfl⟩ := hw'; exact v.h
            clear hw'
            clear cp0 cp1 cp2 cp3 cp4 cp5 cq0 cq1 cq2 cq3 cq4 cq5 hcm
            have C2 := CL.out w2 hb2
            have cp0 : w2.cell? ⟨B, P, none⟩ = some (.string yJ) := (C2.1 0 (by omega)).1
            have fp0 : w2.frozen? ⟨B, P, none⟩ = false := (C2.1 0 (by omega)).2
            have cp1 : w2.cell? ⟨B, P + 1, none⟩ = some (.string yN) := (C2.1 1 (by omega)).1
            have fp1 : w2.frozen? ⟨B, P + 1, none⟩ = false := (C2.1 1 (by omega)).2
            have cp2 : w2.cell? ⟨B, P + 2, none⟩ = some (.slice yA yn yc) := (C2.1 2 (by omega)).1
            have fp2 : w2.frozen? ⟨B, P + 2, none⟩ = false := (C2.1 2 (by omega)).2
            have cp3 : w2.cell? ⟨B, P + 3, none⟩ = some (.int .i64 ys) := (C2.1 3 (by omega)).1
            have fp3 : w2.frozen? ⟨B, P + 3, none⟩ = false := (C2.1 3 (by omega)).2
            have cp4 : w2.cell? ⟨B, P + 4, none⟩ = some (.bool yk) := (C2.1 4 (by omega)).1
            have fp4 : w2.frozen? ⟨B, P + 4, none⟩ = false := (C2.1 4 (by omega)).2
            have cp5 : w2.cell? ⟨B, P + 5, none⟩ = some (.bool ya) := (C2.1 5 (by omega)).1
            have fp5 : w2.frozen? ⟨B, P + 5, none⟩ = false := (C2.1 5 (by omega)).2
            have cq0 : w2.cell? ⟨B, Q, none⟩ = some (.string xJ) := (C2.2 0 (by omega)).1
            have fq0 : w2.frozen? ⟨B, Q, none⟩ = false := (C2.2 0 (by omega)).2
            have cq1 : w2.cell? ⟨B, Q + 1, none⟩ = some (.string xN) := (C2.2 1 (by omega)).1
            have fq1 : w2.frozen? ⟨B, Q + 1, none⟩ = false := (C2.2 1 (by omega)).2
            have cq2 : w2.cell? ⟨B, Q + 2, none⟩ = some (.slice xA xn xc) := (C2.2 2 (by omega)).1
            have fq2 : w2.frozen? ⟨B, Q + 2, none⟩ = false := (C2.2 2 (by omega)).2
            have cq3 : w2.cell? ⟨B, Q + 3, none⟩ = some (.int .i64 xs) := (C2.2 3 (by omega)).1
            have fq3 : w2.frozen? ⟨B, Q + 3, none⟩ = false := (C2.2 3 (by omega)).2
            have cq4 : w2.cell? ⟨B, Q + 4, none⟩ = some (.bool xk) := (C2.2 4 (by omega)).1
            have fq4 : w2.frozen? ⟨B, Q + 4, none⟩ = false := (C2.2 4 (by omega)).2
            have cq5 : w2.cell? ⟨B, Q + 5, none⟩ = some (.bool xa) := (C2.2 5 (by omega)).1
            have fq5 : w2.frozen? ⟨B, Q + 5, none⟩ = false := (C2.2 5 (by omega)).2
            have d0 : ((((((w2.setCell ⟨B, Q, none⟩ (.string yJ)).setCell ⟨B, Q + 1, none⟩ (.string yN)).setCell ⟨B, Q + 2, none⟩ (.slice yA yn yc)).setCell ⟨B, Q + 3, none⟩ (.int .i64 ys)).setCell ⟨B, Q + 4, none⟩ (.bool yk)).setCell ⟨B, Q + 5, none⟩ (.bool ya)).cell? ⟨B, P, none⟩ = some (.string yJ) := by
              rw [World.cell?_setCell_other _ _ _ _ (by simp), World.cell?_setCell_other _ _ _ _ (by simp), World.cell?_setCell_other _ _ _ _ (by simp), World.cell?_setCell_other _ _ _ _ (by simp), World.cell?_setCell_other _ _ _ _ (by simp), World.cell?_setCell_other _ _ _ _ (by simp)]
              exact cp0
            have d1 : ((((((w2.setCell ⟨B, Q, none⟩ (.string yJ)).setCell ⟨B, Q + 1, none⟩ (.string yN)).setCell ⟨B, Q + 2, none⟩ (.slice yA yn yc)).setCell ⟨B, Q + 3, none⟩ (.int .i64 ys)).setCell ⟨B, Q + 4, none⟩ (.bool yk)).setCell ⟨B, Q + 5, none⟩ (.bool ya)).cell? ⟨B, P + 1, none⟩ = some (.string yN) := by
              rw [World.cell?_setCell_other _ _ _ _ (by simp), World.cell?_setCell_other _ _ _ _ (by simp), World.cell?_setCell_other _ _ _ _ (by simp), World.cell?_setCell_other _ _ _ _ (by simp), World.cell?_setCell_other _ _ _ _ (by simp), World.cell?_setCell_other _ _ _ _ (by simp)]
              exact cp1
            have d2 : ((((((w2.setCell ⟨B, Q, none⟩ (.string yJ)).setCell ⟨B, Q + 1, none⟩ (.string yN)).setCell ⟨B, Q + 2, none⟩ (.slice yA yn yc)).setCell ⟨B, Q + 3, none⟩ (.int .i64 ys)).setCell ⟨B, Q + 4, none⟩ (.bool yk)).setCell ⟨B, Q + 5, none⟩ (.bool ya)).cell? ⟨B, P + 2, none⟩ = some (.slice yA yn yc) := by
              rw [World.cell?_setCell_other _ _ _ _ (by simp), World.cell?_setCell_other _ _ _ _ (by simp), World.cell?_setCell_other _ _ _ _ (by simp), World.cell?_setCell_other _ _ _ _ (by simp), World.cell?_setCell_other _ _ _ _ (by simp), World.cell?_setCell_other _ _ _ _ (by simp)]
              exact cp2
            have d3 : ((((((w2.setCell ⟨B, Q, none⟩ (.string yJ)).setCell ⟨B, Q + 1, none⟩ (.string yN)).setCell ⟨B, Q + 2, none⟩ (.slice yA yn yc)).setCell ⟨B, Q + 3, none⟩ (.int .i64 ys)).setCell ⟨B, Q + 4, none⟩ (.bool yk)).setCell ⟨B, Q + 5, none⟩ (.bool ya)).cell? ⟨B, P + 3, none⟩ = some (.int .i64 ys) := by
              rw [World.cell?_setCell_other _ _ _ _ (by simp), World.cell?_setCell_other _ _ _ _ (by simp), World.cell?_setCell_other _ _ _ _ (by simp), World.cell?_setCell_other _ _ _ _ (by simp), World.cell?_setCell_other _ _ _ _ (by simp), World.cell?_setCell_other _ _ _ _ (by simp)]
              exact cp3
            have d4 : ((((((w2.setCell ⟨B, Q, none⟩ (.string yJ)).setCell ⟨B, Q + 1, none⟩ (.string yN)).setCell ⟨B, Q + 2, none⟩ (.slice yA yn yc)).setCell ⟨B, Q + 3, none⟩ (.int .i64 ys)).setCell ⟨B, Q + 4, none⟩ (.bool yk)).setCell ⟨B, Q + 5, none⟩ (.bool ya)).cell? ⟨B, P + 4, none⟩ = some (.bool yk) := by
              rw [World.cell?_setCell_other _ _ _ _ (by simp), World.cell?_setCell_other _ _ _ _ (by simp), World.cell?_setCell_other _ _ _ _ (by simp), World.cell?_setCell_other _ _ _ _ (by simp), World.cell?_setCell_other _ _ _ _ (by simp), World.cell?_setCell_other _ _ _ _ (by simp)]
              exact cp4
            have d5 : ((((((w2.setCell ⟨B, Q, none⟩ (.string yJ)).setCell ⟨B, Q + 1, none⟩ (.string yN)).setCell ⟨B, Q + 2, none⟩ (.slice yA yn yc)).setCell ⟨B, Q + 3, none⟩ (.int .i64 ys)).setCell ⟨B, Q + 4, none⟩ (.bool yk)).setCell ⟨B, Q + 5, none⟩ (.bool ya)).cell? ⟨B, P + 5, none⟩ = some (.bool ya) := by
              rw [World.cell?_setCell_other _ _ _ _ (by simp), World.cell?_setCell_other _ _ _ _ (by simp), World.cell?_setCell_other _ _ _ _ (by simp), World.cell?_setCell_other _ _ _ _ (by simp), World.cell?_setCell_other _ _ _ _ (by simp), World.cell?_setCell_other _ _ _ _ (by simp)]
              exact cp5
            have SW2 := Lib.hid (SW1.out w2 hb2)
            have hR := Lib.hid (hst.out hL2.out)
            clear C2 CL SW1 hst hsp SE HJ hPQ
            go_wp2_with fail
            go_region
            have S3 : Hid (St encIt 6 W0 B (swp E j p) (((((((((((((w2.setCell ⟨B, Q, none⟩ (.string yJ)).setCell ⟨B, Q + 1, none⟩ (.string yN)).setCell ⟨B, Q + 2, none⟩ (.slice yA yn yc)).setCell ⟨B, Q + 3, none⟩ (.int .i64 ys)).setCell ⟨B, Q + 4, none⟩ (.bool yk)).setCell ⟨B, Q + 5, none⟩ (.bool ya)).setCell ⟨B, P, none⟩ (.string xJ)).setCell ⟨B, P + 1, none⟩ (.string xN)).setCell ⟨B, P + 2, none⟩ (.slice xA xn xc)).setCell ⟨B, P + 3, none⟩ (.int .i64 xs)).setCell ⟨B, P + 4, none⟩ (.bool xk)).setCell ⟨B, P + 5, none⟩ (.bool xa))).drew) := by
              have h1 := SW2.out.drew
              simp only [World.setCells, Nat.add_assoc, Nat.reduceAdd] at h1
              exact h1
            go_wp2_with fail
            go_roundw
            case rel => exact ⟨p, _, rfl, hpa, by omega, hR, S3⟩
            case measure => have := HQP.out; simp [intOf]; omega
          · have hcd : decide (K < 0) = false := decide_eq_false hc
            have hL2 : Hid (Lb = false) := by unfold Hid; rw [hlq]; exact hcd
            clear hlq
            go_wp2_with fail
            refine wp_region_quiet_bel (by kernel_rfl) (by kernel_rfl) ?_
            repeat (go_big_quiet_step ((go_at_fn g; exact Calls.bel_of (hcm _))))
            refine wpQuiet_nil ?_
            intro w2 hw'
            have hb2 : Below wr.heap.size wr w2 := by obtain ⟨v, rfl⟩ := hw'; exact v.h
            clear hw'
            have S3 := Lib.hid (SE.out.below hb2)
            have hE := Lib.hid (hsp.out hL2.out)
            clear cp0 cp1 cp2 cp3 cp4 cp5 cq0 cq1 cq2 cq3 cq4 cq5 hcm CL SW1 hst hsp SE HJ
            go_wp2_with fail
            go_roundw
            case rel => exact ⟨i + 1, _, by go_num, by omega, by omega, hNX, by rw [← hE.out]; exact S3.out⟩
            case measure => simp [intOf]; omega
        · have hje : j = a := by omega
          subst hje
          have hg : decide ((j : Int) < (j : Int)) = false := decide_eq_false (by omega)
          have hg2 : ¬ (j : Int) < (j : Int) := by omega
          have hE := Lib.hid (HJ.out.stop HW.out hUp.out (Or.inl (by rw [HA.out]; exact Nat.le_refl _)))
          clear HJ
          go_wp2_with fail
          go_quiet (fail)
          have S3 : Hid (St encIt 6 W0 B E (wr.drewN nq)) := SE.out.drewN nq
          go_wp2_with fail
          go_roundw
          case rel => exact ⟨i + 1, _, by go_num, by omega, by omega, hNX, by rw [← hE.out]; exact S3.out⟩
          case measure => simp [intOf]; omega
    · have hltz : ¬ (i : Int) < (b : Int) := by omega
      have hD := HO.out.last (by rw [HA.out, HB.out]; omega)
      go_wp2_with fail
      go_end0
      exact ⟨rfl, by rw [← HT.out, ← hD]; exact SD.out⟩
end Go.Proofs.YtogjhpcjjmcjfaaGreatDoor
