import Derived.Test.YtogjhpcjjmcjfaaGreatDoorM34
import Derived.Test.YtogjhpcjjmcjfaaGreatDoorM06
import Derived.BigQuiet
/- what is reached of it -/
namespace Go.Proofs.YtogjhpcjjmcjfaaGreatDoor
open Go.RowKit Go.Sort Sy Tx Vc Ct
def SymI (lt : ItOk → ItOk → Bool) (g : Nat) (cb : Array Value) (cap : Nat) (W0 : World) (B : Nat) (N : Nat) : Prop :=
  ∀ (X A C Y : List ItOk) (a m b len : Nat) (W : World), b - a < N → (X ++ A ++ C ++ Y).length = len → len ≤ 1000000000 → X.length = a → a + A.length = m → m + C.length = b → 0 < A.length → 0 < C.length → Up lt A → Up lt C → St encIt 6 W0 B (X ++ A ++ C ++ Y).toArray W →
    Calls Tryz.prog 100 #[.slice (some ⟨B, 0, none⟩) len cap, .int .i64 a, .int .i64 m, .int .i64 b, .func (.func g) #[] cb] W fun e w' => e = .returned (.tuple #[]) ∧ St encIt 6 W0 B (X ++ mergeS lt A C ++ Y).toArray w'
set_option maxHeartbeats 8000000 in
set_option maxRecDepth 100000 in
theorem symI_left (lt : ItOk → ItOk → Bool) (hW : Weak lt) (cf : ItOk → ItOk → Int) (hcf : ∀ x y, lt x y = decide (cf x y < 0)) (g : Nat) (cb : Array Value) (eg : ∀ args w, (callFunc g args).run Tryz.prog w = .ok (.enter g args) w)
    (X C Y : List ItOk) (x : ItOk) (a m b len cap : Nat) (W0 W : World) (B : Nat) (hC : CmpI g cb cf W0 B) (hl : (X ++ [x] ++ C ++ Y).length = len) (hlen : len ≤ 1000000000) (ha : X.length = a) (hm : a + 1 = m) (hb : m + C.length = b) (hUp : Up lt C) (hS : St encIt 6 W0 B (X ++ [x] ++ C ++ Y).toArray W) :
    Calls Tryz.prog 100 #[.slice (some ⟨B, 0, none⟩) len cap, .int .i64 a, .int .i64 m, .int .i64 b, .func (.func g) #[] cb] W fun e w' => e = .returned (.tuple #[]) ∧ St encIt 6 W0 B (X ++ mergeS lt [x] C ++ Y).toArray w' := by
  obtain ⟨D, hD⟩ : ∃ D, (X ++ [x] ++ C ++ Y).toArray = D := ⟨_, rfl⟩
  have hDl : D.size = len := by rw [← hD, ← hl]; simp
  have hbl : b ≤ len := by rw [← hl]; simp; omega
  have hGa : D[a]! = x := by rw [← hD, show X ++ [x] ++ C ++ Y = X ++ x :: (C ++ Y) by simp]; exact get_app _ _ _ _ ha.symm
  have HG : Hid (∀ h, m ≤ h → (hh : h - m < C.length) → D[h]! = C[h - m]'hh) := fun h h1 h2 => by
    have hlx : (X ++ [x]).length = m := by simp; omega
    rw [← hD]
    have := get_mid (X ++ [x]) C Y h (by omega) (by omega)
    rw [this]
    simp only [hlx]
  rw [hD] at hS
  obtain ⟨T, hT⟩ : ∃ T, (X ++ mergeS lt [x] C ++ Y).toArray = T := ⟨_, rfl⟩
  have HT : Hid ((X ++ mergeS lt [x] C ++ Y).toArray = T) := hT
  rw [hT]
  clear hT
  have HGL : Hid (X.length + C.length + 1 + Y.length = len) := by unfold Hid; rw [← hl]; simp; omega
  have HS := Lib.hid hS
  have HA := Lib.hid ha
  have HB := Lib.hid hb
  have HUP := Lib.hid hUp
  have HM0 : Hid (MovR X x C Y a D) := by unfold Hid MovR; rw [← hD, ← ha]; simp
  have HC := Lib.hid hC
  have HW := Lib.hid hW
  have HCF := Lib.hid hcf
  have SS : Hid (SeaL lt x C m m b) := SeaL.start x C m b hb
  have w1 : IntKind.i64.wrap ((m : Int) - (a : Int)) = 1 := by rw [IntKind.wrap_i64]; omega
  have hmb : m ≤ b := by omega
  have ham : a + 1 = m := hm
  clear hC hS hl ha hb hm hW hcf hUp hD
  go_enter Tryz.func100, Tryz.ntmps100
  go_wp2_with fail
  go_loopw [10, 11, 12] (fun iv jv hv wr => ∃ (i j : Nat) (u : Value), iv = .int .i64 (i : Nat) ∧ jv = .int .i64 (j : Nat) ∧ hv = u ∧ m ≤ i ∧ i ≤ j ∧ j ≤ b ∧ Hid (SeaL lt x C m i j) ∧ Hid (St encIt 6 W0 B D wr)) (fun iv jv _ _ => (intOf jv).toNat - (intOf iv).toNat)
  case atStart => exact ⟨m, b, _, rfl, rfl, rfl, Nat.le_refl _, hmb, Nat.le_refl _, SS, HS.out⟩
  case round =>
    clear HS SS
    obtain ⟨i, j, u, rfl, rfl, rfl, hmi, hij, hjb, HQ, SD⟩ := hrel
    by_cases hlt : i < j
    · have hltz : (i : Int) < (j : Int) := by omega
      obtain ⟨h, hh⟩ : ∃ h, (i + j) / 2 = h := ⟨_, rfl⟩
      have v1 : IntKind.i64.wrap ((i : Int) + (j : Int)) = (i : Int) + (j : Int) := by rw [IntKind.wrap_i64]; omega
      have v2 : IntKind.u64.wrap ((i : Int) + (j : Int)) = (i : Int) + (j : Int) := by rw [IntKind.wrap_u64]; omega
      have v3 : ((i : Int) + (j : Int)) / 2 = (h : Int) := by omega
      have v4 : IntKind.i64.wrap (h : Int) = (h : Int) := by rw [IntKind.wrap_i64]; omega
      have v4u : IntKind.u64.wrap (h : Int) = (h : Int) := by rw [IntKind.wrap_u64]; omega
      have hil : i ≤ h := by omega
      have hjl : h < j := by omega
      have hhl : h < len := by omega
      have hal : a < len := by omega
      have hlC : h - m < C.length := by have := HB.out; omega
      have hDh := HG.out h (by omega) hlC
      have hcm0 : ∀ v : Bel wr, Calls Tryz.prog g (#[.agg (encIt D[h]!).toArray, .agg (encIt D[a]!).toArray] ++ cb) v.v fun e w' => e = .returned (.int .i64 (cf D[h]! D[a]!)) ∧ Below v.v.heap.size v.v w' := fun v => HC.out D v.v (SD.out.bel v) _ _
      have CC : ∀ w2, Below wr.heap.size wr w2 → (∀ o6, o6 < 6 → w2.cell? ⟨B, h * 6 + o6, none⟩ = some (encIt D[h]!)[o6]! ∧ w2.frozen? ⟨B, h * 6 + o6, none⟩ = false) ∧ (∀ o6, o6 < 6 → w2.cell? ⟨B, a * 6 + o6, none⟩ = some (encIt D[a]!)[o6]! ∧ w2.frozen? ⟨B, a * 6 + o6, none⟩ = false) := fun w2 h2 =>
        ⟨fun o6 ho6 => (SD.out.below h2).cellI h (by rw [hDl]; omega) o6 ho6, fun o6 ho6 => (SD.out.below h2).cellI a (by rw [hDl]; omega) o6 ho6⟩
      have hlq := HCF.out D[h]! D[a]!
      have hUQ : Hid (lt D[h]! D[a]! = true → SeaL lt x C m (h + 1) j) := fun k => by rw [hDh, hGa] at k; exact HQ.out.up HW.out HUP.out (by omega) hlC k
      have hDQ : Hid (lt D[h]! D[a]! = false → SeaL lt x C m i h) := fun k => by rw [hDh, hGa] at k; exact HQ.out.down hlC k
      obtain ⟨s, hs⟩ : ∃ s, D[h]! = s := ⟨_, rfl⟩
      obtain ⟨t, ht⟩ : ∃ s, D[a]! = s := ⟨_, rfl⟩
      rw [hs, ht] at hcm0 CC hlq hUQ hDQ
      obtain ⟨K, hK⟩ : ∃ z, cf s t = z := ⟨_, rfl⟩
      obtain ⟨Lb, hLb⟩ : ∃ z, lt s t = z := ⟨_, rfl⟩
      rw [hK] at hcm0 hlq
      rw [hLb] at hlq hUQ hDQ
      clear hK hLb hs ht
      obtain ⟨P, hP⟩ : ∃ P, h * 6 = P := ⟨_, rfl⟩
      obtain ⟨Q, hQ⟩ : ∃ P, a * 6 = P := ⟨_, rfl⟩
      rw [hP, hQ] at CC
      obtain ⟨⟨⟨xj, xm, xg, xs, xk, xa⟩, xA, xn, xc⟩, xo⟩ := s
      obtain ⟨⟨⟨yj, ym, yg, ys, yk, ya⟩, yA, yn, yc⟩, yo⟩ := t
      obtain ⟨xJ, hxJ⟩ : ∃ J, bts xj = J := ⟨_, rfl⟩
      obtain ⟨xN, hxN⟩ : ∃ J, bts xm = J := ⟨_, rfl⟩
      obtain ⟨yJ, hyJ⟩ : ∃ J, bts yj = J := ⟨_, rfl⟩
      obtain ⟨yN, hyN⟩ : ∃ J, bts ym = J := ⟨_, rfl⟩
      have eX : encIt ⟨(⟨xj, xm, xg, xs, xk, xa⟩, xA, xn, xc), xo⟩ = [.string xJ, .string xN, .slice xA xn xc, .int .i64 xs, .bool xk, .bool xa] := by rw [← hxJ, ← hxN]; rfl
      have eY : encIt ⟨(⟨yj, ym, yg, ys, yk, ya⟩, yA, yn, yc), yo⟩ = [.string yJ, .string yN, .slice yA yn yc, .int .i64 ys, .bool yk, .bool ya] := by rw [← hyJ, ← hyN]; rfl
      rw [eX, eY] at hcm0 CC
      clear eX eY hxJ hxN hyJ hyN
      have hcm : ∀ v : Bel wr, Calls Tryz.prog g (#[.agg #[.string xJ, .string xN, .slice xA xn xc, .int .i64 xs, .bool xk, .bool xa], .agg #[.string yJ, .string yN, .slice yA yn yc, .int .i64 ys, .bool yk, .bool ya]] ++ cb) v.v fun e w' => e = .returned (.int .i64 K) ∧ Below v.v.heap.size v.v w' := hcm0
      clear hcm0
      have cp0 : ∀ v : Bel wr, v.v.cell? ⟨B, P, none⟩ = some (.string xJ) := fun v => ((CC v.v v.h).1 0 (by omega)).1
      have cp1 : ∀ v : Bel wr, v.v.cell? ⟨B, P + 1, none⟩ = some (.string xN) := fun v => ((CC v.v v.h).1 1 (by omega)).1
      have cp2 : ∀ v : Bel wr, v.v.cell? ⟨B, P + 2, none⟩ = some (.slice xA xn xc) := fun v => ((CC v.v v.h).1 2 (by omega)).1
      have cp3 : ∀ v : Bel wr, v.v.cell? ⟨B, P + 3, none⟩ = some (.int .i64 xs) := fun v => ((CC v.v v.h).1 3 (by omega)).1
      have cp4 : ∀ v : Bel wr, v.v.cell? ⟨B, P + 4, none⟩ = some (.bool xk) := fun v => ((CC v.v v.h).1 4 (by omega)).1
      have cp5 : ∀ v : Bel wr, v.v.cell? ⟨B, P + 5, none⟩ = some (.bool xa) := fun v => ((CC v.v v.h).1 5 (by omega)).1
      have cq0 : ∀ v : Bel wr, v.v.cell? ⟨B, Q, none⟩ = some (.string yJ) := fun v => ((CC v.v v.h).2 0 (by omega)).1
      have cq1 : ∀ v : Bel wr, v.v.cell? ⟨B, Q + 1, none⟩ = some (.string yN) := fun v => ((CC v.v v.h).2 1 (by omega)).1
      have cq2 : ∀ v : Bel wr, v.v.cell? ⟨B, Q + 2, none⟩ = some (.slice yA yn yc) := fun v => ((CC v.v v.h).2 2 (by omega)).1
      have cq3 : ∀ v : Bel wr, v.v.cell? ⟨B, Q + 3, none⟩ = some (.int .i64 ys) := fun v => ((CC v.v v.h).2 3 (by omega)).1
      have cq4 : ∀ v : Bel wr, v.v.cell? ⟨B, Q + 4, none⟩ = some (.bool yk) := fun v => ((CC v.v v.h).2 4 (by omega)).1
      have cq5 : ∀ v : Bel wr, v.v.cell? ⟨B, Q + 5, none⟩ = some (.bool ya) := fun v => ((CC v.v v.h).2 5 (by omega)).1
      clear CC
      clear hDh hlC hh
      by_cases hc : K < 0
      · have hcd : decide (K < 0) = true := decide_eq_true hc
        have hR := Lib.hid (hUQ.out (hlq.trans hcd))
        have v5 : IntKind.i64.wrap ((h : Int) + 1) = (h : Int) + 1 := by rw [IntKind.wrap_i64]; omega
        clear hlq hUQ hDQ
        go_wp2_with fail
        refine wp_region_quiet_bel (by kernel_rfl) (by kernel_rfl) ?_
        repeat (go_big_quiet_step ((go_at_fn g; exact Calls.bel_of (hcm _))))
        refine wpQuiet_nil ?_
        intro w2 hw'
        have hb2 : Below wr.heap.size wr w2 := by obtain ⟨v, rfl⟩ := hw'; exact v.h
        clear hw'
        have S3 := Lib.hid (SD.out.below hb2)
        clear cp0 cp1 cp2 cp3 cp4 cp5 cq0 cq1 cq2 cq3 cq4 cq5 hcm
        go_wp2_with fail
        go_roundw
        case rel => exact ⟨h + 1, j, _, by go_num, rfl, rfl, by omega, by omega, hjb, hR, S3⟩
        case measure => simp [intOf]; omega
      · have hcd : decide (K < 0) = false := decide_eq_false hc
        have hR := Lib.hid (hDQ.out (hlq.trans hcd))
        clear hlq hUQ hDQ
        go_wp2_with fail
        refine wp_region_quiet_bel (by kernel_rfl) (by kernel_rfl) ?_
        repeat (go_big_quiet_step ((go_at_fn g; exact Calls.bel_of (hcm _))))
        refine wpQuiet_nil ?_
        intro w2 hw'
        have hb2 : Below wr.heap.size wr w2 := by obtain ⟨v, rfl⟩ := hw'; exact v.h
        clear hw'
        have S3 := Lib.hid (SD.out.below hb2)
        clear cp0 cp1 cp2 cp3 cp4 cp5 cq0 cq1 cq2 cq3 cq4 cq5 hcm
        go_wp2_with fail
        go_roundw
        case rel => exact ⟨i, h, _, rfl, rfl, rfl, hmi, by omega, by omega, hR, S3⟩
        case measure => simp [intOf]; omega
    · have hltz : ¬ (i : Int) < (j : Int) := by omega
      obtain rfl : i = j := by omega
      have hLast := Lib.hid HQ.out.last
      have HIB : Hid (i - m ≤ C.length) := by unfold Hid; have := HB.out; omega
      have v6 : IntKind.i64.wrap ((i : Int) - 1) = (i : Int) - 1 := by rw [IntKind.wrap_i64]; omega
      clear HQ
      go_wp2_with fail
      go_loopw [13] (fun kv wr => ∃ (k : Nat) (E : Array ItOk), kv = .int .i64 (k : Nat) ∧ a ≤ k ∧ k + 1 ≤ i ∧ Hid (MovR X x C Y k E) ∧ Hid (St encIt 6 W0 B E wr)) (fun kv _ => i - (intOf kv).toNat)
      case atStart => exact ⟨a, D, rfl, Nat.le_refl _, by omega, HM0, SD⟩
      case round =>
        clear SD HM0
        obtain ⟨k, E, rfl, hak, hki, HM, SE⟩ := hrel
        have hEl : E.size = len := by have h1 := HM.out.size; have h2 := HA.out; have h3 := HB.out; have h4 := HGL.out; omega
        by_cases hlk : k + 1 < i
        · obtain ⟨q, hq⟩ : ∃ q, k + 1 = q := ⟨_, rfl⟩
          have hlz : (k : Int) < (i : Int) - 1 := by omega
          have v7 : IntKind.i64.wrap ((k : Int) + 1) = (q : Int) := by rw [IntKind.wrap_i64]; omega
          have hkl : k < len := by omega
          have hql : q < len := by omega
          have MN : Hid (MovR X x C Y q (swp E k q)) := by
            unfold Hid
            rw [← hq]
            exact HM.out.up (by rw [HA.out]; exact hak) (by have h2 := HA.out; have h3 := HIB.out; omega)
          have SW0 := SE.out.swap encIt_enc k q (by rw [hEl]; exact hkl) (by rw [hEl]; exact hql)
          have CP := SE.out.cellI k (by rw [hEl]; exact hkl)
          have CQ := SE.out.cellI q (by rw [hEl]; exact hql)
          obtain ⟨s, hs⟩ : ∃ s, E[k]! = s := ⟨_, rfl⟩
          obtain ⟨t, ht⟩ : ∃ s, E[q]! = s := ⟨_, rfl⟩
          rw [hs] at CP SW0
          rw [ht] at CQ SW0
          obtain ⟨PK, hPK⟩ : ∃ P, k * 6 = P := ⟨_, rfl⟩
          obtain ⟨PQ, hPQ⟩ : ∃ P, q * 6 = P := ⟨_, rfl⟩
          rw [hPK, hPQ] at SW0
          obtain ⟨⟨⟨xj, xm, xg, xs, xk, xa⟩, xA, xn, xc⟩, xo⟩ := s
          obtain ⟨⟨⟨yj, ym, yg, ys, yk, ya⟩, yA, yn, yc⟩, yo⟩ := t
          obtain ⟨xJ, hxJ⟩ : ∃ J, bts xj = J := ⟨_, rfl⟩
          obtain ⟨xN, hxN⟩ : ∃ J, bts xm = J := ⟨_, rfl⟩
          obtain ⟨yJ, hyJ⟩ : ∃ J, bts yj = J := ⟨_, rfl⟩
          obtain ⟨yN, hyN⟩ : ∃ J, bts ym = J := ⟨_, rfl⟩
          have eX : encIt ⟨(⟨xj, xm, xg, xs, xk, xa⟩, xA, xn, xc), xo⟩ = [.string xJ, .string xN, .slice xA xn xc, .int .i64 xs, .bool xk, .bool xa] := by rw [← hxJ, ← hxN]; rfl
          have eY : encIt ⟨(⟨yj, ym, yg, ys, yk, ya⟩, yA, yn, yc), yo⟩ = [.string yJ, .string yN, .slice yA yn yc, .int .i64 ys, .bool yk, .bool ya] := by rw [← hyJ, ← hyN]; rfl
          rw [hPK] at CP
          rw [hPQ] at CQ
          rw [eX] at CP SW0
          rw [eY] at CQ SW0
          have SW1 := Lib.hid SW0
          have cp0 : wr.cell? ⟨B, PK, none⟩ = some (.string xJ) := (CP 0 (by omega)).1
          have fp0 : wr.frozen? ⟨B, PK, none⟩ = false := (CP 0 (by omega)).2
          have cp1 : wr.cell? ⟨B, PK + 1, none⟩ = some (.string xN) := (CP 1 (by omega)).1
          have fp1 : wr.frozen? ⟨B, PK + 1, none⟩ = false := (CP 1 (by omega)).2
          have cp2 : wr.cell? ⟨B, PK + 2, none⟩ = some (.slice xA xn xc) := (CP 2 (by omega)).1
          have fp2 : wr.frozen? ⟨B, PK + 2, none⟩ = false := (CP 2 (by omega)).2
          have cp3 : wr.cell? ⟨B, PK + 3, none⟩ = some (.int .i64 xs) := (CP 3 (by omega)).1
          have fp3 : wr.frozen? ⟨B, PK + 3, none⟩ = false := (CP 3 (by omega)).2
          have cp4 : wr.cell? ⟨B, PK + 4, none⟩ = some (.bool xk) := (CP 4 (by omega)).1
          have fp4 : wr.frozen? ⟨B, PK + 4, none⟩ = false := (CP 4 (by omega)).2
          have cp5 : wr.cell? ⟨B, PK + 5, none⟩ = some (.bool xa) := (CP 5 (by omega)).1
          have fp5 : wr.frozen? ⟨B, PK + 5, none⟩ = false := (CP 5 (by omega)).2
          have cq0 : wr.cell? ⟨B, PQ, none⟩ = some (.string yJ) := (CQ 0 (by omega)).1
          have fq0 : wr.frozen? ⟨B, PQ, none⟩ = false := (CQ 0 (by omega)).2
          have cq1 : wr.cell? ⟨B, PQ + 1, none⟩ = some (.string yN) := (CQ 1 (by omega)).1
          have fq1 : wr.frozen? ⟨B, PQ + 1, none⟩ = false := (CQ 1 (by omega)).2
          have cq2 : wr.cell? ⟨B, PQ + 2, none⟩ = some (.slice yA yn yc) := (CQ 2 (by omega)).1
          have fq2 : wr.frozen? ⟨B, PQ + 2, none⟩ = false := (CQ 2 (by omega)).2
          have cq3 : wr.cell? ⟨B, PQ + 3, none⟩ = some (.int .i64 ys) := (CQ 3 (by omega)).1
          have fq3 : wr.frozen? ⟨B, PQ + 3, none⟩ = false := (CQ 3 (by omega)).2
          have cq4 : wr.cell? ⟨B, PQ + 4, none⟩ = some (.bool yk) := (CQ 4 (by omega)).1
          have fq4 : wr.frozen? ⟨B, PQ + 4, none⟩ = false := (CQ 4 (by omega)).2
          have cq5 : wr.cell? ⟨B, PQ + 5, none⟩ = some (.bool ya) := (CQ 5 (by omega)).1
          have fq5 : wr.frozen? ⟨B, PQ + 5, none⟩ = false := (CQ 5 (by omega)).2
          have hapart : PK + 6 ≤ PQ ∨ PQ + 6 ≤ PK := by omega
          have d0 : ((((((wr.setCell ⟨B, PK, none⟩ (.string yJ)).setCell ⟨B, PK + 1, none⟩ (.string yN)).setCell ⟨B, PK + 2, none⟩ (.slice yA yn yc)).setCell ⟨B, PK + 3, none⟩ (.int .i64 ys)).setCell ⟨B, PK + 4, none⟩ (.bool yk)).setCell ⟨B, PK + 5, none⟩ (.bool ya)).cell? ⟨B, PQ, none⟩ = some (.string yJ) := by
            rw [World.cell?_setCell_other _ _ _ _ (by simp), World.cell?_setCell_other _ _ _ _ (by simp), World.cell?_setCell_other _ _ _ _ (by simp), World.cell?_setCell_other _ _ _ _ (by simp), World.cell?_setCell_other _ _ _ _ (by simp), World.cell?_setCell_other _ _ _ _ (by simp)]
            exact cq0
          have d1 : ((((((wr.setCell ⟨B, PK, none⟩ (.string yJ)).setCell ⟨B, PK + 1, none⟩ (.string yN)).setCell ⟨B, PK + 2, none⟩ (.slice yA yn yc)).setCell ⟨B, PK + 3, none⟩ (.int .i64 ys)).setCell ⟨B, PK + 4, none⟩ (.bool yk)).setCell ⟨B, PK + 5, none⟩ (.bool ya)).cell? ⟨B, PQ + 1, none⟩ = some (.string yN) := by
            rw [World.cell?_setCell_other _ _ _ _ (by simp), World.cell?_setCell_other _ _ _ _ (by simp), World.cell?_setCell_other _ _ _ _ (by simp), World.cell?_setCell_other _ _ _ _ (by simp), World.cell?_setCell_other _ _ _ _ (by simp), World.cell?_setCell_other _ _ _ _ (by simp)]
            exact cq1
          have d2 : ((((((wr.setCell ⟨B, PK, none⟩ (.string yJ)).setCell ⟨B, PK + 1, none⟩ (.string yN)).setCell ⟨B, PK + 2, none⟩ (.slice yA yn yc)).setCell ⟨B, PK + 3, none⟩ (.int .i64 ys)).setCell ⟨B, PK + 4, none⟩ (.bool yk)).setCell ⟨B, PK + 5, none⟩ (.bool ya)).cell? ⟨B, PQ + 2, none⟩ = some (.slice yA yn yc) := by
            rw [World.cell?_setCell_other _ _ _ _ (by simp), World.cell?_setCell_other _ _ _ _ (by simp), World.cell?_setCell_other _ _ _ _ (by simp), World.cell?_setCell_other _ _ _ _ (by simp), World.cell?_setCell_other _ _ _ _ (by simp), World.cell?_setCell_other _ _ _ _ (by simp)]
            exact cq2
          have d3 : ((((((wr.setCell ⟨B, PK, none⟩ (.string yJ)).setCell ⟨B, PK + 1, none⟩ (.string yN)).setCell ⟨B, PK + 2, none⟩ (.slice yA yn yc)).setCell ⟨B, PK + 3, none⟩ (.int .i64 ys)).setCell ⟨B, PK + 4, none⟩ (.bool yk)).setCell ⟨B, PK + 5, none⟩ (.bool ya)).cell? ⟨B, PQ + 3, none⟩ = some (.int .i64 ys) := by
            rw [World.cell?_setCell_other _ _ _ _ (by simp), World.cell?_setCell_other _ _ _ _ (by simp), World.cell?_setCell_other _ _ _ _ (by simp), World.cell?_setCell_other _ _ _ _ (by simp), World.cell?_setCell_other _ _ _ _ (by simp), World.cell?_setCell_other _ _ _ _ (by simp)]
            exact cq3
          have d4 : ((((((wr.setCell ⟨B, PK, none⟩ (.string yJ)).setCell ⟨B, PK + 1, none⟩ (.string yN)).setCell ⟨B, PK + 2, none⟩ (.slice yA yn yc)).setCell ⟨B, PK + 3, none⟩ (.int .i64 ys)).setCell ⟨B, PK + 4, none⟩ (.bool yk)).setCell ⟨B, PK + 5, none⟩ (.bool ya)).cell? ⟨B, PQ + 4, none⟩ = some (.bool yk) := by
            rw [World.cell?_setCell_other _ _ _ _ (by simp), World.cell?_setCell_other _ _ _ _ (by simp), World.cell?_setCell_other _ _ _ _ (by simp), World.cell?_setCell_other _ _ _ _ (by simp), World.cell?_setCell_other _ _ _ _ (by simp), World.cell?_setCell_other _ _ _ _ (by simp)]
            exact cq4
          have d5 : ((((((wr.setCell ⟨B, PK, none⟩ (.string yJ)).setCell ⟨B, PK + 1, none⟩ (.string yN)).setCell ⟨B, PK + 2, none⟩ (.slice yA yn yc)).setCell ⟨B, PK + 3, none⟩ (.int .i64 ys)).setCell ⟨B, PK + 4, none⟩ (.bool yk)).setCell ⟨B, PK + 5, none⟩ (.bool ya)).cell? ⟨B, PQ + 5, none⟩ = some (.bool ya) := by
            rw [World.cell?_setCell_other _ _ _ _ (by simp), World.cell?_setCell_other _ _ _ _ (by simp), World.cell?_setCell_other _ _ _ _ (by simp), World.cell?_setCell_other _ _ _ _ (by simp), World.cell?_setCell_other _ _ _ _ (by simp), World.cell?_setCell_other _ _ _ _ (by simp)]
            exact cq5
          clear CP CQ SW0 eX eY hxJ hxN hyJ hyN hapart
          have hqi : q + 1 ≤ i := by omega
          have HQK : Hid (k < q) := by unfold Hid; omega
          have haq : a ≤ q := by omega
          clear hs ht hq SE HM
          go_wp2_with fail
          go_region
          have S3 : Hid (St encIt 6 W0 B (swp E k q) (((((((((((((wr.setCell ⟨B, PK, none⟩ (.string yJ)).setCell ⟨B, PK + 1, none⟩ (.string yN)).setCell ⟨B, PK + 2, none⟩ (.slice yA yn yc)).setCell ⟨B, PK + 3, none⟩ (.int .i64 ys)).setCell ⟨B, PK + 4, none⟩ (.bool yk)).setCell ⟨B, PK + 5, none⟩ (.bool ya)).setCell ⟨B, PQ, none⟩ (.string xJ)).setCell ⟨B, PQ + 1, none⟩ (.string xN)).setCell ⟨B, PQ + 2, none⟩ (.slice xA xn xc)).setCell ⟨B, PQ + 3, none⟩ (.int .i64 xs)).setCell ⟨B, PQ + 4, none⟩ (.bool xk)).setCell ⟨B, PQ + 5, none⟩ (.bool xa))).drew) := by
            have h1 := SW1.out.drew
            simp only [World.setCells, Nat.add_assoc, Nat.reduceAdd] at h1
            exact h1
          go_wp2_with fail
          go_roundw
          case rel => exact ⟨q, _, rfl, haq, hqi, MN, S3⟩
          case measure => have := HQK.out; simp [intOf]; omega
        · have hlz : ¬ (k : Int) < (i : Int) - 1 := by omega
          have hE : Hid (E = (X ++ mergeS lt [x] C ++ Y).toArray) := by
            have h1 := HM.out
            unfold MovR at h1
            unfold Hid
            rw [h1, hLast.out, show k - X.length = i - m by have := HA.out; omega]
            simp
          go_wp2_with fail
          refine bodyPost_ret (results_none rfl _ _ _) rfl ?_
          exact ⟨rfl, by rw [← HT.out, ← hE.out]; exact SE.out⟩
set_option maxHeartbeats 8000000 in
set_option maxRecDepth 100000 in
theorem symI_right (lt : ItOk → ItOk → Bool) (hW : Weak lt) (cf : ItOk → ItOk → Int) (hcf : ∀ x y, lt x y = decide (cf x y < 0)) (g : Nat) (cb : Array Value) (eg : ∀ args w, (callFunc g args).run Tryz.prog w = .ok (.enter g args) w)
    (X A Y : List ItOk) (x : ItOk) (a m b len cap : Nat) (W0 W : World) (B : Nat) (hC : CmpI g cb cf W0 B) (hl : (X ++ A ++ [x] ++ Y).length = len) (hlen : len ≤ 1000000000) (ha : X.length = a) (hm : a + A.length = m) (hA2 : 1 < A.length) (hb : m + 1 = b) (hUp : Up lt A) (hS : St encIt 6 W0 B (X ++ A ++ [x] ++ Y).toArray W) :
    Calls Tryz.prog 100 #[.slice (some ⟨B, 0, none⟩) len cap, .int .i64 a, .int .i64 m, .int .i64 b, .func (.func g) #[] cb] W fun e w' => e = .returned (.tuple #[]) ∧ St encIt 6 W0 B (X ++ mergeS lt A [x] ++ Y).toArray w' := by
  obtain ⟨D, hD⟩ : ∃ D, (X ++ A ++ [x] ++ Y).toArray = D := ⟨_, rfl⟩
  have hDl : D.size = len := by rw [← hD, ← hl]; simp
  have hbl : b ≤ len := by rw [← hl]; simp; omega
  have hGm : D[m]! = x := by rw [← hD, show X ++ A ++ [x] ++ Y = (X ++ A) ++ x :: Y by simp]; exact get_app _ _ _ _ (by simp; omega)
  have HG : Hid (∀ h, a ≤ h → (hh : h - a < A.length) → D[h]! = A[h - a]'hh) := fun h h1 h2 => by
    subst ha
    rw [← hD, show X ++ A ++ [x] ++ Y = X ++ A ++ ([x] ++ Y) by simp]
    exact get_mid X A ([x] ++ Y) h h1 h2
  rw [hD] at hS
  obtain ⟨T, hT⟩ : ∃ T, (X ++ mergeS lt A [x] ++ Y).toArray = T := ⟨_, rfl⟩
  have HT : Hid ((X ++ mergeS lt A [x] ++ Y).toArray = T) := hT
  rw [hT]
  clear hT
  have HGL : Hid (X.length + A.length + 1 + Y.length = len) := by unfold Hid; rw [← hl]; simp; omega
  have HS := Lib.hid hS
  have HA := Lib.hid ha
  have HM := Lib.hid hm
  have HUP := Lib.hid hUp
  have HM0 : Hid (MovR X x A Y m D) := by unfold Hid MovR; rw [← hD, List.take_of_length_le (by omega), List.drop_eq_nil_of_le (by omega)]; simp
  have HC := Lib.hid hC
  have HW := Lib.hid hW
  have HCF := Lib.hid hcf
  have SS : Hid (SeaR lt x A a a m) := SeaR.start x A a m hm
  obtain ⟨p, hp⟩ : ∃ p, m - a = p := ⟨_, rfl⟩
  have w1 : IntKind.i64.wrap ((m : Int) - (a : Int)) = (p : Int) := by rw [IntKind.wrap_i64]; omega
  have w2 : IntKind.i64.wrap ((b : Int) - (m : Int)) = 1 := by rw [IntKind.wrap_i64]; omega
  have hp1 : ((p : Int) == 1) = false := by simp; omega
  have ham : a ≤ m := by omega
  have hmb : m + 1 = b := hb
  clear hC hS hl ha hb hm hW hcf hUp hD hp
  go_enter Tryz.func100, Tryz.ntmps100
  go_wp2_with fail
  go_loopw [14, 15, 16] (fun iv jv hv wr => ∃ (i j : Nat) (u : Value), iv = .int .i64 (i : Nat) ∧ jv = .int .i64 (j : Nat) ∧ hv = u ∧ a ≤ i ∧ i ≤ j ∧ j ≤ m ∧ Hid (SeaR lt x A a i j) ∧ Hid (St encIt 6 W0 B D wr)) (fun iv jv _ _ => (intOf jv).toNat - (intOf iv).toNat)
  case atStart => exact ⟨a, m, _, rfl, rfl, rfl, Nat.le_refl _, ham, Nat.le_refl _, SS, HS.out⟩
  case round =>
    clear HS SS
    obtain ⟨i, j, u, rfl, rfl, rfl, hai, hij, hjm, HQ, SD⟩ := hrel
    by_cases hlt : i < j
    · have hltz : (i : Int) < (j : Int) := by omega
      obtain ⟨h, hh⟩ : ∃ h, (i + j) / 2 = h := ⟨_, rfl⟩
      have v1 : IntKind.i64.wrap ((i : Int) + (j : Int)) = (i : Int) + (j : Int) := by rw [IntKind.wrap_i64]; omega
      have v2 : IntKind.u64.wrap ((i : Int) + (j : Int)) = (i : Int) + (j : Int) := by rw [IntKind.wrap_u64]; omega
      have v3 : ((i : Int) + (j : Int)) / 2 = (h : Int) := by omega
      have v4 : IntKind.i64.wrap (h : Int) = (h : Int) := by rw [IntKind.wrap_i64]; omega
      have v4u : IntKind.u64.wrap (h : Int) = (h : Int) := by rw [IntKind.wrap_u64]; omega
      have hil : i ≤ h := by omega
      have hjl : h < j := by omega
      have hhl : h < len := by omega
      have hml : m < len := by omega
      have hlA : h - a < A.length := by have := HM.out; omega
      have hDh := HG.out h (by omega) hlA
      have hcm0 : ∀ v : Bel wr, Calls Tryz.prog g (#[.agg (encIt D[m]!).toArray, .agg (encIt D[h]!).toArray] ++ cb) v.v fun e w' => e = .returned (.int .i64 (cf D[m]! D[h]!)) ∧ Below v.v.heap.size v.v w' := fun v => HC.out D v.v (SD.out.bel v) _ _
      have CC : ∀ w2, Below wr.heap.size wr w2 → (∀ o6, o6 < 6 → w2.cell? ⟨B, m * 6 + o6, none⟩ = some (encIt D[m]!)[o6]! ∧ w2.frozen? ⟨B, m * 6 + o6, none⟩ = false) ∧ (∀ o6, o6 < 6 → w2.cell? ⟨B, h * 6 + o6, none⟩ = some (encIt D[h]!)[o6]! ∧ w2.frozen? ⟨B, h * 6 + o6, none⟩ = false) := fun w2 h2 =>
        ⟨fun o6 ho6 => (SD.out.below h2).cellI m (by rw [hDl]; omega) o6 ho6, fun o6 ho6 => (SD.out.below h2).cellI h (by rw [hDl]; omega) o6 ho6⟩
      have hlq := HCF.out D[m]! D[h]!
      have hUQ : Hid (lt D[m]! D[h]! = false → SeaR lt x A a (h + 1) j) := fun k => by rw [hDh, hGm] at k; exact HQ.out.up HW.out HUP.out (by omega) hlA k
      have hDQ : Hid (lt D[m]! D[h]! = true → SeaR lt x A a i h) := fun k => by rw [hDh, hGm] at k; exact HQ.out.down HW.out HUP.out hlA k
      obtain ⟨s, hs⟩ : ∃ s, D[m]! = s := ⟨_, rfl⟩
      obtain ⟨t, ht⟩ : ∃ s, D[h]! = s := ⟨_, rfl⟩
      rw [hs, ht] at hcm0 CC hlq hUQ hDQ
      obtain ⟨K, hK⟩ : ∃ z, cf s t = z := ⟨_, rfl⟩
      obtain ⟨Lb, hLb⟩ : ∃ z, lt s t = z := ⟨_, rfl⟩
      rw [hK] at hcm0 hlq
      rw [hLb] at hlq hUQ hDQ
      clear hK hLb hs ht
      obtain ⟨P, hP⟩ : ∃ P, m * 6 = P := ⟨_, rfl⟩
      obtain ⟨Q, hQ⟩ : ∃ P, h * 6 = P := ⟨_, rfl⟩
      rw [hP, hQ] at CC
      obtain ⟨⟨⟨xj, xm, xg, xs, xk, xa⟩, xA, xn, xc⟩, xo⟩ := s
      obtain ⟨⟨⟨yj, ym, yg, ys, yk, ya⟩, yA, yn, yc⟩, yo⟩ := t
      obtain ⟨xJ, hxJ⟩ : ∃ J, bts xj = J := ⟨_, rfl⟩
      obtain ⟨xN, hxN⟩ : ∃ J, bts xm = J := ⟨_, rfl⟩
      obtain ⟨yJ, hyJ⟩ : ∃ J, bts yj = J := ⟨_, rfl⟩
      obtain ⟨yN, hyN⟩ : ∃ J, bts ym = J := ⟨_, rfl⟩
      have eX : encIt ⟨(⟨xj, xm, xg, xs, xk, xa⟩, xA, xn, xc), xo⟩ = [.string xJ, .string xN, .slice xA xn xc, .int .i64 xs, .bool xk, .bool xa] := by rw [← hxJ, ← hxN]; rfl
      have eY : encIt ⟨(⟨yj, ym, yg, ys, yk, ya⟩, yA, yn, yc), yo⟩ = [.string yJ, .string yN, .slice yA yn yc, .int .i64 ys, .bool yk, .bool ya] := by rw [← hyJ, ← hyN]; rfl
      rw [eX, eY] at hcm0 CC
      clear eX eY hxJ hxN hyJ hyN
      have hcm : ∀ v : Bel wr, Calls Tryz.prog g (#[.agg #[.string xJ, .string xN, .slice xA xn xc, .int .i64 xs, .bool xk, .bool xa], .agg #[.string yJ, .string yN, .slice yA yn yc, .int .i64 ys, .bool yk, .bool ya]] ++ cb) v.v fun e w' => e = .returned (.int .i64 K) ∧ Below v.v.heap.size v.v w' := hcm0
      clear hcm0
      have cp0 : ∀ v : Bel wr, v.v.cell? ⟨B, P, none⟩ = some (.string xJ) := fun v => ((CC v.v v.h).1 0 (by omega)).1
      have cp1 : ∀ v : Bel wr, v.v.cell? ⟨B, P + 1, none⟩ = some (.string xN) := fun v => ((CC v.v v.h).1 1 (by omega)).1
      have cp2 : ∀ v : Bel wr, v.v.cell? ⟨B, P + 2, none⟩ = some (.slice xA xn xc) := fun v => ((CC v.v v.h).1 2 (by omega)).1
      have cp3 : ∀ v : Bel wr, v.v.cell? ⟨B, P + 3, none⟩ = some (.int .i64 xs) := fun v => ((CC v.v v.h).1 3 (by omega)).1
      have cp4 : ∀ v : Bel wr, v.v.cell? ⟨B, P + 4, none⟩ = some (.bool xk) := fun v => ((CC v.v v.h).1 4 (by omega)).1
      have cp5 : ∀ v : Bel wr, v.v.cell? ⟨B, P + 5, none⟩ = some (.bool xa) := fun v => ((CC v.v v.h).1 5 (by omega)).1
      have cq0 : ∀ v : Bel wr, v.v.cell? ⟨B, Q, none⟩ = some (.string yJ) := fun v => ((CC v.v v.h).2 0 (by omega)).1
      have cq1 : ∀ v : Bel wr, v.v.cell? ⟨B, Q + 1, none⟩ = some (.string yN) := fun v => ((CC v.v v.h).2 1 (by omega)).1
      have cq2 : ∀ v : Bel wr, v.v.cell? ⟨B, Q + 2, none⟩ = some (.slice yA yn yc) := fun v => ((CC v.v v.h).2 2 (by omega)).1
      have cq3 : ∀ v : Bel wr, v.v.cell? ⟨B, Q + 3, none⟩ = some (.int .i64 ys) := fun v => ((CC v.v v.h).2 3 (by omega)).1
      have cq4 : ∀ v : Bel wr, v.v.cell? ⟨B, Q + 4, none⟩ = some (.bool yk) := fun v => ((CC v.v v.h).2 4 (by omega)).1
      have cq5 : ∀ v : Bel wr, v.v.cell? ⟨B, Q + 5, none⟩ = some (.bool ya) := fun v => ((CC v.v v.h).2 5 (by omega)).1
      clear CC
      clear hDh hlA hh
      by_cases hc : K < 0
      · have hcd : decide (K < 0) = true := decide_eq_true hc
        have hcn : (!decide (K < 0)) = false := by rw [hcd]; rfl
        have hR := Lib.hid (hDQ.out (hlq.trans hcd))
        clear hlq hUQ hDQ
        go_wp2_with fail
        refine wp_region_quiet_bel (by kernel_rfl) (by kernel_rfl) ?_
        repeat (go_big_quiet_step ((go_at_fn g; exact Calls.bel_of (hcm _))))
        refine wpQuiet_nil ?_
        intro w2 hw'
        have hb2 : Below wr.heap.size wr w2 := by obtain ⟨v, rfl⟩ := hw'; exact v.h
        clear hw'
        have S3 := Lib.hid (SD.out.below hb2)
        clear cp0 cp1 cp2 cp3 cp4 cp5 cq0 cq1 cq2 cq3 cq4 cq5 hcm
        go_wp2_with fail
        go_roundw
        case rel => exact ⟨i, h, _, rfl, rfl, rfl, hai, by omega, by omega, hR, S3⟩
        case measure => simp [intOf]; omega
      · have hcd : decide (K < 0) = false := decide_eq_false hc
        have hcn : (!decide (K < 0)) = true := by rw [hcd]; rfl
        have hR := Lib.hid (hUQ.out (hlq.trans hcd))
        have v5 : IntKind.i64.wrap ((h : Int) + 1) = (h : Int) + 1 := by rw [IntKind.wrap_i64]; omega
        clear hlq hUQ hDQ
        go_wp2_with fail
        refine wp_region_quiet_bel (by kernel_rfl) (by kernel_rfl) ?_
        repeat (go_big_quiet_step ((go_at_fn g; exact Calls.bel_of (hcm _))))
        refine wpQuiet_nil ?_
        intro w2 hw'
        have hb2 : Below wr.heap.size wr w2 := by obtain ⟨v, rfl⟩ := hw'; exact v.h
        clear hw'
        have S3 := Lib.hid (SD.out.below hb2)
        clear cp0 cp1 cp2 cp3 cp4 cp5 cq0 cq1 cq2 cq3 cq4 cq5 hcm
        go_wp2_with fail
        go_roundw
        case rel => exact ⟨h + 1, j, _, by go_num, rfl, rfl, by omega, by omega, hjm, hR, S3⟩
        case measure => simp [intOf]; omega
    · have hltz : ¬ (i : Int) < (j : Int) := by omega
      obtain rfl : i = j := by omega
      have hLast := Lib.hid HQ.out.last
      have HIB : Hid (i - a ≤ A.length) := by unfold Hid; have := HM.out; omega
      clear HQ
      go_wp2_with fail
      go_loopw [17] (fun kv wr => ∃ (k : Nat) (E : Array ItOk), kv = .int .i64 (k : Nat) ∧ i ≤ k ∧ k ≤ m ∧ Hid (MovR X x A Y k E) ∧ Hid (St encIt 6 W0 B E wr)) (fun kv _ => (intOf kv).toNat)
      case atStart => exact ⟨m, D, rfl, hjm, Nat.le_refl _, HM0, SD⟩
      case round =>
        clear SD HM0
        obtain ⟨k, E, rfl, hik, hkm, HV, SE⟩ := hrel
        have hEl : E.size = len := by have h1 := HV.out.size; have h4 := HGL.out; omega
        by_cases hlk : i < k
        · obtain ⟨q, hq⟩ : ∃ q, q + 1 = k := ⟨k - 1, by omega⟩
          have hlz : (i : Int) < (k : Int) := by omega
          have v7 : IntKind.i64.wrap ((k : Int) - 1) = (q : Int) := by rw [IntKind.wrap_i64]; omega
          have hkl : k < len := by omega
          have hql : q < len := by omega
          have MN : Hid (MovR X x A Y q (swp E k q)) := by
            unfold Hid
            have h0 := HV.out
            rw [← hq] at h0 ⊢
            exact h0.down (by rw [HA.out]; omega) (by have h2 := HA.out; have h3 := HM.out; omega)
          have SW0 := SE.out.swap encIt_enc k q (by rw [hEl]; exact hkl) (by rw [hEl]; exact hql)
          have CP := SE.out.cellI k (by rw [hEl]; exact hkl)
          have CQ := SE.out.cellI q (by rw [hEl]; exact hql)
          obtain ⟨s, hs⟩ : ∃ s, E[k]! = s := ⟨_, rfl⟩
          obtain ⟨t, ht⟩ : ∃ s, E[q]! = s := ⟨_, rfl⟩
          rw [hs] at CP SW0
          rw [ht] at CQ SW0
          obtain ⟨PK, hPK⟩ : ∃ P, k * 6 = P := ⟨_, rfl⟩
          obtain ⟨PQ, hPQ⟩ : ∃ P, q * 6 = P := ⟨_, rfl⟩
          rw [hPK, hPQ] at SW0
          obtain ⟨⟨⟨xj, xm, xg, xs, xk, xa⟩, xA, xn, xc⟩, xo⟩ := s
          obtain ⟨⟨⟨yj, ym, yg, ys, yk, ya⟩, yA, yn, yc⟩, yo⟩ := t
          obtain ⟨xJ, hxJ⟩ : ∃ J, bts xj = J := ⟨_, rfl⟩
          obtain ⟨xN, hxN⟩ : ∃ J, bts xm = J := ⟨_, rfl⟩
          obtain ⟨yJ, hyJ⟩ : ∃ J, bts yj = J := ⟨_, rfl⟩
          obtain ⟨yN, hyN⟩ : ∃ J, bts ym = J := ⟨_, rfl⟩
          have eX : encIt ⟨(⟨xj, xm, xg, xs, xk, xa⟩, xA, xn, xc), xo⟩ = [.string xJ, .string xN, .slice xA xn xc, .int .i64 xs, .bool xk, .bool xa] := by rw [← hxJ, ← hxN]; rfl
          have eY : encIt ⟨(⟨yj, ym, yg, ys, yk, ya⟩, yA, yn, yc), yo⟩ = [.string yJ, .string yN, .slice yA yn yc, .int .i64 ys, .bool yk, .bool ya] := by rw [← hyJ, ← hyN]; rfl
          rw [hPK] at CP
          rw [hPQ] at CQ
          rw [eX] at CP SW0
          rw [eY] at CQ SW0
          have SW1 := Lib.hid SW0
          have cp0 : wr.cell? ⟨B, PK, none⟩ = some (.string xJ) := (CP 0 (by omega)).1
          have fp0 : wr.frozen? ⟨B, PK, none⟩ = false := (CP 0 (by omega)).2
          have cp1 : wr.cell? ⟨B, PK + 1, none⟩ = some (.string xN) := (CP 1 (by omega)).1
          have fp1 : wr.frozen? ⟨B, PK + 1, none⟩ = false := (CP 1 (by omega)).2
          have cp2 : wr.cell? ⟨B, PK + 2, none⟩ = some (.slice xA xn xc) := (CP 2 (by omega)).1
          have fp2 : wr.frozen? ⟨B, PK + 2, none⟩ = false := (CP 2 (by omega)).2
          have cp3 : wr.cell? ⟨B, PK + 3, none⟩ = some (.int .i64 xs) := (CP 3 (by omega)).1
          have fp3 : wr.frozen? ⟨B, PK + 3, none⟩ = false := (CP 3 (by omega)).2
          have cp4 : wr.cell? ⟨B, PK + 4, none⟩ = some (.bool xk) := (CP 4 (by omega)).1
          have fp4 : wr.frozen? ⟨B, PK + 4, none⟩ = false := (CP 4 (by omega)).2
          have cp5 : wr.cell? ⟨B, PK + 5, none⟩ = some (.bool xa) := (CP 5 (by omega)).1
          have fp5 : wr.frozen? ⟨B, PK + 5, none⟩ = false := (CP 5 (by omega)).2
          have cq0 : wr.cell? ⟨B, PQ, none⟩ = some (.string yJ) := (CQ 0 (by omega)).1
          have fq0 : wr.frozen? ⟨B, PQ, none⟩ = false := (CQ 0 (by omega)).2
          have cq1 : wr.cell? ⟨B, PQ + 1, none⟩ = some (.string yN) := (CQ 1 (by omega)).1
          have fq1 : wr.frozen? ⟨B, PQ + 1, none⟩ = false := (CQ 1 (by omega)).2
          have cq2 : wr.cell? ⟨B, PQ + 2, none⟩ = some (.slice yA yn yc) := (CQ 2 (by omega)).1
          have fq2 : wr.frozen? ⟨B, PQ + 2, none⟩ = false := (CQ 2 (by omega)).2
          have cq3 : wr.cell? ⟨B, PQ + 3, none⟩ = some (.int .i64 ys) := (CQ 3 (by omega)).1
          have fq3 : wr.frozen? ⟨B, PQ + 3, none⟩ = false := (CQ 3 (by omega)).2
          have cq4 : wr.cell? ⟨B, PQ + 4, none⟩ = some (.bool yk) := (CQ 4 (by omega)).1
          have fq4 : wr.frozen? ⟨B, PQ + 4, none⟩ = false := (CQ 4 (by omega)).2
          have cq5 : wr.cell? ⟨B, PQ + 5, none⟩ = some (.bool ya) := (CQ 5 (by omega)).1
          have fq5 : wr.frozen? ⟨B, PQ + 5, none⟩ = false := (CQ 5 (by omega)).2
          have hapart : PK + 6 ≤ PQ ∨ PQ + 6 ≤ PK := by omega
          have d0 : ((((((wr.setCell ⟨B, PK, none⟩ (.string yJ)).setCell ⟨B, PK + 1, none⟩ (.string yN)).setCell ⟨B, PK + 2, none⟩ (.slice yA yn yc)).setCell ⟨B, PK + 3, none⟩ (.int .i64 ys)).setCell ⟨B, PK + 4, none⟩ (.bool yk)).setCell ⟨B, PK + 5, none⟩ (.bool ya)).cell? ⟨B, PQ, none⟩ = some (.string yJ) := by
            rw [World.cell?_setCell_other _ _ _ _ (by simp), World.cell?_setCell_other _ _ _ _ (by simp), World.cell?_setCell_other _ _ _ _ (by simp), World.cell?_setCell_other _ _ _ _ (by simp), World.cell?_setCell_other _ _ _ _ (by simp), World.cell?_setCell_other _ _ _ _ (by simp)]
            exact cq0
          have d1 : ((((((wr.setCell ⟨B, PK, none⟩ (.string yJ)).setCell ⟨B, PK + 1, none⟩ (.string yN)).setCell ⟨B, PK + 2, none⟩ (.slice yA yn yc)).setCell ⟨B, PK + 3, none⟩ (.int .i64 ys)).setCell ⟨B, PK + 4, none⟩ (.bool yk)).setCell ⟨B, PK + 5, none⟩ (.bool ya)).cell? ⟨B, PQ + 1, none⟩ = some (.string yN) := by
            rw [World.cell?_setCell_other _ _ _ _ (by simp), World.cell?_setCell_other _ _ _ _ (by simp), World.cell?_setCell_other _ _ _ _ (by simp), World.cell?_setCell_other _ _ _ _ (by simp), World.cell?_setCell_other _ _ _ _ (by simp), World.cell?_setCell_other _ _ _ _ (by simp)]
            exact cq1
          have d2 : ((((((wr.setCell ⟨B, PK, none⟩ (.string yJ)).setCell ⟨B, PK + 1, none⟩ (.string yN)).setCell ⟨B, PK + 2, none⟩ (.slice yA yn yc)).setCell ⟨B, PK + 3, none⟩ (.int .i64 ys)).setCell ⟨B, PK + 4, none⟩ (.bool yk)).setCell ⟨B, PK + 5, none⟩ (.bool ya)).cell? ⟨B, PQ + 2, none⟩ = some (.slice yA yn yc) := by
            rw [World.cell?_setCell_other _ _ _ _ (by simp), World.cell?_setCell_other _ _ _ _ (by simp), World.cell?_setCell_other _ _ _ _ (by simp), World.cell?_setCell_other _ _ _ _ (by simp), World.cell?_setCell_other _ _ _ _ (by simp), World.cell?_setCell_other _ _ _ _ (by simp)]
            exact cq2
          have d3 : ((((((wr.setCell ⟨B, PK, none⟩ (.string yJ)).setCell ⟨B, PK + 1, none⟩ (.string yN)).setCell ⟨B, PK + 2, none⟩ (.slice yA yn yc)).setCell ⟨B, PK + 3, none⟩ (.int .i64 ys)).setCell ⟨B, PK + 4, none⟩ (.bool yk)).setCell ⟨B, PK + 5, none⟩ (.bool ya)).cell? ⟨B, PQ + 3, none⟩ = some (.int .i64 ys) := by
            rw [World.cell?_setCell_other _ _ _ _ (by simp), World.cell?_setCell_other _ _ _ _ (by simp), World.cell?_setCell_other _ _ _ _ (by simp), World.cell?_setCell_other _ _ _ _ (by simp), World.cell?_setCell_other _ _ _ _ (by simp), World.cell?_setCell_other _ _ _ _ (by simp)]
            exact cq3
          have d4 : ((((((wr.setCell ⟨B, PK, none⟩ (.string yJ)).setCell ⟨B, PK + 1, none⟩ (.string yN)).setCell ⟨B, PK + 2, none⟩ (.slice yA yn yc)).setCell ⟨B, PK + 3, none⟩ (.int .i64 ys)).setCell ⟨B, PK + 4, none⟩ (.bool yk)).setCell ⟨B, PK + 5, none⟩ (.bool ya)).cell? ⟨B, PQ + 4, none⟩ = some (.bool yk) := by
            rw [World.cell?_setCell_other _ _ _ _ (by simp), World.cell?_setCell_other _ _ _ _ (by simp), World.cell?_setCell_other _ _ _ _ (by simp), World.cell?_setCell_other _ _ _ _ (by simp), World.cell?_setCell_other _ _ _ _ (by simp), World.cell?_setCell_other _ _ _ _ (by simp)]
            exact cq4
          have d5 : ((((((wr.setCell ⟨B, PK, none⟩ (.string yJ)).setCell ⟨B, PK + 1, none⟩ (.string yN)).setCell ⟨B, PK + 2, none⟩ (.slice yA yn yc)).setCell ⟨B, PK + 3, none⟩ (.int .i64 ys)).setCell ⟨B, PK + 4, none⟩ (.bool yk)).setCell ⟨B, PK + 5, none⟩ (.bool ya)).cell? ⟨B, PQ + 5, none⟩ = some (.bool ya) := by
            rw [World.cell?_setCell_other _ _ _ _ (by simp), World.cell?_setCell_other _ _ _ _ (by simp), World.cell?_setCell_other _ _ _ _ (by simp), World.cell?_setCell_other _ _ _ _ (by simp), World.cell?_setCell_other _ _ _ _ (by simp), World.cell?_setCell_other _ _ _ _ (by simp)]
            exact cq5
          clear CP CQ SW0 eX eY hxJ hxN hyJ hyN hapart
          have HQK : Hid (q < k) := by unfold Hid; omega
          have hiq : i ≤ q := by omega
          have hqm : q ≤ m := by omega
          clear hs ht hq SE HV
          go_wp2_with fail
          go_region
          have S3 : Hid (St encIt 6 W0 B (swp E k q) (((((((((((((wr.setCell ⟨B, PK, none⟩ (.string yJ)).setCell ⟨B, PK + 1, none⟩ (.string yN)).setCell ⟨B, PK + 2, none⟩ (.slice yA yn yc)).setCell ⟨B, PK + 3, none⟩ (.int .i64 ys)).setCell ⟨B, PK + 4, none⟩ (.bool yk)).setCell ⟨B, PK + 5, none⟩ (.bool ya)).setCell ⟨B, PQ, none⟩ (.string xJ)).setCell ⟨B, PQ + 1, none⟩ (.string xN)).setCell ⟨B, PQ + 2, none⟩ (.slice xA xn xc)).setCell ⟨B, PQ + 3, none⟩ (.int .i64 xs)).setCell ⟨B, PQ + 4, none⟩ (.bool xk)).setCell ⟨B, PQ + 5, none⟩ (.bool xa))).drew) := by
            have h1 := SW1.out.drew
            simp only [World.setCells, Nat.add_assoc, Nat.reduceAdd] at h1
            exact h1
          go_wp2_with fail
          go_roundw
          case rel => exact ⟨q, _, rfl, hiq, hqm, MN, S3⟩
          case measure => have := HQK.out; simp [intOf]; omega
        · have hlz : ¬ (i : Int) < (k : Int) := by omega
          obtain rfl : i = k := by omega
          have hE : Hid (E = (X ++ mergeS lt A [x] ++ Y).toArray) := by
            have h1 := HV.out
            unfold MovR at h1
            unfold Hid
            rw [h1, hLast.out, show i - X.length = i - a by rw [HA.out]]
            simp
          go_wp2_with fail
          refine bodyPost_ret (results_none rfl _ _ _) rfl ?_
          exact ⟨rfl, by rw [← HT.out, ← hE.out]; exact SE.out⟩
end Go.Proofs.YtogjhpcjjmcjfaaGreatDoor
