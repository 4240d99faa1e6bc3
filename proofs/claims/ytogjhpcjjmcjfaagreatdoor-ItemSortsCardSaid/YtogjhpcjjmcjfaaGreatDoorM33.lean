import Derived.Test.YtogjhpcjjmcjfaaGreatDoorM05
import Derived.Test.YtogjhpcjjmcjfaaGreatDoorM32
import Derived.BigRegion
/- what is reached of it -/
namespace Go.Proofs.YtogjhpcjjmcjfaaGreatDoor
open Go.RowKit Go.Sort Sy Tx Vc Ct
/-- an item whose address jid.Less can be asked of -/
abbrev ItOk := {p : Itm × Slc // p.1.jid.length ≤ 140737488355328}
instance : Inhabited ItOk := ⟨⟨(⟨[], [], [], 0, false, false⟩, none, 0, 0), Nat.zero_le _⟩⟩
def encIt (p : ItOk) : List Value := encI p.1.1 (sl p.1.2)
theorem encIt_enc : Enc encIt 6 := ⟨fun _ => rfl, fun x v hv => by
  unfold encIt encI at hv
  simp only [List.mem_cons, List.not_mem_nil, or_false] at hv
  rcases hv with rfl | rfl | rfl | rfl | rfl | rfl <;> rfl⟩
theorem Sy.St.cellI {W0 W : World} {B : Nat} {d : Array ItOk} (h : St encIt 6 W0 B d W) (i : Nat) (hi : i < d.size) (c : Nat) (hc : c < 6) : W.cell? ⟨B, i * 6 + c, none⟩ = some (encIt d[i]!)[c]! ∧ W.frozen? ⟨B, i * 6 + c, none⟩ = false := by
  have := HoldsK.cell h.holds hi (c := c) hc
  simpa using this
set_option maxHeartbeats 16000000 in
set_option maxRecDepth 100000 in
theorem swapRangeI_any (a b n len cap : Nat) (d : Array ItOk) (fv : Value) (W0 W : World) (B : Nat) (hd : d.size = len) (hlen : len ≤ 1000000000) (ha : a + n ≤ len) (hb : b + n ≤ len) (hab : a + n ≤ b) (S : St encIt 6 W0 B d W) :
    Calls Tryz.prog 147 #[.slice (some ⟨B, 0, none⟩) len cap, .int .i64 a, .int .i64 b, .int .i64 n, fv] W fun e w' => e = .returned (.tuple #[]) ∧ St encIt 6 W0 B (swN a b n d) w' := by
  have HS := Lib.hid S
  have HD := Lib.hid hd
  clear S hd
  go_enter Tryz.func147, Tryz.ntmps147
  go_wp2_with fail
  go_loopw [10] (fun i wr => ∃ k, k ≤ n ∧ i = .int .i64 (k : Nat) ∧ Hid (St encIt 6 W0 B (swN a b k d) wr)) (fun i _ => n - (intOf i).toNat)
  case atStart => exact ⟨0, Nat.zero_le _, rfl, HS.out⟩
  case round =>
    obtain ⟨k, hk, rfl, SK⟩ := hrel
    by_cases hlt : k < n
    · have hz : (swN a b k d).size = len := by rw [size_swN]; exact HD.out
      obtain ⟨p, hp⟩ : ∃ p, a + k = p := ⟨_, rfl⟩
      obtain ⟨q, hq⟩ : ∃ q, b + k = q := ⟨_, rfl⟩
      have i1 : IntKind.i64.wrap ((a : Int) + (k : Int)) = (p : Int) := by rw [IntKind.wrap_i64]; omega
      have i2 : IntKind.i64.wrap ((b : Int) + (k : Int)) = (q : Int) := by rw [IntKind.wrap_i64]; omega
      have hpl : p < len := by omega
      have hql : q < len := by omega
      have hpq : p < q := by omega
      have CP := SK.out.cellI p (by rw [hz]; exact hpl)
      have CQ := SK.out.cellI q (by rw [hz]; exact hql)
      have SW1 := Lib.hid (SK.out.swap encIt_enc p q (by rw [hz]; exact hpl) (by rw [hz]; exact hql))
      obtain ⟨x, hx⟩ : ∃ x, (swN a b k d)[p]! = x := ⟨_, rfl⟩
      obtain ⟨y, hy⟩ : ∃ x, (swN a b k d)[q]! = x := ⟨_, rfl⟩
      rw [hx] at CP SW1
      rw [hy] at CQ SW1
      have HPQ : Hid (a + k = p ∧ b + k = q) := ⟨hp, hq⟩
      obtain ⟨P, hP⟩ : ∃ P, p * 6 = P := ⟨_, rfl⟩
      obtain ⟨Q, hQ⟩ : ∃ P, q * 6 = P := ⟨_, rfl⟩
      rw [hP] at CP SW1
      rw [hQ] at CQ SW1
      have hPQ : P + 6 ≤ Q := by omega
      obtain ⟨⟨⟨xj, xm, xg, xs, xk, xa⟩, xA, xn, xc⟩, xo⟩ := x
      obtain ⟨⟨⟨yj, ym, yg, ys, yk, ya⟩, yA, yn, yc⟩, yo⟩ := y
      obtain ⟨xJ, hxJ⟩ : ∃ J, bts xj = J := ⟨_, rfl⟩
      obtain ⟨xN, hxN⟩ : ∃ J, bts xm = J := ⟨_, rfl⟩
      obtain ⟨yJ, hyJ⟩ : ∃ J, bts yj = J := ⟨_, rfl⟩
      obtain ⟨yN, hyN⟩ : ∃ J, bts ym = J := ⟨_, rfl⟩
      have eX : encIt ⟨(⟨xj, xm, xg, xs, xk, xa⟩, xA, xn, xc), xo⟩ = [.string xJ, .string xN, .slice xA xn xc, .int .i64 xs, .bool xk, .bool xa] := by rw [← hxJ, ← hxN]; rfl
      have eY : encIt ⟨(⟨yj, ym, yg, ys, yk, ya⟩, yA, yn, yc), yo⟩ = [.string yJ, .string yN, .slice yA yn yc, .int .i64 ys, .bool yk, .bool ya] := by rw [← hyJ, ← hyN]; rfl
      rw [eX] at CP SW1
      rw [eY] at CQ SW1
      have cp0 : wr.cell? ⟨B, P, none⟩ = some (.string xJ) := (CP 0 (by omega)).1
      have fp0 : wr.frozen? ⟨B, P, none⟩ = false := (CP 0 (by omega)).2
      have cp1 : wr.cell? ⟨B, P + 1, none⟩ = some (.string xN) := (CP 1 (by omega)).1
      have fp1 : wr.frozen? ⟨B, P + 1, none⟩ = false := (CP 1 (by omega)).2
      have cp2 : wr.cell? ⟨B, P + 2, none⟩ = some (.slice xA xn xc) := (CP 2 (by omega)).1
      have fp2 : wr.frozen? ⟨B, P + 2, none⟩ = false := (CP 2 (by omega)).2
      have cp3 : wr.cell? ⟨B, P + 3, none⟩ = some (.int .i64 xs) := (CP 3 (by omega)).1
      have fp3 : wr.frozen? ⟨B, P + 3, none⟩ = false := (CP 3 (by omega)).2
      have cp4 : wr.cell? ⟨B, P + 4, none⟩ = some (.bool xk) := (CP 4 (by omega)).1
      have fp4 : wr.frozen? ⟨B, P + 4, none⟩ = false := (CP 4 (by omega)).2
      have cp5 : wr.cell? ⟨B, P + 5, none⟩ = some (.bool xa) := (CP 5 (by omega)).1
      have fp5 : wr.frozen? ⟨B, P + 5, none⟩ = false := (CP 5 (by omega)).2
      have cq0 : wr.cell? ⟨B, Q, none⟩ = some (.string yJ) := (CQ 0 (by omega)).1
      have fq0 : wr.frozen? ⟨B, Q, none⟩ = false := (CQ 0 (by omega)).2
      have cq1 : wr.cell? ⟨B, Q + 1, none⟩ = some (.string yN) := (CQ 1 (by omega)).1
      have fq1 : wr.frozen? ⟨B, Q + 1, none⟩ = false := (CQ 1 (by omega)).2
      have cq2 : wr.cell? ⟨B, Q + 2, none⟩ = some (.slice yA yn yc) := (CQ 2 (by omega)).1
      have fq2 : wr.frozen? ⟨B, Q + 2, none⟩ = false := (CQ 2 (by omega)).2
      have cq3 : wr.cell? ⟨B, Q + 3, none⟩ = some (.int .i64 ys) := (CQ 3 (by omega)).1
      have fq3 : wr.frozen? ⟨B, Q + 3, none⟩ = false := (CQ 3 (by omega)).2
      have cq4 : wr.cell? ⟨B, Q + 4, none⟩ = some (.bool yk) := (CQ 4 (by omega)).1
      have fq4 : wr.frozen? ⟨B, Q + 4, none⟩ = false := (CQ 4 (by omega)).2
      have cq5 : wr.cell? ⟨B, Q + 5, none⟩ = some (.bool ya) := (CQ 5 (by omega)).1
      have fq5 : wr.frozen? ⟨B, Q + 5, none⟩ = false := (CQ 5 (by omega)).2
      have d0 : ((((((wr.setCell ⟨B, P, none⟩ (.string yJ)).setCell ⟨B, P + 1, none⟩ (.string yN)).setCell ⟨B, P + 2, none⟩ (.slice yA yn yc)).setCell ⟨B, P + 3, none⟩ (.int .i64 ys)).setCell ⟨B, P + 4, none⟩ (.bool yk)).setCell ⟨B, P + 5, none⟩ (.bool ya)).cell? ⟨B, Q, none⟩ = some (.string yJ) := by
        rw [World.cell?_setCell_other _ _ _ _ (by simp), World.cell?_setCell_other _ _ _ _ (by simp), World.cell?_setCell_other _ _ _ _ (by simp), World.cell?_setCell_other _ _ _ _ (by simp), World.cell?_setCell_other _ _ _ _ (by simp), World.cell?_setCell_other _ _ _ _ (by simp)]
        exact cq0
      have d1 : ((((((wr.setCell ⟨B, P, none⟩ (.string yJ)).setCell ⟨B, P + 1, none⟩ (.string yN)).setCell ⟨B, P + 2, none⟩ (.slice yA yn yc)).setCell ⟨B, P + 3, none⟩ (.int .i64 ys)).setCell ⟨B, P + 4, none⟩ (.bool yk)).setCell ⟨B, P + 5, none⟩ (.bool ya)).cell? ⟨B, Q + 1, none⟩ = some (.string yN) := by
        rw [World.cell?_setCell_other _ _ _ _ (by simp), World.cell?_setCell_other _ _ _ _ (by simp), World.cell?_setCell_other _ _ _ _ (by simp), World.cell?_setCell_other _ _ _ _ (by simp), World.cell?_setCell_other _ _ _ _ (by simp), World.cell?_setCell_other _ _ _ _ (by simp)]
        exact cq1
      have d2 : ((((((wr.setCell ⟨B, P, none⟩ (.string yJ)).setCell ⟨B, P + 1, none⟩ (.string yN)).setCell ⟨B, P + 2, none⟩ (.slice yA yn yc)).setCell ⟨B, P + 3, none⟩ (.int .i64 ys)).setCell ⟨B, P + 4, none⟩ (.bool yk)).setCell ⟨B, P + 5, none⟩ (.bool ya)).cell? ⟨B, Q + 2, none⟩ = some (.slice yA yn yc) := by
        rw [World.cell?_setCell_other _ _ _ _ (by simp), World.cell?_setCell_other _ _ _ _ (by simp), World.cell?_setCell_other _ _ _ _ (by simp), World.cell?_setCell_other _ _ _ _ (by simp), World.cell?_setCell_other _ _ _ _ (by simp), World.cell?_setCell_other _ _ _ _ (by simp)]
        exact cq2
      have d3 : ((((((wr.setCell ⟨B, P, none⟩ (.string yJ)).setCell ⟨B, P + 1, none⟩ (.string yN)).setCell ⟨B, P + 2, none⟩ (.slice yA yn yc)).setCell ⟨B, P + 3, none⟩ (.int .i64 ys)).setCell ⟨B, P + 4, none⟩ (.bool yk)).setCell ⟨B, P + 5, none⟩ (.bool ya)).cell? ⟨B, Q + 3, none⟩ = some (.int .i64 ys) := by
        rw [World.cell?_setCell_other _ _ _ _ (by simp), World.cell?_setCell_other _ _ _ _ (by simp), World.cell?_setCell_other _ _ _ _ (by simp), World.cell?_setCell_other _ _ _ _ (by simp), World.cell?_setCell_other _ _ _ _ (by simp), World.cell?_setCell_other _ _ _ _ (by simp)]
        exact cq3
      have d4 : ((((((wr.setCell ⟨B, P, none⟩ (.string yJ)).setCell ⟨B, P + 1, none⟩ (.string yN)).setCell ⟨B, P + 2, none⟩ (.slice yA yn yc)).setCell ⟨B, P + 3, none⟩ (.int .i64 ys)).setCell ⟨B, P + 4, none⟩ (.bool yk)).setCell ⟨B, P + 5, none⟩ (.bool ya)).cell? ⟨B, Q + 4, none⟩ = some (.bool yk) := by
        rw [World.cell?_setCell_other _ _ _ _ (by simp), World.cell?_setCell_other _ _ _ _ (by simp), World.cell?_setCell_other _ _ _ _ (by simp), World.cell?_setCell_other _ _ _ _ (by simp), World.cell?_setCell_other _ _ _ _ (by simp), World.cell?_setCell_other _ _ _ _ (by simp)]
        exact cq4
      have d5 : ((((((wr.setCell ⟨B, P, none⟩ (.string yJ)).setCell ⟨B, P + 1, none⟩ (.string yN)).setCell ⟨B, P + 2, none⟩ (.slice yA yn yc)).setCell ⟨B, P + 3, none⟩ (.int .i64 ys)).setCell ⟨B, P + 4, none⟩ (.bool yk)).setCell ⟨B, P + 5, none⟩ (.bool ya)).cell? ⟨B, Q + 5, none⟩ = some (.bool ya) := by
        rw [World.cell?_setCell_other _ _ _ _ (by simp), World.cell?_setCell_other _ _ _ _ (by simp), World.cell?_setCell_other _ _ _ _ (by simp), World.cell?_setCell_other _ _ _ _ (by simp), World.cell?_setCell_other _ _ _ _ (by simp), World.cell?_setCell_other _ _ _ _ (by simp)]
        exact cq5
      clear CP CQ hx hy hp hq hz SK eX eY hxJ hxN hyJ hyN
      go_wp2_with fail
      go_region
      have S3 : Hid (St encIt 6 W0 B (swN a b (k + 1) d) (((((((((((((wr.setCell ⟨B, P, none⟩ (.string yJ)).setCell ⟨B, P + 1, none⟩ (.string yN)).setCell ⟨B, P + 2, none⟩ (.slice yA yn yc)).setCell ⟨B, P + 3, none⟩ (.int .i64 ys)).setCell ⟨B, P + 4, none⟩ (.bool yk)).setCell ⟨B, P + 5, none⟩ (.bool ya)).setCell ⟨B, Q, none⟩ (.string xJ)).setCell ⟨B, Q + 1, none⟩ (.string xN)).setCell ⟨B, Q + 2, none⟩ (.slice xA xn xc)).setCell ⟨B, Q + 3, none⟩ (.int .i64 xs)).setCell ⟨B, Q + 4, none⟩ (.bool xk)).setCell ⟨B, Q + 5, none⟩ (.bool xa))).drew) := by
        have h1 := SW1.out.drew
        simp only [World.setCells, Nat.add_assoc, Nat.reduceAdd] at h1
        unfold Hid
        rw [swN, HPQ.out.1, HPQ.out.2]
        exact h1
      go_wp2_with fail
      go_roundw
      case rel => exact ⟨k + 1, by omega, by go_num, S3⟩
      case measure => simp [intOf]; omega
    · have hkn : k = n := by omega
      subst hkn
      go_wp2_with fail
      go_end0
      exact ⟨rfl, SK.out⟩
set_option maxHeartbeats 4000000 in
set_option maxRecDepth 100000 in
theorem rotateI_any (X U V Y : List ItOk) (a m b len cap : Nat) (fv : Value) (W0 W : World) (B : Nat) (hl : (X ++ U ++ V ++ Y).length = len) (hlen : len ≤ 1000000000) (ha : X.length = a) (hm : a + U.length = m) (hb : m + V.length = b) (hU : 0 < U.length) (hV : 0 < V.length)
    (S : St encIt 6 W0 B (X ++ U ++ V ++ Y).toArray W) :
    Calls Tryz.prog 119 #[.slice (some ⟨B, 0, none⟩) len cap, .int .i64 a, .int .i64 m, .int .i64 b, fv] W fun e w' => e = .returned (.tuple #[]) ∧ St encIt 6 W0 B (X ++ V ++ U ++ Y).toArray w' := by
  obtain ⟨T, hT⟩ : ∃ T, X ++ V ++ U ++ Y = T := ⟨_, rfl⟩
  have hTl : T.length = len := by rw [← hT, ← hl]; simp; omega
  have R0 : Hid (Rot T m U.length V.length (X ++ U ++ V ++ Y).toArray) := ⟨X, U, V, Y, rfl, by omega, rfl, rfl, hT⟩
  rw [hT]
  obtain ⟨D, hD⟩ : ∃ D, (X ++ U ++ V ++ Y).toArray = D := ⟨_, rfl⟩
  rw [hD] at S R0
  obtain ⟨u, hu⟩ : ∃ u, U.length = u := ⟨_, rfl⟩
  obtain ⟨v, hv⟩ : ∃ u, V.length = u := ⟨_, rfl⟩
  rw [hu] at R0 hm hU
  rw [hv] at R0 hb hV
  have HS := Lib.hid S
  have HTL := Lib.hid hTl
  have hbl : b ≤ len := by have := R0.out.size; omega
  clear S hD hT hl hu hv ha hTl
  have e1 : (m : Int) - (a : Int) = (u : Nat) := by omega
  have e2 : (b : Int) - (m : Int) = (v : Nat) := by omega
  have w1 : IntKind.i64.wrap ((m : Int) - (a : Int)) = (u : Nat) := by rw [IntKind.wrap_i64]; omega
  have w2 : IntKind.i64.wrap ((b : Int) - (m : Int)) = (v : Nat) := by rw [IntKind.wrap_i64]; omega
  have hml : m ≤ len := by omega
  clear hm hb e1 e2
  go_enter Tryz.func119, Tryz.ntmps119
  go_wp2_with fail
  go_loopw [10, 11] (fun iv jv wr => ∃ (i j : Nat) (D : Array ItOk), iv = .int .i64 (i : Nat) ∧ jv = .int .i64 (j : Nat) ∧ 0 < i ∧ 0 < j ∧ Hid (Rot T m i j D) ∧ Hid (St encIt 6 W0 B D wr)) (fun iv jv _ => (intOf iv).toNat + (intOf jv).toNat)
  case atStart => exact ⟨u, v, D, rfl, rfl, hU, hV, R0, HS.out⟩
  case round =>
    clear HS R0 w1 w2 hU hV
    obtain ⟨i, j, D, rfl, rfl, hi, hj, HR, SD⟩ := hrel
    have hsz := HR.out.size
    have hdl : D.size = len := hsz.1.trans HTL.out
    have him : i ≤ m := hsz.2.1
    have hmj : m + j ≤ len := by rw [← hdl]; exact hsz.2.2
    clear hsz
    obtain ⟨p, hp⟩ : ∃ p, m - i = p := ⟨_, rfl⟩
    have w3 : IntKind.i64.wrap ((m : Int) - (i : Int)) = (p : Int) := by rw [IntKind.wrap_i64]; omega
    by_cases hij : i = j
    · subst hij
      have hne : ((i : Int) != (i : Int)) = false := by simp
      have HQ := Lib.hid (swapRangeI_any p m i len cap D fv W0 wr B hdl hlen (by omega) (by omega) (by omega) SD.out)
      have HL := Lib.hid HR.out.last
      rw [hp] at HL
      clear hp
      go_wp2_with (go_at_call 147; refine HQ.out.mono ?_; rintro e w' ⟨rfl, S2⟩)
      go_end0
      exact ⟨rfl, by rw [← HL.out]; exact S2⟩
    · have hne : ((i : Int) != (j : Int)) = true := by simp; omega
      by_cases hgt : j < i
      · have hg : (j : Int) < (i : Int) := by omega
        obtain ⟨q, hq⟩ : ∃ q, i - j = q := ⟨_, rfl⟩
        have w4 : IntKind.i64.wrap ((i : Int) - (j : Int)) = (q : Int) := by rw [IntKind.wrap_i64]; omega
        have HQ := Lib.hid (swapRangeI_any p m j len cap D fv W0 wr B hdl hlen (by omega) (by omega) (by omega) SD.out)
        have H2 := Lib.hid (HR.out.left hgt)
        rw [hp, hq] at H2
        have hq0 : 0 < q := by omega
        have hqi : q + j = i := by omega
        clear hp hq
        go_wp2_with (go_at_call 147; refine HQ.out.mono ?_; rintro e w' ⟨rfl, S2⟩)
        go_roundw
        case rel => exact ⟨q, j, _, rfl, rfl, hq0, hj, H2, S2⟩
        case measure => simp [intOf]; omega
      · have hlt : i < j := by omega
        have hg : ¬ (j : Int) < (i : Int) := by omega
        obtain ⟨q, hq⟩ : ∃ q, j - i = q := ⟨_, rfl⟩
        obtain ⟨x, hx⟩ : ∃ x, m + j = x := ⟨_, rfl⟩
        obtain ⟨y, hy⟩ : ∃ y, x - i = y := ⟨_, rfl⟩
        have w4 : IntKind.i64.wrap ((j : Int) - (i : Int)) = (q : Int) := by rw [IntKind.wrap_i64]; omega
        have w5 : IntKind.i64.wrap ((m : Int) + (j : Int)) = (x : Int) := by rw [IntKind.wrap_i64]; omega
        have w6 : IntKind.i64.wrap ((x : Int) - (i : Int)) = (y : Int) := by rw [IntKind.wrap_i64]; omega
        have HQ := Lib.hid (swapRangeI_any p y i len cap D fv W0 wr B hdl hlen (by omega) (by omega) (by omega) SD.out)
        have H2 := Lib.hid (HR.out.right hlt)
        rw [hp, hx, hy, hq] at H2
        have hq0 : 0 < q := by omega
        have hqi : q + i = j := by omega
        clear hp hq hx hy
        go_wp2_with (go_at_call 147; refine HQ.out.mono ?_; rintro e w' ⟨rfl, S2⟩)
        go_roundw
        case rel => exact ⟨i, q, _, rfl, rfl, hi, hq0, H2, S2⟩
        case measure => simp [intOf]; omega
end Go.Proofs.YtogjhpcjjmcjfaaGreatDoor
