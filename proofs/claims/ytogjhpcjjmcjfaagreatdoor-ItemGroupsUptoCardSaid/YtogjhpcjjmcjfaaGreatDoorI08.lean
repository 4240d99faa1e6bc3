import Derived.Test.YtogjhpcjjmcjfaaGreatDoorProg
import Derived.Test.YtogjhpcjjmcjfaaGreatDoorI07
import Derived.BigRegion
import Derived.Deep.LoopGhost
/- what is reached of it -/
namespace Go.Proofs.YtogjhpcjjmcjfaaGreatDoor
open Go.RowKit Go.Sort Sy
def encS (s : ByteArray) : List Value := [.string s]
set_option maxHeartbeats 4000000 in
set_option maxRecDepth 100000 in
theorem swapRangeS_any (a b n len cap : Nat) (d : Array ByteArray) (fv : Value) (W0 W : World) (B : Nat) (hd : d.size = len) (hlen : len ≤ 1000000000) (ha : a + n ≤ len) (hb : b + n ≤ len) (hab : a + n ≤ b) (S : St encS 1 W0 B d W) :
    Calls Tryz.prog 152 #[.slice (some ⟨B, 0, none⟩) len cap, .int .i64 a, .int .i64 b, .int .i64 n, fv] W fun e w' => e = .returned (.tuple #[]) ∧ St encS 1 W0 B (swN a b n d) w' := by
  have HS := Lib.hid S
  have HD := Lib.hid hd
  clear S hd
  go_enter Tryz.func152, Tryz.ntmps152
  go_wp2_with fail
  go_loopw [10] (fun i wr => ∃ k, k ≤ n ∧ i = .int .i64 (k : Nat) ∧ Hid (St encS 1 W0 B (swN a b k d) wr)) (fun i _ => n - (intOf i).toNat)
  case atStart => exact ⟨0, Nat.zero_le _, rfl, HS.out⟩
  case round =>
    obtain ⟨k, hk, rfl, SK⟩ := hrel
    by_cases hlt : k < n
    · have hz : (swN a b k d).size = len := by rw [size_swN]; exact HD.out
      have i1 : IntKind.i64.wrap ((a : Int) + (k : Int)) = ((a + k : Nat) : Int) := by rw [IntKind.wrap_i64]; omega
      have i2 : IntKind.i64.wrap ((b : Int) + (k : Int)) = ((b + k : Nat) : Int) := by rw [IntKind.wrap_i64]; omega
      obtain ⟨p, hp⟩ : ∃ p, a + k = p := ⟨_, rfl⟩
      obtain ⟨q, hq⟩ : ∃ q, b + k = q := ⟨_, rfl⟩
      rw [hp] at i1
      rw [hq] at i2
      have hpl : p < len := by omega
      have hql : q < len := by omega
      have cp := SK.out.cell p (by rw [hz]; exact hpl)
      have cq := SK.out.cell q (by rw [hz]; exact hql)
      have SW1 := Lib.hid (SK.out.swapS p q (by rw [hz]; exact hpl) (by rw [hz]; exact hql))
      obtain ⟨x, hx⟩ : ∃ x, (swN a b k d)[p]! = x := ⟨_, rfl⟩
      obtain ⟨y, hy⟩ : ∃ x, (swN a b k d)[q]! = x := ⟨_, rfl⟩
      rw [hx] at cp SW1
      rw [hy] at cq SW1
      obtain ⟨cp1, cp2⟩ := cp
      obtain ⟨cq1, cq2⟩ := cq
      have HPQ : Hid (a + k = p ∧ b + k = q) := ⟨hp, hq⟩
      have hpq : p ≠ q := by omega
      have cq3 : (wr.setCell ⟨B, p, none⟩ (.string y)).cell? ⟨B, q, none⟩ = some (.string y) := by
        rw [World.cell?_setCell_other _ _ _ _ (by simp)]; exact cq1
      clear hx hy hp hq hz SK
      go_wp2_with fail
      go_region
      have S3 : Hid (St encS 1 W0 B (swN a b (k + 1) d) ((wr.setCell ⟨B, p, none⟩ (.string y)).setCell ⟨B, q, none⟩ (.string x)).drew) := by
        unfold Hid
        rw [swN, HPQ.out.1, HPQ.out.2]
        exact SW1.out.drew
      go_wp2_with fail
      go_roundw
      case rel => exact ⟨k + 1, by omega, by go_num, S3⟩
      case measure => simp [intOf]; omega
    · have hkn : k = n := by omega
      subst hkn
      go_wp2_with fail
      go_end0
      exact ⟨rfl, SK.out⟩

set_option maxHeartbeats 4000000 in
set_option maxRecDepth 100000 in
theorem rotateS_any (X U V Y : List ByteArray) (a m b len cap : Nat) (fv : Value) (W0 W : World) (B : Nat) (hl : (X ++ U ++ V ++ Y).length = len) (hlen : len ≤ 1000000000) (ha : X.length = a) (hm : a + U.length = m) (hb : m + V.length = b) (hU : 0 < U.length) (hV : 0 < V.length)
    (S : St encS 1 W0 B (X ++ U ++ V ++ Y).toArray W) :
    Calls Tryz.prog 121 #[.slice (some ⟨B, 0, none⟩) len cap, .int .i64 a, .int .i64 m, .int .i64 b, fv] W fun e w' => e = .returned (.tuple #[]) ∧ St encS 1 W0 B (X ++ V ++ U ++ Y).toArray w' := by
  obtain ⟨T, hT⟩ : ∃ T, X ++ V ++ U ++ Y = T := ⟨_, rfl⟩
  have hTl : T.length = len := by rw [← hT, ← hl]; simp; omega
  have R0 : Hid (Rot T m U.length V.length (X ++ U ++ V ++ Y).toArray) := ⟨X, U, V, Y, rfl, by omega, rfl, rfl, hT⟩
  rw [hT]
  obtain ⟨D, hD⟩ : ∃ D, (X ++ U ++ V ++ Y).toArray = D := ⟨_, rfl⟩
  rw [hD] at S R0
  obtain ⟨u, hu⟩ : ∃ u, U.length = u := ⟨_, rfl⟩
  obtain ⟨v, hv⟩ : ∃ u, V.length = u := ⟨_, rfl⟩
  rw [hu] at R0 hm hU
  rw [hv] at R0 hb hV
  have HS := Lib.hid S
  have HTL := Lib.hid hTl
  have hbl : b ≤ len := by have := R0.out.size; omega
  clear S hD hT hl hu hv ha hTl
  have e1 : (m : Int) - (a : Int) = (u : Nat) := by omega
  have e2 : (b : Int) - (m : Int) = (v : Nat) := by omega
  have w1 : IntKind.i64.wrap ((m : Int) - (a : Int)) = (u : Nat) := by rw [IntKind.wrap_i64]; omega
  have w2 : IntKind.i64.wrap ((b : Int) - (m : Int)) = (v : Nat) := by rw [IntKind.wrap_i64]; omega
  have hml : m ≤ len := by omega
  clear hm hb e1 e2
  go_enter Tryz.func121, Tryz.ntmps121
  go_wp2_with fail
  go_loopw [10, 11] (fun iv jv wr => ∃ (i j : Nat) (D : Array ByteArray), iv = .int .i64 (i : Nat) ∧ jv = .int .i64 (j : Nat) ∧ 0 < i ∧ 0 < j ∧ Hid (Rot T m i j D) ∧ Hid (St encS 1 W0 B D wr)) (fun iv jv _ => (intOf iv).toNat + (intOf jv).toNat)
  case atStart => exact ⟨u, v, D, rfl, rfl, hU, hV, R0, HS.out⟩
  case round =>
    clear HS R0 w1 w2 hU hV
    obtain ⟨i, j, D, rfl, rfl, hi, hj, HR, SD⟩ := hrel
    have hsz := HR.out.size
    have hdl : D.size = len := hsz.1.trans HTL.out
    have him : i ≤ m := hsz.2.1
    have hmj : m + j ≤ len := by rw [← hdl]; exact hsz.2.2
    clear hsz
    obtain ⟨p, hp⟩ : ∃ p, m - i = p := ⟨_, rfl⟩
    have w3 : IntKind.i64.wrap ((m : Int) - (i : Int)) = (p : Int) := by rw [IntKind.wrap_i64]; omega
    by_cases hij : i = j
    · subst hij
      have hne : ((i : Int) != (i : Int)) = false := by simp
      have HQ := Lib.hid (swapRangeS_any p m i len cap D fv W0 wr B hdl hlen (by omega) (by omega) (by omega) SD.out)
      have HL := Lib.hid HR.out.last
      rw [hp] at HL
      clear hp
      go_wp2_with (go_at_call 152; refine HQ.out.mono ?_; rintro e w' ⟨rfl, S2⟩)
      go_end0
      exact ⟨rfl, by rw [← HL.out]; exact S2⟩
    · have hne : ((i : Int) != (j : Int)) = true := by simp; omega
      by_cases hgt : j < i
      · have hg : (j : Int) < (i : Int) := by omega
        obtain ⟨q, hq⟩ : ∃ q, i - j = q := ⟨_, rfl⟩
        have w4 : IntKind.i64.wrap ((i : Int) - (j : Int)) = (q : Int) := by rw [IntKind.wrap_i64]; omega
        have HQ := Lib.hid (swapRangeS_any p m j len cap D fv W0 wr B hdl hlen (by omega) (by omega) (by omega) SD.out)
        have H2 := Lib.hid (HR.out.left hgt)
        rw [hp, hq] at H2
        have hq0 : 0 < q := by omega
        have hqi : q + j = i := by omega
        clear hp hq
        go_wp2_with (go_at_call 152; refine HQ.out.mono ?_; rintro e w' ⟨rfl, S2⟩)
        go_roundw
        case rel => exact ⟨q, j, _, rfl, rfl, hq0, hj, H2, S2⟩
        case measure => simp [intOf]; omega
      · have hlt : i < j := by omega
        have hg : ¬ (j : Int) < (i : Int) := by omega
        obtain ⟨q, hq⟩ : ∃ q, j - i = q := ⟨_, rfl⟩
        obtain ⟨x, hx⟩ : ∃ x, m + j = x := ⟨_, rfl⟩
        obtain ⟨y, hy⟩ : ∃ y, x - i = y := ⟨_, rfl⟩
        have w4 : IntKind.i64.wrap ((j : Int) - (i : Int)) = (q : Int) := by rw [IntKind.wrap_i64]; omega
        have w5 : IntKind.i64.wrap ((m : Int) + (j : Int)) = (x : Int) := by rw [IntKind.wrap_i64]; omega
        have w6 : IntKind.i64.wrap ((x : Int) - (i : Int)) = (y : Int) := by rw [IntKind.wrap_i64]; omega
        have HQ := Lib.hid (swapRangeS_any p y i len cap D fv W0 wr B hdl hlen (by omega) (by omega) (by omega) SD.out)
        have H2 := Lib.hid (HR.out.right hlt)
        rw [hp, hx, hy, hq] at H2
        have hq0 : 0 < q := by omega
        have hqi : q + i = j := by omega
        clear hp hq hx hy
        go_wp2_with (go_at_call 152; refine HQ.out.mono ?_; rintro e w' ⟨rfl, S2⟩)
        go_roundw
        case rel => exact ⟨i, q, _, rfl, rfl, hi, hq0, H2, S2⟩
        case measure => simp [intOf]; omega
end Go.Proofs.YtogjhpcjjmcjfaaGreatDoor
