/-
  The law VcardTells.
-/
import Derived.Test.YtphopnfnjnieaaaGreatDoorVRe
import Derived.Test.YtphopnfnjnieaaaGreatDoorVRk
import Derived.Test.YtphopnfnjnieaaaGreatDoorVRq
import Derived.Test.YtphopnfnjnieaaaGreatDoorVAw
namespace Go.Proofs.YtphopnfnjnieaaaGreatDoor
open Go.RowKit Vc

theorem costs_mem {l : List (List Pr)} {c : List Pr} (h : c ∈ l) : costC c ≤ (l.map costC).sum := by
  induction l with
  | nil => cases h
  | cons d l ih =>
    rw [List.map_cons, List.sum_cons]
    rcases List.mem_cons.1 h with rfl | h
    · omega
    · have := ih h; omega
theorem same_any (v u : Value) (x : List (List Pr)) (w : World) (hx : ReadV w v x) (hy : ReadV w u x) (hl : x.length ≤ 1000000000) (hf : Fews x) :
    Calls Tryz.prog 12 #[v, u, .func (.func 13) #[] #[]] w fun e w' => e = .returned (.bool true) ∧ Below w.heap.size w w' := by
  have := sameV_any v u x x w hx hy hl hl hf hf
  rwa [decide_eq_true rfl] at this
theorem small_quiet (v : Value) (c : List Pr) (w : World) (hR : ReadP w v c) (hcost : costC c ≤ 1000000000) :
    Calls Tryz.prog 7 #[v] w fun e w' => e = .returned (.bool (decide (costC c ≤ 8000))) ∧ Below w.heap.size w w' :=
  (small_any v c w hR hcost).mono fun e w' ⟨h1, m, h2⟩ => ⟨h1, by rw [h2]; exact (Below.refl _ w).drewNW m⟩
set_option maxHeartbeats 8000000 in
set_option maxRecDepth 100000 in
theorem vcardTells_any (s : ByteArray) (v : Value) (l : List (List Pr)) (w : World) (hO : Okw w) (hR : ReadV w v l) (hcs : (l.map costC).sum ≤ 5242880) :
    Calls Tryz.prog 3 #[.string s, v] w (Holds w) := by
  have HA := Lib.hid (fun (W : World) (h : Below w.heap.size w W) => awake_any W (hO.below h))
  have HRE := Lib.hid (fun (W : World) (h : Below w.heap.size w W) (h2 : s.size ≤ 5000) => read_any s W (hO.below h).1 (hO.below h).2.1 (hO.below h).2.2 (by omega))
  have HRR := Lib.hid (fun (W : World) (h2 : s.size ≤ 5000) => rread_any s W (by omega))
  have HWR := Lib.hid (fun (W : World) (h : Below w.heap.size w W) (hb : bulkV l < 1000000) => write_any v l W (hO.below h).1 (hO.below h).2.2 (hO.below h).2.1 (hR.below h) (bulkV_mild hb) (bulkV_many hb) hb)
  have HWW := Lib.hid (fun (W : World) (h : Below w.heap.size w W) (hb : bulkV l < 1000000) => rwrite_any v l W (hR.below h) hb)
  have hrm := read_mass s.data.toList
  rw [← Lib.size_eq] at hrm
  unfold ReadsV at HRE HRR
  unfold WritesV at HWR HWW
  obtain ⟨X, hX⟩ : ∃ X, (readV s.data.toList).1 = X := ⟨_, rfl⟩
  obtain ⟨p1, hp1⟩ : ∃ p, (readV s.data.toList).2.1 = p := ⟨_, rfl⟩
  obtain ⟨p2, hp2⟩ : ∃ p, (readV s.data.toList).2.2 = p := ⟨_, rfl⟩
  obtain ⟨ub, hub⟩ : ∃ b, bts (writeV l).1 = b := ⟨_, rfl⟩
  obtain ⟨q2, hq2⟩ : ∃ p, (writeV l).2 = p := ⟨_, rfl⟩
  rw [hX, hp1, hp2] at HRE HRR
  rw [hub, hq2] at HWR HWW
  rw [hX] at hrm
  have HRM := Lib.hid hrm
  obtain ⟨A, cap, rfl, hcell⟩ := hR
  obtain ⟨n, hn⟩ : ∃ n, l.length = n := ⟨_, rfl⟩
  have HN := Lib.hid hn
  rw [hn] at hcell HWR HWW ⊢
  have HC := Lib.hid hcell
  have HCS : Hid (∀ c ∈ l, costC c ≤ 5242880) := fun c hc => Nat.le_trans (costs_mem hc) hcs
  have HB0 : Hid (Below w.heap.size w w) := Below.refl _ _
  have HA0 : Hid (∀ c ∈ l.take 0, costC c ≤ 8000) := fun c hc => by cases hc
  clear hX hp1 hp2 hub hq2 hcell hn hcs hO hrm
  by_cases hs5 : 5000 < s.size
  · go_enter Tryz.func3, Tryz.ntmps3
    go_wp2_with fail
    refine (HA.out _ HB0.out).mono ?_
    rintro e w2 ⟨rfl, b2⟩
    go_wp2_with fail
    go_ret
    exact ⟨rfl, b2⟩
  by_cases hn70 : 70 < n
  · go_enter Tryz.func3, Tryz.ntmps3
    go_wp2_with fail
    refine (HA.out _ HB0.out).mono ?_
    rintro e w2 ⟨rfl, b2⟩
    go_wp2_with fail
    go_ret
    exact ⟨rfl, b2⟩
  go_enter Tryz.func3, Tryz.ntmps3
  go_wp2_with fail
  go_loopw [5, 6] (fun zv iv wr => ∃ (k zn : Nat), zv = .int .i64 zn ∧ iv = .int .i64 k ∧ k ≤ n ∧ zn ≤ 2000 * k ∧ Hid (∀ c ∈ l.take k, costC c ≤ 8000) ∧ Hid (Below w.heap.size w wr)) (fun _ iv _ => n - (intOf iv).toNat)
  case atStart => exact ⟨0, 0, rfl, rfl, Nat.zero_le _, Nat.zero_le _, HA0, HB0⟩
  case round =>
    obtain ⟨k, zn, rfl, rfl, hk, hzn, HALL, HBW⟩ := hrel
    by_cases hlt : k < n
    · obtain ⟨ad, rfl, hlb, hcl⟩ := HC.out (by omega)
      obtain ⟨c, hcc⟩ : ∃ c, l[k]? = some c := ⟨_, List.getElem?_eq_getElem (by rw [HN.out]; exact hlt)⟩
      obtain ⟨u, c00, hru⟩ := hcl k c hcc
      have HCC : Hid (∀ W, Below w.heap.size w W → W.cell? (ad.add k) = some u) := fun W h => by
        rw [h.cell (p := ad.add k) (by rw [addBlock]; exact hlb)]
        exact c00
      have HRU : Hid (ReadP wr u c) := hru.below HBW.out
      have htk : Hid (l.take (k + 1) = l.take k ++ [c]) := by unfold Hid; rw [List.take_add_one, hcc]; rfl
      have hcm := HCS.out c (List.mem_of_getElem? hcc)
      have HSM := Lib.hid (small_quiet u c wr HRU.out (by omega))
      have hcl5 := costC_len c
      obtain ⟨UA, ucap, rfl⟩ := hru.slice
      obtain ⟨un, hun⟩ : ∃ un, c.length = un := ⟨_, rfl⟩
      rw [hun] at HCC HSM hcl5
      have c0 := HCC.out wr HBW.out
      have HZ : Hid (w.heap.size ≤ wr.heap.size) := HBW.out.size
      clear hcl hcc hru hun c00 hlb HRU
      by_cases hsm : costC c ≤ 8000
      · have A2 : Hid (∀ c ∈ l.take (k + 1), costC c ≤ 8000) := fun d hd => by
          rw [htk.out] at hd
          rcases List.mem_append.1 hd with hd | hd
          · exact HALL.out d hd
          · rw [List.mem_singleton] at hd; subst hd; exact hsm
        rw [decide_eq_true hsm] at HSM
        have hun2 : un ≤ 1600 := by omega
        clear hsm hcm hcl5
        go_wp2_with fail
        refine HSM.out.mono ?_
        rintro e w2 ⟨rfl, b2⟩
        have B2 : Hid (Below w.heap.size w w2) := HBW.out.trans (b2.mono HZ.out)
        clear b2 c0
        have c0 := HCC.out w2 B2.out
        go_wp2_with fail
        go_roundw
        case rel => exact ⟨k + 1, zn + un, by go_num, by go_num, by omega, by omega, A2, B2⟩
        case measure => simp [intOf]; omega
      · rw [decide_eq_false hsm] at HSM
        clear hsm hcm hcl5
        go_wp2_with fail
        refine HSM.out.mono ?_
        rintro e w2 ⟨rfl, b2⟩
        have B2 : Hid (Below w.heap.size w w2) := HBW.out.trans (b2.mono HZ.out)
        clear b2
        go_wp2_with fail
        refine (HA.out _ B2.out).mono ?_
        rintro e w3 ⟨rfl, b3⟩
        go_wp2_with fail
        go_ret
        exact ⟨rfl, B2.out.trans (b3.mono B2.out.size)⟩
    · have hae := HALL.out
      rw [List.take_of_length_le (by rw [HN.out]; omega)] at hae
      have hbk : bulkV l < 1000000 := by
        have h1 := bulkV_small hae
        rw [HN.out] at h1
        have h2 : n * (40 + 8000) ≤ 70 * (40 + 8000) := Nat.mul_le_mul_right _ (by omega)
        omega
      have HBK := Lib.hid hbk
      have hs6 : s.size ≤ 5000 := by omega
      have hxb : bulkV X < 1000000 := by have := HRM.out; omega
      have HXF := Lib.hid (bulkV_fews hxb)
      have HXL := Lib.hid (bulkV_many hxb)
      clear hae hbk hxb
      by_cases hz2 : 200 < zn
      · go_wp2_with fail
        refine (HA.out _ HBW.out).mono ?_
        rintro e w2 ⟨rfl, b2⟩
        go_wp2_with fail
        go_ret
        exact ⟨rfl, HBW.out.trans (b2.mono HBW.out.size)⟩
      · have HR1 := Lib.hid (HRE.out wr HBW.out hs6)
        have HR2 := Lib.hid (fun W => HRR.out W hs6)
        have HW1 := Lib.hid (fun W h => HWR.out W h HBK.out)
        have HW2 := Lib.hid (fun W h => HWW.out W h HBK.out)
        clear hs6
        go_wp2_with fail
        refine HR1.out.mono ?_
        rintro e w2 ⟨⟨xv, rfl, hx⟩, b2⟩
        have B2 : Hid (Below w.heap.size w w2) := HBW.out.trans (b2.mono HBW.out.size)
        have X2 := Lib.hid hx
        obtain ⟨XA, xcap, rfl⟩ := hx.slice
        obtain ⟨xn, hxn⟩ : ∃ xn, X.length = xn := ⟨_, rfl⟩
        rw [hxn] at X2 ⊢
        have HXN := Lib.hid hxn
        clear hx hxn b2
        go_wp2_with fail
        refine (HR2.out _).mono ?_
        rintro e w3 ⟨⟨yv, rfl, hy⟩, b3⟩
        have B3 : Hid (Below w.heap.size w w3) := B2.out.trans (b3.mono B2.out.size)
        have X3 := Lib.hid (X2.out.below b3)
        have Y3 := Lib.hid hy
        obtain ⟨YA, ycap, rfl⟩ := hy.slice
        rw [HXN.out] at Y3 ⊢
        clear hy b3
        go_wp2_with fail
        refine (HW1.out _ B3.out).mono ?_
        rintro e w4 ⟨rfl, b4⟩
        have B4 : Hid (Below w.heap.size w w4) := B3.out.trans (b4.mono B3.out.size)
        have X4 := Lib.hid (X3.out.below b4)
        have Y4 := Lib.hid (Y3.out.below b4)
        clear b4
        go_wp2_with fail
        refine (HW2.out _ B4.out).mono ?_
        rintro e w5 ⟨rfl, b5⟩
        have B5 : Hid (Below w.heap.size w w5) := B4.out.trans (b5.mono B4.out.size)
        have X5 := Lib.hid (X4.out.below b5)
        have Y5 := Lib.hid (Y4.out.below b5)
        clear b5
        go_wp2_with fail
        refine (HA.out _ B5.out).mono ?_
        rintro e w6 ⟨rfl, b6⟩
        have B6 : Hid (Below w.heap.size w w6) := B5.out.trans (b6.mono B5.out.size)
        have HSA := Lib.hid (same_any _ _ X w6 (X5.out.below b6) (Y5.out.below b6) HXL.out HXF.out)
        clear b6
        go_wp2_with fail
        refine HSA.out.mono ?_
        rintro e w7 ⟨rfl, b7⟩
        go_wp2_with fail
        go_ret
        exact ⟨by simp; done, B6.out.trans (b7.mono B6.out.size)⟩
end Go.Proofs.YtphopnfnjnieaaaGreatDoor
