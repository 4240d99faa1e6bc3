/-
  The law VcardBack.
-/
import Derived.Test.YtphopnfnjnieaaaGreatDoorVRs
import Derived.Test.YtphopnfnjnieaaaGreatDoorVAw
import Derived.Test.YtphopnfnjnieaaaGreatDoorVRq
import Derived.Test.YtphopnfnjnieaaaGreatDoorVce
namespace Go.Proofs.YtphopnfnjnieaaaGreatDoor
open Go.RowKit Vc

theorem costs_memB {l : List (List Pr)} {c : List Pr} (h : c ∈ l) : costC c ≤ (l.map costC).sum := by
  induction l with
  | nil => cases h
  | cons d l ih =>
    rw [List.map_cons, List.sum_cons]
    rcases List.mem_cons.1 h with rfl | h
    · omega
    · have := ih h; omega
theorem same_anyB (v u : Value) (x : List (List Pr)) (w : World) (hx : ReadV w v x) (hy : ReadV w u x) (hb : bulkV x < 1000000) :
    Calls Tryz.prog 12 #[v, u, .func (.func 13) #[] #[]] w fun e w' => e = .returned (.bool true) ∧ Below w.heap.size w w' := by
  have := sameV_any v u x x w hx hy (bulkV_many hb) (bulkV_many hb) (bulkV_fews hb) (bulkV_fews hb)
  rwa [decide_eq_true rfl] at this
theorem small_quietB (v : Value) (c : List Pr) (w : World) (hR : ReadP w v c) (hcost : costC c ≤ 1000000000) :
    Calls Tryz.prog 7 #[v] w fun e w' => e = .returned (.bool (decide (costC c ≤ 8000))) ∧ Below w.heap.size w w' :=
  (small_any v c w hR hcost).mono fun e w' ⟨h1, m, h2⟩ => ⟨h1, by rw [h2]; exact (Below.refl _ w).drewNW m⟩
theorem writeV_len (l : List (List Pr)) : (writeV l).1.length ≤ 20000 := by
  unfold writeV
  split
  · split
    · exact Nat.zero_le _
    · simp only; omega
  · exact Nat.zero_le _
theorem run_bad : ∀ (ls : List (List UInt8)) (n : Nat) (st : RSt), (runV n st ls).2.2 ≠ 0 → (runV n st ls).1 = []
  | [], n, st, h => by
    unfold runV at h ⊢
    split
    · rename_i e
      rw [e] at h
      exact absurd rfl h
    · rfl
  | l :: t, n, st, h => by
    unfold runV at h ⊢
    split
    · rename_i e
      rw [if_pos e] at h
      exact run_bad t _ _ h
    · rfl
theorem readV_bad {s : List UInt8} (h : (readV s).2.2 ≠ 0) : (readV s).1 = [] := by
  unfold readV at h ⊢
  split
  · rfl
  · rename_i h1
    rw [if_neg h1] at h
    split
    · rfl
    · rename_i h2
      rw [if_neg h2] at h
      split
      · rfl
      · rename_i ls e
        rw [e] at h
        exact run_bad _ _ _ h
set_option maxHeartbeats 8000000 in
set_option maxRecDepth 100000 in
theorem vcardBack_any (v : Value) (l : List (List Pr)) (s : ByteArray) (w : World) (hO : Okw w) (hR : ReadV w v l) (hcs : (l.map costC).sum ≤ 5242880) :
    Calls Tryz.prog 4 #[v, .string s] w (Holds w) := by
  have HA := Lib.hid (fun (W : World) (h : Below w.heap.size w W) => awake_any W (hO.below h))
  have HRE := Lib.hid (fun (t : ByteArray) (W : World) (h : Below w.heap.size w W) (h2 : t.size ≤ 20000) => read_any t W (hO.below h).1 (hO.below h).2.1 (hO.below h).2.2 (by omega))
  have HWR := Lib.hid (fun (u : Value) (y : List (List Pr)) (W : World) (h : Below w.heap.size w W) (hu : ReadV W u y) (hb : bulkV y < 1000000) => write_any u y W (hO.below h).1 (hO.below h).2.2 (hO.below h).2.1 hu (bulkV_mild hb) (bulkV_many hb) hb)
  have hrm := read_mass s.data.toList
  rw [← Lib.size_eq] at hrm
  unfold ReadsV at HRE
  unfold WritesV at HWR
  obtain ⟨sl, hsl⟩ : ∃ x, s.data.toList = x := ⟨_, rfl⟩
  rw [hsl] at hrm
  have HRM := Lib.hid hrm
  have HRS := Lib.hid (fun (W : World) (h : Below w.heap.size w W) (h2 : s.size ≤ 5000) => HRE.out s W h (by omega))
  rw [hsl] at HRS
  have HRL := Lib.hid hR
  obtain ⟨A, cap, rfl, hcell⟩ := hR
  obtain ⟨n, hn⟩ : ∃ n, l.length = n := ⟨_, rfl⟩
  have HN := Lib.hid hn
  rw [hn] at hcell HRL ⊢
  have HC := Lib.hid hcell
  have HCS : Hid (∀ c ∈ l, costC c ≤ 5242880) := fun c hc => Nat.le_trans (costs_memB hc) hcs
  have HB0 : Hid (Below w.heap.size w w) := Below.refl _ _
  have HA0 : Hid (∀ c ∈ l.take 0, costC c ≤ 8000) := fun c hc => by cases hc
  clear hsl hcell hn hcs hO hrm
  by_cases hs5 : 5000 < s.size
  · go_enter Tryz.func4, Tryz.ntmps4
    go_wp2_with fail
    refine (HA.out _ HB0.out).mono ?_
    rintro e w2 ⟨rfl, b2⟩
    go_wp2_with fail
    go_ret
    exact ⟨rfl, b2⟩
  by_cases hn30 : 30 < n
  · go_enter Tryz.func4, Tryz.ntmps4
    go_wp2_with fail
    refine (HA.out _ HB0.out).mono ?_
    rintro e w2 ⟨rfl, b2⟩
    go_wp2_with fail
    go_ret
    exact ⟨rfl, b2⟩
  have hs6 : s.size ≤ 5000 := by omega
  have HRSS := Lib.hid (fun W h => HRS.out W h hs6)
  have hyb : bulkV (readV sl).1 < 1000000 := by have := HRM.out; omega
  have HYB := Lib.hid hyb
  clear HRS hyb hs6
  go_enter Tryz.func4, Tryz.ntmps4
  go_wp2_with fail
  go_loopw [5] (fun iv wr => ∃ (k : Nat), iv = .int .i64 k ∧ k ≤ n ∧ Hid (∀ c ∈ l.take k, costC c ≤ 8000) ∧ Hid (Below w.heap.size w wr)) (fun iv _ => n - (intOf iv).toNat)
  case atStart => exact ⟨0, rfl, Nat.zero_le _, HA0, HB0⟩
  case round =>
    obtain ⟨k, rfl, hk, HALL, HBW⟩ := hrel
    by_cases hlt : k < n
    · obtain ⟨ad, rfl, hlb, hcl⟩ := HC.out (by omega)
      obtain ⟨c, hcc⟩ : ∃ c, l[k]? = some c := ⟨_, List.getElem?_eq_getElem (by rw [HN.out]; exact hlt)⟩
      obtain ⟨u, c0, hru⟩ := hcl k c hcc
      rw [← HBW.out.cell (p := ad.add k) (by rw [addBlock]; exact hlb)] at c0
      have HRU : Hid (ReadP wr u c) := hru.below HBW.out
      have htk : Hid (l.take (k + 1) = l.take k ++ [c]) := by unfold Hid; rw [List.take_add_one, hcc]; rfl
      have hcm := HCS.out c (List.mem_of_getElem? hcc)
      have HSM := Lib.hid (small_quietB u c wr HRU.out (by omega))
      obtain ⟨UA, ucap, rfl⟩ := hru.slice
      obtain ⟨un, hun⟩ : ∃ un, c.length = un := ⟨_, rfl⟩
      rw [hun] at c0 HSM
      have HZ : Hid (w.heap.size ≤ wr.heap.size) := HBW.out.size
      clear hcl hcc hru hun hlb HRU
      by_cases h60 : 60 < un
      · go_wp2_with fail
        refine (HA.out _ HBW.out).mono ?_
        rintro e w3 ⟨rfl, b3⟩
        go_wp2_with fail
        go_ret
        exact ⟨rfl, HBW.out.trans (b3.mono HBW.out.size)⟩
      · by_cases hsm : costC c ≤ 8000
        · have A2 : Hid (∀ c ∈ l.take (k + 1), costC c ≤ 8000) := fun d hd => by
            rw [htk.out] at hd
            rcases List.mem_append.1 hd with hd | hd
            · exact HALL.out d hd
            · rw [List.mem_singleton] at hd; subst hd; exact hsm
          rw [decide_eq_true hsm] at HSM
          clear hsm hcm
          go_wp2_with fail
          refine HSM.out.mono ?_
          rintro e w2 ⟨rfl, b2⟩
          have B2 : Hid (Below w.heap.size w w2) := HBW.out.trans (b2.mono HZ.out)
          clear b2 c0
          go_wp2_with fail
          go_roundw
          case rel => exact ⟨k + 1, by go_num, by omega, A2, B2⟩
          case measure => simp [intOf]; omega
        · rw [decide_eq_false hsm] at HSM
          clear hsm hcm
          go_wp2_with fail
          refine HSM.out.mono ?_
          rintro e w2 ⟨rfl, b2⟩
          have B2 : Hid (Below w.heap.size w w2) := HBW.out.trans (b2.mono HZ.out)
          clear b2
          go_wp2_with fail
          refine (HA.out _ B2.out).mono ?_
          rintro e w3 ⟨rfl, b3⟩
          go_wp2_with fail
          go_ret
          exact ⟨rfl, B2.out.trans (b3.mono B2.out.size)⟩
    · have hae := HALL.out
      rw [List.take_of_length_le (by rw [HN.out]; omega)] at hae
      have hbk : bulkV l < 1000000 := by
        have h1 := bulkV_small hae
        rw [HN.out] at h1
        have h2 : n * (40 + 8000) ≤ 70 * (40 + 8000) := Nat.mul_le_mul_right _ (by omega)
        omega
      have HBK := Lib.hid hbk
      clear hae hbk
      have HW0 := Lib.hid (HWR.out (.slice A n cap) l wr HBW.out (HRL.out.below HBW.out) HBK.out)
      obtain ⟨T, hT⟩ : ∃ T, (writeV l).1 = T := ⟨_, rfl⟩
      obtain ⟨q, hq⟩ : ∃ q, (writeV l).2 = q := ⟨_, rfl⟩
      have htl := writeV_len l
      have hwl : writeV l = (T, q) := Prod.ext hT hq
      have HWL := Lib.hid hwl
      rw [hT] at htl
      rw [hT, hq] at HW0
      obtain ⟨tb, htb⟩ : ∃ b, bts T = b := ⟨_, rfl⟩
      have HTB : Hid (tb.data.toList = T) := by rw [← htb]; rfl
      have hts : tb.size ≤ 20000 := by rw [Lib.size_eq, HTB.out]; exact htl
      have HTS := Lib.hid hts
      rw [htb] at HW0
      clear hT hq htl hwl htb hts
      by_cases hq0 : q = 0
      · subst hq0
        have hrt := write_read HWL.out
        have HRT : Hid (∀ W, Below w.heap.size w W → Calls Tryz.prog 8 #[.string tb] W fun e w' => (∃ v, e = .returned (.tuple #[v, .int .i64 (0 : Nat), .int .i64 (0 : Nat)]) ∧ ReadV w' v l) ∧ Below W.heap.size W w') := fun W h => by
          have := HRE.out tb W h HTS.out
          rw [HTB.out, hrt] at this
          exact this
        clear hrt
        go_wp2_with fail
        refine HW0.out.mono ?_
        rintro e w2 ⟨rfl, b2⟩
        have B2 : Hid (Below w.heap.size w w2) := HBW.out.trans (b2.mono HBW.out.size)
        clear b2
        go_wp2_with fail
        refine (HRT.out _ B2.out).mono ?_
        rintro e w3 ⟨⟨xv, rfl, hx⟩, b3⟩
        have B3 : Hid (Below w.heap.size w w3) := B2.out.trans (b3.mono B2.out.size)
        have HSA := Lib.hid (same_anyB xv (.slice A n cap) l w3 hx (HRL.out.below B3.out) HBK.out)
        obtain ⟨XA, xcap, rfl⟩ := hx.slice
        rw [HN.out] at HSA ⊢
        clear hx b3
        go_wp2_with fail
        refine HSA.out.mono ?_
        rintro e w4 ⟨rfl, b4⟩
        have B4 : Hid (Below w.heap.size w w4) := B3.out.trans (b4.mono B3.out.size)
        clear b4
        go_wp2_with fail
        refine (HRSS.out _ B4.out).mono ?_
        rintro e w5 ⟨⟨yv, rfl, hy⟩, b5⟩
        have B5 : Hid (Below w.heap.size w w5) := B4.out.trans (b5.mono B4.out.size)
        clear b5
        obtain ⟨p1, hp1⟩ : ∃ p, (readV sl).2.1 = p := ⟨_, rfl⟩
        by_cases hg : (readV sl).2.2 = 0
        · have hrw := read_write (s := sl) (y := (readV sl).1) (k := (readV sl).2.1) (by rw [← hg])
          obtain ⟨y, hyy⟩ : ∃ y, (readV sl).1 = y := ⟨_, rfl⟩
          have hyb := HYB.out
          rw [hyy] at hy hrw hyb
          rw [hg, hp1]
          have HYY := Lib.hid hyb
          have Y5 := Lib.hid hy
          obtain ⟨YA, ycap, rfl⟩ := hy.slice
          obtain ⟨yn, hyn⟩ : ∃ yn, y.length = yn := ⟨_, rfl⟩
          have HYN := Lib.hid hyn
          rw [hyn] at Y5 ⊢
          have HW5 := HWR.out (.slice YA yn ycap) y w5 B5.out Y5.out HYY.out
          rcases hrw with hrw | ⟨u, hrw, hru⟩
          · rw [hrw] at HW5
            have HW6 := Lib.hid HW5
            have HR6 := Lib.hid (fun (W : World) (h : Below w.heap.size w W) => HRE.out (bts []) W h (by decide))
            clear hrw HW5 hy hyn hyy hg hp1 hyb
            go_wp2_with fail
            refine HW6.out.mono ?_
            rintro e w6 ⟨rfl, b6⟩
            have B6 : Hid (Below w.heap.size w w6) := B5.out.trans (b6.mono B5.out.size)
            clear b6
            go_wp2_with fail
            refine (HR6.out _ B6.out).mono ?_
            rintro e w7 ⟨⟨zv, rfl, hz⟩, b7⟩
            have B7 : Hid (Below w.heap.size w w7) := B6.out.trans (b7.mono B6.out.size)
            obtain ⟨ZA, zcap, rfl⟩ := hz.slice
            clear hz b7
            go_wp2_with fail
            refine (HA.out _ B7.out).mono ?_
            rintro e w8 ⟨rfl, b8⟩
            go_wp2_with fail
            go_ret
            exact ⟨rfl, B7.out.trans (b8.mono B7.out.size)⟩
          · have hul := writeV_len y
            rw [hrw] at HW5 hul
            obtain ⟨ub, hub⟩ : ∃ b, bts u = b := ⟨_, rfl⟩
            have hubl : ub.data.toList = u := by rw [← hub]
            have hubs : ub.size ≤ 20000 := by rw [Lib.size_eq, hubl]; exact hul
            have HR6 : Hid (∀ W, Below w.heap.size w W → Calls Tryz.prog 8 #[.string ub] W fun e w' => (∃ v, e = .returned (.tuple #[v, .int .i64 (0 : Nat), .int .i64 (0 : Nat)]) ∧ ReadV w' v y) ∧ Below W.heap.size W w') := fun W h => by
              have := HRE.out ub W h hubs
              rw [hubl, hru] at this
              exact this
            have HW5' : Calls Tryz.prog 10 #[.slice YA yn ycap] w5 fun e w' => e = .returned (.tuple #[.string ub, .int .i64 (0 : Nat)]) ∧ Below w5.heap.size w5 w' := by
              rw [← hub]
              exact HW5
            have HW6 := Lib.hid HW5'
            clear hrw hru HW5 HW5' hy hyn hyy hg hp1 hyb hul hub hubl hubs
            go_wp2_with fail
            refine HW6.out.mono ?_
            rintro e w6 ⟨rfl, b6⟩
            have B6 : Hid (Below w.heap.size w w6) := B5.out.trans (b6.mono B5.out.size)
            have Y6 := Lib.hid (Y5.out.below b6)
            clear b6
            go_wp2_with fail
            refine (HR6.out _ B6.out).mono ?_
            rintro e w7 ⟨⟨zv, rfl, hz⟩, b7⟩
            have B7 : Hid (Below w.heap.size w w7) := B6.out.trans (b7.mono B6.out.size)
            have Y7 := Lib.hid (Y6.out.below b7)
            have Z7 := Lib.hid hz
            obtain ⟨ZA, zcap, rfl⟩ := hz.slice
            rw [HYN.out] at Z7 ⊢
            clear hz b7
            go_wp2_with fail
            refine (HA.out _ B7.out).mono ?_
            rintro e w8 ⟨rfl, b8⟩
            have B8 : Hid (Below w.heap.size w w8) := B7.out.trans (b8.mono B7.out.size)
            have HSB := Lib.hid (same_anyB _ _ y w8 (Z7.out.below b8) (Y7.out.below b8) HYY.out)
            clear b8
            go_wp2_with fail
            refine HSB.out.mono ?_
            rintro e w9 ⟨rfl, b9⟩
            go_wp2_with fail
            go_ret
            exact ⟨rfl, B8.out.trans (b9.mono B8.out.size)⟩
        · have hye := readV_bad hg
          rw [hye] at hy
          obtain ⟨YA, ycap, rfl⟩ := hy.slice
          obtain ⟨p2, hp2⟩ : ∃ p, (readV sl).2.2 = p := ⟨_, rfl⟩
          rw [hp1, hp2]
          rw [hp2] at hg
          have hgz : ((p2 : Int) != 0) = true := bne_iff_ne.2 (by omega)
          clear hye hy hp1 hp2
          go_wp2_with fail
          refine (HA.out _ B5.out).mono ?_
          rintro e w6 ⟨rfl, b6⟩
          go_wp2_with fail
          go_ret
          exact ⟨rfl, B5.out.trans (b6.mono B5.out.size)⟩
      · have hqz : ((q : Int) == 0) = false := beq_false_of_ne (by omega)
        go_wp2_with fail
        refine HW0.out.mono ?_
        rintro e w4 ⟨rfl, b4⟩
        have B4 : Hid (Below w.heap.size w w4) := HBW.out.trans (b4.mono HBW.out.size)
        clear b4 hq0
        go_wp2_with fail
        refine (HRSS.out _ B4.out).mono ?_
        rintro e w5 ⟨⟨yv, rfl, hy⟩, b5⟩
        have B5 : Hid (Below w.heap.size w w5) := B4.out.trans (b5.mono B4.out.size)
        clear b5
        obtain ⟨p1, hp1⟩ : ∃ p, (readV sl).2.1 = p := ⟨_, rfl⟩
        by_cases hg : (readV sl).2.2 = 0
        · have hrw := read_write (s := sl) (y := (readV sl).1) (k := (readV sl).2.1) (by rw [← hg])
          obtain ⟨y, hyy⟩ : ∃ y, (readV sl).1 = y := ⟨_, rfl⟩
          have hyb := HYB.out
          rw [hyy] at hy hrw hyb
          rw [hg, hp1]
          have HYY := Lib.hid hyb
          have Y5 := Lib.hid hy
          obtain ⟨YA, ycap, rfl⟩ := hy.slice
          obtain ⟨yn, hyn⟩ : ∃ yn, y.length = yn := ⟨_, rfl⟩
          have HYN := Lib.hid hyn
          rw [hyn] at Y5 ⊢
          have HW5 := HWR.out (.slice YA yn ycap) y w5 B5.out Y5.out HYY.out
          rcases hrw with hrw | ⟨u, hrw, hru⟩
          · rw [hrw] at HW5
            have HW6 := Lib.hid HW5
            have HR6 := Lib.hid (fun (W : World) (h : Below w.heap.size w W) => HRE.out (bts []) W h (by decide))
            clear hrw HW5 hy hyn hyy hg hp1 hyb
            go_wp2_with fail
            refine HW6.out.mono ?_
            rintro e w6 ⟨rfl, b6⟩
            have B6 : Hid (Below w.heap.size w w6) := B5.out.trans (b6.mono B5.out.size)
            clear b6
            go_wp2_with fail
            refine (HR6.out _ B6.out).mono ?_
            rintro e w7 ⟨⟨zv, rfl, hz⟩, b7⟩
            have B7 : Hid (Below w.heap.size w w7) := B6.out.trans (b7.mono B6.out.size)
            obtain ⟨ZA, zcap, rfl⟩ := hz.slice
            clear hz b7
            go_wp2_with fail
            refine (HA.out _ B7.out).mono ?_
            rintro e w8 ⟨rfl, b8⟩
            go_wp2_with fail
            go_ret
            exact ⟨rfl, B7.out.trans (b8.mono B7.out.size)⟩
          · have hul := writeV_len y
            rw [hrw] at HW5 hul
            obtain ⟨ub, hub⟩ : ∃ b, bts u = b := ⟨_, rfl⟩
            have hubl : ub.data.toList = u := by rw [← hub]
            have hubs : ub.size ≤ 20000 := by rw [Lib.size_eq, hubl]; exact hul
            have HR6 : Hid (∀ W, Below w.heap.size w W → Calls Tryz.prog 8 #[.string ub] W fun e w' => (∃ v, e = .returned (.tuple #[v, .int .i64 (0 : Nat), .int .i64 (0 : Nat)]) ∧ ReadV w' v y) ∧ Below W.heap.size W w') := fun W h => by
              have := HRE.out ub W h hubs
              rw [hubl, hru] at this
              exact this
            have HW5' : Calls Tryz.prog 10 #[.slice YA yn ycap] w5 fun e w' => e = .returned (.tuple #[.string ub, .int .i64 (0 : Nat)]) ∧ Below w5.heap.size w5 w' := by
              rw [← hub]
              exact HW5
            have HW6 := Lib.hid HW5'
            clear hrw hru HW5 HW5' hy hyn hyy hg hp1 hyb hul hub hubl hubs
            go_wp2_with fail
            refine HW6.out.mono ?_
            rintro e w6 ⟨rfl, b6⟩
            have B6 : Hid (Below w.heap.size w w6) := B5.out.trans (b6.mono B5.out.size)
            have Y6 := Lib.hid (Y5.out.below b6)
            clear b6
            go_wp2_with fail
            refine (HR6.out _ B6.out).mono ?_
            rintro e w7 ⟨⟨zv, rfl, hz⟩, b7⟩
            have B7 : Hid (Below w.heap.size w w7) := B6.out.trans (b7.mono B6.out.size)
            have Y7 := Lib.hid (Y6.out.below b7)
            have Z7 := Lib.hid hz
            obtain ⟨ZA, zcap, rfl⟩ := hz.slice
            rw [HYN.out] at Z7 ⊢
            clear hz b7
            go_wp2_with fail
            refine (HA.out _ B7.out).mono ?_
            rintro e w8 ⟨rfl, b8⟩
            have B8 : Hid (Below w.heap.size w w8) := B7.out.trans (b8.mono B7.out.size)
            have HSB := Lib.hid (same_anyB _ _ y w8 (Z7.out.below b8) (Y7.out.below b8) HYY.out)
            clear b8
            go_wp2_with fail
            refine HSB.out.mono ?_
            rintro e w9 ⟨rfl, b9⟩
            go_wp2_with fail
            go_ret
            exact ⟨rfl, B8.out.trans (b9.mono B8.out.size)⟩
        · have hye := readV_bad hg
          rw [hye] at hy
          obtain ⟨YA, ycap, rfl⟩ := hy.slice
          obtain ⟨p2, hp2⟩ : ∃ p, (readV sl).2.2 = p := ⟨_, rfl⟩
          rw [hp1, hp2]
          rw [hp2] at hg
          have hgz : ((p2 : Int) != 0) = true := bne_iff_ne.2 (by omega)
          clear hye hy hp1 hp2
          go_wp2_with fail
          refine (HA.out _ B5.out).mono ?_
          rintro e w6 ⟨rfl, b6⟩
          go_wp2_with fail
          go_ret
          exact ⟨rfl, B5.out.trans (b6.mono B5.out.size)⟩
end Go.Proofs.YtphopnfnjnieaaaGreatDoor
