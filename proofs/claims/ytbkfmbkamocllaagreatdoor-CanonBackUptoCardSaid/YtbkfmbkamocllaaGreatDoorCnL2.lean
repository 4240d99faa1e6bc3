/-
  The law CanonBack: what is written is parsed again, and what is parsed is written and parsed again.
-/
import Derived.Test.YtbkfmbkamocllaaGreatDoorCanE
import Derived.Test.YtbkfmbkamocllaaGreatDoorCnB
import Derived.Test.YtbkfmbkamocllaaGreatDoorHolds
import Derived.Deep.Cut
import Derived.Deep.DeepCutAuto
namespace Go.Proofs.YtbkfmbkamocllaaGreatDoor
open Go.RowKit Tk Tr Cn

theorem writeV_shape (ns : List Nd) : ∃ (S : ByteArray) (z : Int), writeV ns = .tuple #[.string S, .int .i64 z] := by
  unfold writeV
  split
  · exact ⟨_, _, rfl⟩
  · exact ⟨_, _, rfl⟩
theorem back_one {ns : List Nd} (h : rightB ns = true) (hl : (canonT ns).length ≤ 20000) : ∃ els, parseL (bts (canonT ns)).data.toList = (els, 0, 0) ∧ els.map noAt = ns.map noAt := by
  obtain ⟨els, h1, h2⟩ := parse_canon (right_iff.1 h) hl
  exact ⟨els, h1, h2⟩
def manyA (x : Nd) : Bool := decide (10 ≤ x.2.2.2.2.1.length)
theorem few_attrs {ns : List Nd} (hS : (ns.map ownL).sum ≤ 1000000000) : ∀ t ∈ ns.map noAt, t.2.2.2.2.1.length ≤ 1000000000 := fun t ht => by
  obtain ⟨x, hx, rfl⟩ := List.mem_map.1 ht
  have h : 20 + 2 * x.2.2.1.length + 6 * x.2.2.2.1.length + 6 * x.2.2.2.2.2.length + ownA x.2.2.2.2.1 ≤ 1000000000 := Nat.le_trans (own_le hx) hS
  have hc := ownA_count x.2.2.2.2.1
  show x.2.2.2.2.1.length ≤ _
  omega
theorem any_take {α : Type} {f : α → Bool} {l : List α} {k : Nat} {x : α} (h : l[k]? = some x) : (l.take (k + 1)).any f = ((l.take k).any f || f x) := by
  rw [List.take_add_one, h, List.any_append]
  simp
/-- Same at nodes of which bare has made the same -/
theorem sameB_any (v u : Value) (z : List Nd) (w : World) (hx : ReadN w v z) (hy : ReadN w u z) (hl : z.length ≤ 1000000000) (hal : ∀ t ∈ z, t.2.2.2.2.1.length ≤ 1000000000) :
    Calls Tryz.prog 7 #[v, u, .func (.func 9) #[] #[]] w fun e w' => e = .returned (.bool true) ∧ Below w.heap.size w w' := by
  refine (sameNR_any v u z z w hx hy hl hl hal hal).mono fun e w' h => ?_
  exact ⟨by rw [h.1]; simp, h.2⟩
set_option maxHeartbeats 4000000 in
set_option maxRecDepth 100000 in
theorem canonBack_any (v : Value) (ns : List Nd) (s : ByteArray) (w : World) (hT : Tabs w) (hE : ErrS w) (hv : ReadM w v ns) (hl : ns.length ≤ 1048576) (hS : (ns.map ownL).sum ≤ 1000000000) :
    Calls Tryz.prog 3 #[v, .string s] w (Holds w) := by
  have HAW := Lib.hid (fun (W : World) (h : Below w.heap.size w W) => awakeC_any W (hT.below h))
  have HPA := Lib.hid (fun (x : ByteArray) (h0 : x.size ≤ 100000) (W : World) (h : Below w.heap.size w W) => parse_any x W (hT.below h) (hE.below h) h0)
  have HWN := Lib.hid (fun (u : Value) (ts : List Nd) (W : World) (h : Below w.heap.size w W) (hu : ReadM W u ts) (h1 : ts.length ≤ 1000000) (h2 : (ts.map ownL).sum ≤ 1000000000) => write_any u ts W (hT.below h) hu h1 h2)
  have HWR := Lib.hid (fun (h : ns.length ≤ 1000000) => write_any v ns w hT hv h hS)
  have HFE := Lib.hid (few_attrs hS)
  have HNV := Lib.hid (hv.reads)
  have HRB := Lib.hid (back_one (ns := ns))
  have HYES := Lib.hid (fun (h : rightB ns = true) => writeV_yes (ns := ns) h rfl)
  have HNO := Lib.hid (fun (h : rightB ns = false) => writeV_no (ns := ns) h)
  have hsz := Lib.size_eq s
  obtain ⟨O, hO⟩ : ∃ O, parseL s.data.toList = O := ⟨_, rfl⟩
  have HO := Lib.hid hO
  obtain ⟨ts, p, q⟩ := O
  have HSM : Hid (s.size ≤ 3000 → q = 0 → ts.length ≤ 1000 ∧ (ts.map ownL).sum ≤ 1000000000) := fun h1 h2 => by
    subst h2
    exact parse_small hO (by omega)
  have HPR : Hid (q = 0 → ts.any manyA = false → Right ts) := fun h2 hm => by
    subst h2
    refine parse_right hO fun x hx => ?_
    have := List.any_eq_false.1 hm x hx
    unfold manyA at this
    simpa using this
  obtain ⟨S, z, hSz⟩ := writeV_shape ns
  rw [hSz] at HWR HYES HNO
  obtain ⟨A, cap, rfl, -⟩ := hv
  obtain ⟨n, hn⟩ : ∃ n, ns.length = n := ⟨_, rfl⟩
  have HN := Lib.hid hn
  rw [hn] at hl HWR HNV ⊢
  clear hn hSz hS hT hE hO
  by_cases h100 : n ≤ 100 ∧ s.size ≤ 3000
  · obtain ⟨hn100, hs3⟩ := h100
    have g0 : decide ((n : Int) > 100) = false := decide_eq_false (by omega)
    have g1 : decide ((s.size : Int) > 3000) = false := decide_eq_false (by omega)
    have HWR2 := Lib.hid (HWR.out (by omega))
    have HSM2 := Lib.hid (HSM.out hs3)
    have HPS := Lib.hid (HPA.out s (by omega))
    rw [HO.out] at HPS
    clear HWR HSM hsz hl HO
    go_enter Tryz.func3, Tryz.ntmps3
    go_wp2_with fail
    refine HWR2.out.mono ?_
    rintro e w1 ⟨rfl, b1⟩
    have B1 := Lib.hid b1
    clear b1
    go_upto_region 4 with fail
    go_cut [40] from 34 to 40 (fun c wx => c = .bool ((z == 0) && decide (S.size ≤ 20000)) ∧ wx = w1)
    case first =>
      by_cases hz : z = 0
      · have g2 : (z == 0) = true := by simp [hz]
        have HZ := Lib.hid hz
        clear hz
        go_wp2_with fail
        go_meet
        exact ⟨by rw [g2, Bool.true_and]; simp; omega, rfl⟩
      · have g2 : (z == 0) = false := by simp [hz]
        have HZ := Lib.hid hz
        clear hz
        go_wp2_with fail
        go_meet
        exact ⟨by rw [g2, Bool.false_and], rfl⟩
    case rest =>
    obtain ⟨rfl, rfl⟩ := hcut
    obtain ⟨C, hC⟩ : ∃ C, ((z == 0) && decide (S.size ≤ 20000)) = C := ⟨_, rfl⟩
    have HC := Lib.hid hC
    rw [hC]
    clear hC
    go_upto_if 40 with fail
    go_cut [5] from 5 to 56 (fun x5 wx => x5 = .string S ∧ Hid (Below w.heap.size w wx))
    case first =>
      cases C with
      | false =>
        go_wp2_with fail
        go_meet
        exact ⟨rfl, B1.out⟩
      | true =>
        have hC := HC.out
        rw [Bool.and_eq_true, decide_eq_true_eq] at hC
        have hz0 : z = 0 := by simpa using hC.1
        have hR : rightB ns = true := by
          cases hr : rightB ns with
          | true => rfl
          | false =>
            have h6 := HNO.out hr
            simp at h6
            omega
        have hSy := HYES.out hR
        simp at hSy
        have hSL : (canonT ns).length ≤ 20000 := by
          rw [← bts_size, ← hSy.1]
          exact hC.2
        obtain ⟨els, he, hno⟩ := HRB.out hR hSL
        have he' : parseL S.data.toList = (els, 0, 0) := by rw [hSy.1]; exact he
        have HP1 := Lib.hid (HPA.out S (by omega) wc B1.out)
        rw [he'] at HP1
        have hel : els.length = n := (noAt_len hno).trans HN.out
        have HEL := Lib.hid hel
        have HNOE := Lib.hid hno
        clear hC hz0 hR hSy hSL he he' hno hel HC HRB HYES HNO
        go_wp2_with fail
        refine HP1.out.mono ?_
        rintro e w2 ⟨⟨yv, rfl, oy⟩, b2⟩
        simp only at oy ⊢
        have hrd := oy.reads
        obtain ⟨YA, ycap, rfl⟩ := oy.slice
        have B2 : Hid (Below w.heap.size w w2) := B1.out.trans (b2.mono B1.out.size)
        have HBA := Lib.hid (bare_any _ els w2 hrd (by rw [HEL.out]; omega))
        have HSA := Lib.hid (fun (v u : Value) (W : World) (hx : ReadN W v (ns.map noAt)) (hy : ReadN W u (ns.map noAt)) => sameB_any v u (ns.map noAt) W hx hy (by rw [List.length_map, HN.out]; omega) HFE.out)
        have HBN := Lib.hid (fun (W : World) (h : Below w.heap.size w W) => bare_any _ ns W (HNV.out.below h) (by rw [HN.out]; omega))
        rw [HEL.out] at HBA ⊢
        clear oy b2 hrd
        go_wp2_with fail
        refine HBA.out.mono ?_
        rintro e w3 ⟨⟨v3, rfl, r3⟩, b3⟩
        rw [HNOE.out] at r3
        have B3 : Hid (Below w.heap.size w w3) := B2.out.trans (b3.mono B2.out.size)
        have R3 := Lib.hid r3
        clear b3 r3
        go_wp2_with fail
        refine (HBN.out w3 B3.out).mono ?_
        rintro e w4 ⟨⟨v4, rfl, r4⟩, b4⟩
        have B4 : Hid (Below w.heap.size w w4) := B3.out.trans (b4.mono B3.out.size)
        have R4 := Lib.hid r4
        have R5 : Hid (ReadN w4 v3 (ns.map noAt)) := R3.out.below b4
        clear b4 r4 R3
        go_wp2_with fail
        refine (HSA.out v3 v4 w4 R5.out R4.out).mono ?_
        rintro e w5 ⟨rfl, b5⟩
        have B5 : Hid (Below w.heap.size w w5) := B4.out.trans (b5.mono B4.out.size)
        clear b5
        go_wp2_with fail
        go_meet
        exact ⟨rfl, B5.out⟩
    case rest =>
      obtain ⟨rfl, BC⟩ := hcut
      clear HWR2 HFE HNV HRB HYES HNO HC B1 HN
      obtain ⟨qz, hqz⟩ : ∃ a : Int, (q : Int) = a := ⟨_, rfl⟩
      have HQZ := Lib.hid hqz
      by_cases hq : q = 0
      · have hq0 : qz = 0 := by omega
        have HQ0 := Lib.hid hq0
        have HPS2 := Lib.hid (HPS.out _ BC.out)
        obtain ⟨hm1, hm2⟩ := HSM2.out hq
        have HPR2 := Lib.hid (HPR.out hq)
        have HSU := Lib.hid hm2
        obtain ⟨U, y, hU⟩ := writeV_shape ts
        have HU := Lib.hid hU
        obtain ⟨m, hm⟩ : ∃ m, ts.length = m := ⟨_, rfl⟩
        have HM := Lib.hid hm
        rw [hm] at hm1
        have HML := Lib.hid hm1
        clear hqz hq hq0 hU hm hm2 HPS HSM2 HPR
        go_wp2_with fail
        refine HPS2.out.mono ?_
        rintro e w2 ⟨⟨tv, rfl, ot⟩, b2⟩
        simp only at ot ⊢
        rw [HQZ.out, HQ0.out]
        have B2 : Hid (Below w.heap.size w w2) := BC.out.trans (b2.mono BC.out.size)
        have HWT := Lib.hid (HWN.out tv ts w2 B2.out ot.readM (by rw [HM.out]; omega) HSU.out)
        rw [HU.out] at HWT
        have RT := ot.reads
        have RTN := Lib.hid RT
        obtain ⟨TA, tcap, rfl, hx⟩ := RT
        have HX := Lib.hid hx
        rw [HM.out] at RTN HWT ⊢
        clear ot b2 hx
        go_wp2_with fail
        refine HWT.out.mono ?_
        rintro e w3 ⟨rfl, b3⟩
        have B3 : Hid (Below w.heap.size w w3) := B2.out.trans (b3.mono B2.out.size)
        have B23 := Lib.hid b3
        clear b3 HWT HPS2 HWN
        go_wp2_with fail
        go_loop [15, 16] (fun mv iv => ∃ (k : Nat) (M : Bool), k ≤ m ∧ iv = .int .i64 k ∧ mv = .bool M ∧ Hid ((ts.take k).any manyA = M)) (fun _ iv => m - (intOf iv).toNat)
        case atStart => exact ⟨0, false, Nat.zero_le _, rfl, rfl, by unfold Hid; rw [List.take_zero]; rfl⟩
        case round =>
          obtain ⟨k, M, hk, rfl, rfl, hM⟩ := hrel
          by_cases hlt : k < m
          · obtain ⟨ad, rfl, hlb, hc⟩ := HX.out (by rw [HM.out]; omega)
            obtain ⟨x, hxx⟩ : ∃ x, ts[k]? = some x := ⟨_, List.getElem?_eq_getElem (by rw [HM.out]; exact hlt)⟩
            obtain ⟨u, hat, hua⟩ := hc k x hxx
            obtain ⟨k0, k1, k2, k3, k4, k5⟩ := hat.of (w' := w3) (B23.out.block _ (by rw [addBlock]; exact hlb))
            obtain ⟨UA, ucap, rfl, -⟩ := hua
            obtain ⟨un, hun⟩ : ∃ un, x.2.2.2.2.1.length = un := ⟨_, rfl⟩
            rw [hun] at k4
            have HTK : Hid ((ts.take (k + 1)).any manyA = ((ts.take k).any manyA || decide (10 ≤ un))) := by
              unfold Hid
              rw [any_take hxx]
              unfold manyA
              rw [hun]
            clear hc hxx hat hun k0 k1 k2 k3 k5
            cases M with
            | true =>
              go_wp2_with fail
              go_round
              case rel => exact ⟨k + 1, true, by omega, by go_num, rfl, by unfold Hid; rw [HTK.out, hM.out]; rfl⟩
              case measure => simp [intOf]; omega
            | false =>
              by_cases h10 : 10 ≤ un
              · have g10 : decide ((un : Int) ≥ 10) = true := decide_eq_true (by omega)
                have D10 : Hid (decide (10 ≤ un) = true) := decide_eq_true h10
                go_wp2_with fail
                go_round
                case rel => exact ⟨k + 1, true, by omega, by go_num, rfl, by unfold Hid; rw [HTK.out, hM.out, D10.out]; rfl⟩
                case measure => simp [intOf]; omega
              · have g10 : decide ((un : Int) ≥ 10) = false := decide_eq_false (by omega)
                have D10 : Hid (decide (10 ≤ un) = false) := decide_eq_false h10
                go_wp2_with fail
                go_round
                case rel => exact ⟨k + 1, false, by omega, by go_num, rfl, by unfold Hid; rw [HTK.out, hM.out, D10.out]; rfl⟩
                case measure => simp [intOf]; omega
          · have HTT : Hid (ts.any manyA = M) := by
              unfold Hid
              rw [← hM.out, List.take_of_length_le (by rw [HM.out]; omega)]
            clear hM
            cases M with
            | true =>
              go_wp2_with (go_at_call 4; refine (HAW.out _ B3.out).mono ?_; rintro e w4 ⟨rfl, b4⟩)
              go_ret
              exact ⟨rfl, B3.out.trans (b4.mono B3.out.size)⟩
            | false =>
              have hR : rightB ts = true := right_iff.2 (HPR2.out HTT.out)
              have hU := HU.out
              rw [writeV_yes hR rfl] at hU
              simp at hU
              have gy : (y == 0) = true := by simp; omega
              by_cases h20 : U.size ≤ 20000
              · have g20 : decide ((U.size : Int) > 20000) = false := decide_eq_false (by omega)
                obtain ⟨els, he, hno⟩ := back_one hR (by rw [← bts_size, hU.1]; exact h20)
                have he' : parseL U.data.toList = (els, 0, 0) := by rw [← hU.1]; exact he
                have HP3 := Lib.hid (HPA.out U (by omega) w3 B3.out)
                rw [he'] at HP3
                have hel : els.length = m := (noAt_len hno).trans HM.out
                have HEL := Lib.hid hel
                have HNOE := Lib.hid hno
                have HFT := Lib.hid (few_attrs HSU.out)
                clear hR hU he he' hno hel HU HPA HPR2 HTT
                go_wp2_with fail
                refine HP3.out.mono ?_
                rintro e w4 ⟨⟨yv, rfl, oy⟩, b4⟩
                simp only at oy ⊢
                have RY := Lib.hid oy.reads
                obtain ⟨YA, ycap, rfl⟩ := oy.slice
                have B4 : Hid (Below w.heap.size w w4) := B3.out.trans (b4.mono B3.out.size)
                have RT4 : Hid (ReadN w4 (.slice TA m tcap) ts) := (RTN.out.below B23.out).below b4
                rw [HEL.out] at RY ⊢
                clear oy b4
                go_wp2_with fail
                refine (HAW.out w4 B4.out).mono ?_
                rintro e w5 ⟨rfl, b5⟩
                have B5 : Hid (Below w.heap.size w w5) := B4.out.trans (b5.mono B4.out.size)
                have RT5 : Hid (ReadN w5 (.slice TA m tcap) ts) := RT4.out.below b5
                have RY5 : Hid (ReadN w5 (.slice YA m ycap) els) := RY.out.below b5
                have HBT := Lib.hid (bare_any _ ts w5 RT5.out (by rw [HM.out]; omega))
                clear b5
                go_wp2_with fail
                refine HBT.out.mono ?_
                rintro e w6 ⟨⟨v6, rfl, r6⟩, b6⟩
                have B6 : Hid (Below w.heap.size w w6) := B5.out.trans (b6.mono B5.out.size)
                have R6 := Lib.hid r6
                have RY6 : Hid (ReadN w6 (.slice YA m ycap) els) := RY5.out.below b6
                have HBY := Lib.hid (bare_any _ els w6 RY6.out (by rw [HEL.out]; omega))
                rw [HNOE.out] at HBY
                clear b6 r6
                go_wp2_with fail
                refine HBY.out.mono ?_
                rintro e w7 ⟨⟨v7, rfl, r7⟩, b7⟩
                have B7 : Hid (Below w.heap.size w w7) := B6.out.trans (b7.mono B6.out.size)
                have HSA := Lib.hid (sameB_any v6 v7 (ts.map noAt) w7 (R6.out.below b7) r7 (by rw [List.length_map, HM.out]; omega) HFT.out)
                clear b7 r7
                go_wp2_with fail
                refine HSA.out.mono ?_
                rintro e w8 ⟨rfl, b8⟩
                have B8 : Hid (Below w.heap.size w w8) := B7.out.trans (b8.mono B7.out.size)
                clear b8
                go_wp2_with fail
                go_ret
                exact ⟨rfl, B8.out⟩
              · have g20 : decide ((U.size : Int) > 20000) = true := decide_eq_true (by omega)
                clear hR hU HU
                go_wp2_with (go_at_call 4; refine (HAW.out _ B3.out).mono ?_; rintro e w4 ⟨rfl, b4⟩)
                go_ret
                exact ⟨rfl, B3.out.trans (b4.mono B3.out.size)⟩
      · have hq0 : (qz != 0) = true := by simp; omega
        have HPS2 := Lib.hid (HPS.out _ BC.out)
        clear hqz hq HPS HSM2 HPR
        go_wp2_with fail
        refine HPS2.out.mono ?_
        rintro e w2 ⟨⟨tv, rfl, ot⟩, b2⟩
        simp only at ot ⊢
        rw [HQZ.out]
        have B2 : Hid (Below w.heap.size w w2) := BC.out.trans (b2.mono BC.out.size)
        obtain ⟨TA, tcap, rfl⟩ := ot.slice
        clear ot b2
        go_wp2_with (go_at_call 4; refine (HAW.out _ B2.out).mono ?_; rintro e w3 ⟨rfl, b3⟩)
        go_ret
        exact ⟨rfl, B2.out.trans (b3.mono B2.out.size)⟩
  · by_cases hn100 : n ≤ 100
    · have g0 : decide ((n : Int) > 100) = false := decide_eq_false (by omega)
      have g1 : decide ((s.size : Int) > 3000) = true := decide_eq_true (by omega)
      clear HWR HSM hsz hl h100
      go_enter Tryz.func3, Tryz.ntmps3
      go_wp2_with (go_at_call 4; refine (HAW.out _ (Below.refl _ _)).mono ?_; rintro e w3 ⟨rfl, b3⟩)
      go_ret
      exact ⟨rfl, b3⟩
    · have g0 : decide ((n : Int) > 100) = true := decide_eq_true (by omega)
      clear HWR HSM hsz hl h100
      go_enter Tryz.func3, Tryz.ntmps3
      go_wp2_with (go_at_call 4; refine (HAW.out _ (Below.refl _ _)).mono ?_; rintro e w3 ⟨rfl, b3⟩)
      go_ret
      exact ⟨rfl, b3⟩
end Go.Proofs.YtbkfmbkamocllaaGreatDoor
