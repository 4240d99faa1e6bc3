import Derived.Test.YtogjhpcjjmcjfaaGreatDoorM46
import Derived.Test.YtogjhpcjjmcjfaaGreatDoorM47
import Derived.Test.YtogjhpcjjmcjfaaGreatDoorM39
import Derived.Test.YtogjhpcjjmcjfaaGreatDoorM27
/- what is reached of it -/
namespace Go.Proofs.YtogjhpcjjmcjfaaGreatDoor
open Go.RowKit Go.Sort Sy Vc Ct Tx
set_option linter.unusedSimpArgs false in
set_option maxHeartbeats 16000000 in
set_option maxRecDepth 100000 in
theorem itemSortsF_any (v : Value) (l : List (Itm × Slc)) (w : World) (hO : Okw w) (hR : ReadI w.heap.size w v l) (hl : l.length ≤ 140737488355328) (hbj : ∀ p ∈ l, p.1.jid.length ≤ 140737488355328) (hbg : ∀ p ∈ l, p.1.groups.length ≤ 8796093022208) :
    Calls Tryz.prog 4 #[v] w fun e w' => e = .returned (.bool true) ∧ Below w.heap.size w w' := by
  have HSM := Lib.hid (smallZ_any v l w hR hl hbg)
  have HEA : Hid (∀ p ∈ l, p.1.jid.length ≤ 140737488355328 ∧ p.1.groups.length ≤ 8796093022208) := fun p hp => ⟨hbj p hp, hbg p hp⟩
  have HAW : Hid (∀ W, Below w.heap.size w W → Calls Tryz.prog 10 #[] W fun e w' => e = .returned (.bool true) ∧ Below W.heap.size W w') := fun W h => iawake_any W (hO.below h)
  obtain ⟨va, n, vc, rfl⟩ : ∃ a n c, v = .slice a n c := by obtain ⟨A, cap, hv, _⟩ := hR; exact ⟨A, _, cap, hv⟩
  have hnl : l.length = n := by obtain ⟨A, cap, hv, _⟩ := hR; injection hv with _ h2 _; exact h2.symm
  have HR := Lib.hid hR
  have HO := Lib.hid hO
  have HNL := Lib.hid hnl
  clear hR hO hl hbj hbg hnl
  go_enter Tryz.func4, Tryz.ntmps4
  go_wp2_with fail
  refine HSM.out.mono ?_
  rintro e w1 ⟨⟨cs, rfl, hcs⟩, b1⟩
  have B1 := Lib.hid b1
  have HCS := Lib.hid hcs
  clear b1 HSM hcs
  cases cs with
  | false =>
    have HA := Lib.hid (HAW.out w1 B1.out)
    go_wp2_with fail
    refine HA.out.mono ?_
    rintro e w2 ⟨rfl, b2⟩
    go_wp2_with fail
    go_ret
    exact ⟨rfl, B1.out.trans (b2.mono B1.out.size)⟩
  | true =>
    have hn150 : n ≤ 150 := by rw [← HNL.out]; exact HCS.out rfl
    have HQ := Lib.hid (sortIt_any (.slice va n vc) l w1 (HO.out.below B1.out) (HR.out.upon B1.out) (by rw [HNL.out]; omega) (fun p hp => (HEA.out p hp).1) (fun p hp => (HEA.out p hp).2))
    clear HCS
    go_wp2_with fail
    refine HQ.out.mono ?_
    rintro e w2 ⟨v2, l2, rfl, hR2, hm2, b2⟩
    have B2 : Hid (Below w.heap.size w w2) := B1.out.trans (b2.mono B1.out.size)
    have HM2 := Lib.hid hm2
    have hl2 : l2.length = n := by
      have := congrArg List.length hm2
      rw [List.length_map, sortS_len, List.length_map, HNL.out] at this
      exact this
    have HE2 : Hid (∀ p ∈ l2, p.1.jid.length ≤ 140737488355328 ∧ p.1.groups.length ≤ 8796093022208) := fun p hp => by
      have h1 : p.1 ∈ l2.map (·.1) := List.mem_map.2 ⟨p, hp, rfl⟩
      rw [hm2] at h1
      obtain ⟨q, hq, e⟩ := List.mem_map.1 ((sortS_perm _).mem_iff.1 h1)
      rw [← e]
      exact HEA.out q hq
    obtain ⟨ua, un, uc, rfl⟩ : ∃ a n c, v2 = .slice a n c := by obtain ⟨A, cap, hv, _⟩ := hR2; exact ⟨A, _, cap, hv⟩
    have hun : un = n := by obtain ⟨A, cap, hv, _⟩ := hR2; injection hv with _ h2 _; rw [← hl2]; exact h2
    subst hun
    have HR2 := Lib.hid hR2
    have HL2 := Lib.hid hl2
    clear HQ hR2 hm2 b2 hl2
    go_wp2_with fail
    go_loopw [4] (fun iv wr => ∃ i : Nat, 1 ≤ i ∧ iv = .int .i64 i ∧ Hid (Below w2.heap.size w2 wr)) (fun iv _ => un - (intOf iv).toNat)
    case atStart => exact ⟨1, Nat.le_refl _, rfl, Below.refl _ _⟩
    case round =>
      obtain ⟨i, hi1, rfl, BW⟩ := hrel
      by_cases hin : i < un
      · have hiz : (i : Int) < (un : Int) := by omega
        have hi0 : (0 : Int) ≤ (i : Int) := by omega
        obtain ⟨b, off, cap, hv, hcell⟩ := HR2.out.jid (by rw [HL2.out]; omega)
        injection hv with hv1 hv2 hv3
        subst hv1
        clear hv2 hv3
        obtain ⟨j, hj⟩ : ∃ j, i = j + 1 := ⟨i - 1, by omega⟩
        obtain ⟨p, hp⟩ : ∃ p, l2[i]? = some p := ⟨_, List.getElem?_eq_getElem (by rw [HL2.out]; exact hin)⟩
        obtain ⟨q, hq⟩ : ∃ p, l2[j]? = some p := ⟨_, List.getElem?_eq_getElem (by rw [HL2.out]; omega)⟩
        have hlt := sorted_pair HM2.out (show j < i by omega) hp hq
        have hjw : IntKind.i64.wrap ((i : Int) - 1) = (j : Int) := by rw [IntKind.wrap_i64]; omega
        have hjz : (j : Int) < (un : Int) := by omega
        have hj0 : (0 : Int) ≤ (j : Int) := by omega
        have hcal : ∀ v : Sy.Bel wr, Calls Tryz.prog 24 #[.string (bts p.1.jid), .string (bts q.1.jid)] v.v fun e w' => e = .returned (.bool false) ∧ Below v.v.heap.size v.v w' := fun v => by
          have h1 := (HE2.out p (List.mem_of_getElem? hp)).1
          have h2 := (HE2.out q (List.mem_of_getElem? hq)).1
          have := rlessZ_any (bts p.1.jid) (bts q.1.jid) v.v (by rw [Lib.size_eq]; show p.1.jid.length ≤ _; omega) (by rw [Lib.size_eq]; show q.1.jid.length ≤ _; omega)
          rw [show Jd.lessL (bts p.1.jid).data.toList (bts q.1.jid).data.toList = false from hlt] at this
          exact this
        obtain ⟨P, hP⟩ : ∃ P, off + i * 6 = P := ⟨_, rfl⟩
        obtain ⟨Q, hQ⟩ : ∃ P, off + j * 6 = P := ⟨_, rfl⟩
        have c1 : ∀ v : Sy.Bel wr, v.v.cell? ⟨b, P, none⟩ = some (.string (bts p.1.jid)) := fun v => by rw [← hP]; exact hcell v.v (BW.out.trans (v.h.mono BW.out.size)) i p hp
        have c2 : ∀ v : Sy.Bel wr, v.v.cell? ⟨b, Q, none⟩ = some (.string (bts q.1.jid)) := fun v => by rw [← hQ]; exact hcell v.v (BW.out.trans (v.h.mono BW.out.size)) j q hq
        obtain ⟨X, hX⟩ : ∃ X, bts p.1.jid = X := ⟨_, rfl⟩
        obtain ⟨Y, hY⟩ : ∃ X, bts q.1.jid = X := ⟨_, rfl⟩
        rw [hX] at hcal c1
        rw [hY] at hcal c2
        clear hcell hp hq hlt hX hY hj
        go_wp2_with fail
        refine Sy.wp_region_quiet_bel (by kernel_rfl) (by kernel_rfl) ?_
        repeat (go_big_quiet_step ((go_at_call 24; exact Sy.Calls.bel_of (hcal _))))
        refine wpQuiet_nil ?_
        intro w5 hw'
        have hb5 : Below wr.heap.size wr w5 := by obtain ⟨v, rfl⟩ := hw'; exact v.h
        have B5 : Hid (Below w2.heap.size w2 w5) := BW.out.trans (hb5.mono BW.out.size)
        clear hw' hb5 hcal c1 c2 hP hQ hjw
        go_wp2_with fail
        go_roundw
        case rel => exact ⟨i + 1, by omega, by go_num, B5⟩
        case measure => simp [intOf]; omega
      · have hiz : ¬ (i : Int) < (un : Int) := by omega
        have B3 : Hid (Below w.heap.size w wr) := B2.out.trans (BW.out.mono B2.out.size)
        have R3 := Lib.hid (HR2.out.upon BW.out)
        clear HR2 BW B2 hin
        obtain ⟨w3, hw3⟩ : ∃ z, z = wr := ⟨_, rfl⟩
        rw [← hw3] at B3 R3 ⊢
        clear hw3
        have HR3 := Lib.hid (HR.out.upon B3.out)
        go_wp2_with fail
        go_loopw [5, 6, 7, 8, 9] (fun iv av bv cv dv wr => ∃ (i : Nat) (u6 u7 u8 u9 : Value), i ≤ un ∧ iv = .int .i64 i ∧ av = u6 ∧ bv = u7 ∧ cv = u8 ∧ dv = u9 ∧ Hid (Below w3.heap.size w3 wr)) (fun iv _ _ _ _ _ => un - (intOf iv).toNat)
        case atStart => exact ⟨0, _, _, _, _, Nat.zero_le _, rfl, rfl, rfl, rfl, rfl, Below.refl _ _⟩
        case round =>
          obtain ⟨k, u6, u7, u8, u9, hk, rfl, rfl, rfl, rfl, rfl, BW⟩ := hrel
          by_cases hkn : k < un
          · have hkz : (k : Int) < (un : Int) := by omega
            have hk0 : (0 : Int) ≤ (k : Int) := by omega
            obtain ⟨b, off, cap, hv, hcell⟩ := HR3.out.jid (by rw [HNL.out]; omega)
            injection hv with hv1 hv2 hv3
            subst hv1
            clear hv2 hv3
            obtain ⟨p, hp⟩ : ∃ p, l[k]? = some p := ⟨_, List.getElem?_eq_getElem (by rw [HNL.out]; exact hkn)⟩
            obtain ⟨q, hq⟩ := find_mem hp
            obtain ⟨q2, hq2, hqe⟩ := find_both HM2.out hq
            have HQE := Lib.hid hqe
            have HF1 : Hid (∀ W, Below w3.heap.size w3 W → Calls Tryz.prog 12 #[.slice (some ⟨b, off, none⟩) un vc, .string (bts p.1.jid)] W fun e w' => ∃ g : Slc, e = .returned (.tuple #[agI q.1 (sl g), .bool true]) ∧ ReadT w'.heap.size w' (sl g) (sts q.1.groups) ∧ Below W.heap.size W w') := fun W hW =>
              (findIZ_any (.slice (some ⟨b, off, none⟩) un vc) l p.1.jid W (HR3.out.upon hW) (by rw [HNL.out]; omega) (by rw [HNL.out]; omega) (fun x hx => (HEA.out x hx).2)).mono fun e w' ⟨hbb, hh⟩ => by
                rcases hh with ⟨hn, _⟩ | ⟨y, hy, gv, he, hr⟩
                · rw [hq] at hn; cases hn
                · rw [hq] at hy
                  injection hy with hy
                  subst hy
                  obtain ⟨A, c, hgv, _⟩ := id hr
                  subst hgv
                  exact ⟨(A, _, c), he, hr, hbb⟩
            have HF2 : Hid (∀ W, Below w3.heap.size w3 W → Calls Tryz.prog 12 #[.slice ua un uc, .string (bts p.1.jid)] W fun e w' => ∃ g : Slc, e = .returned (.tuple #[agI q.1 (sl g), .bool true]) ∧ ReadT w'.heap.size w' (sl g) (sts q.1.groups) ∧ Below W.heap.size W w') := fun W hW =>
              (findIZ_any (.slice ua un uc) l2 p.1.jid W (R3.out.upon hW) (by rw [HL2.out]; omega) (by rw [HL2.out]; omega) (fun x hx => (HE2.out x hx).2)).mono fun e w' ⟨hbb, hh⟩ => by
                rcases hh with ⟨hn, _⟩ | ⟨y, hy, gv, he, hr⟩
                · rw [hq2] at hn; cases hn
                · rw [hq2] at hy
                  injection hy with hy
                  subst hy
                  rw [HQE.out] at he hr
                  obtain ⟨A, c, hgv, _⟩ := id hr
                  subst hgv
                  exact ⟨(A, _, c), he, hr, hbb⟩
            have HGL : Hid (q.1.groups.length ≤ 140737488355328) := by have := (HEA.out q (List.mem_of_find?_eq_some hq)).2; unfold Hid; omega
            obtain ⟨P, hP⟩ : ∃ P, off + k * 6 = P := ⟨_, rfl⟩
            have HC : Hid (∀ W, Below w3.heap.size w3 W → W.cell? ⟨b, P, none⟩ = some (.string (bts p.1.jid))) := fun W hW => by rw [← hP]; exact hcell W hW k p hp
            obtain ⟨J, hJ⟩ : ∃ X, bts p.1.jid = X := ⟨_, rfl⟩
            rw [hJ] at HF1 HF2 HC
            clear hcell hp hq hq2 hqe hJ
            obtain ⟨⟨xj, xm, xg, xs, xk, xa⟩, qq⟩ := q
            obtain ⟨X, hX⟩ : ∃ X, bts xj = X := ⟨_, rfl⟩
            obtain ⟨M, hM⟩ : ∃ X, bts xm = X := ⟨_, rfl⟩
            have HAG : Hid (∀ A m c, agI ⟨xj, xm, xg, xs, xk, xa⟩ (sl (A, m, c)) = .agg #[.string X, .string M, .slice A m c, .int .i64 xs, .bool xk, .bool xa]) := fun A m c => by rw [← hX, ← hM]; rfl
            clear hX hM
            have c0 := HC.out wr BW.out
            go_wp2_with fail
            refine (HF1.out wr BW.out).mono ?_
            rintro e w4 ⟨⟨pA, pn, pc⟩, rfl, hg1, b4⟩
            have B4 : Hid (Below w3.heap.size w3 w4) := BW.out.trans (b4.mono BW.out.size)
            have HG1 := Lib.hid hg1
            rw [HAG.out]
            clear b4 hg1 c0
            obtain ⟨W5, hW5⟩ : ∃ W, w4.alloc (.cells #[.string ⟨#[]⟩, .string ⟨#[]⟩, .slice none 0 0, .int .i64 0, .bool false, .bool false] 24) = W := ⟨_, rfl⟩
            obtain ⟨d1, hd1⟩ : ∃ b, w4.heap.size = b := ⟨_, rfl⟩
            have K5 : Hid (Bk W5 d1 24 #[.string ⟨#[]⟩, .string ⟨#[]⟩, .slice none 0 0, .int .i64 0, .bool false, .bool false]) := by rw [← hW5, ← hd1]; exact Bk.new _ _ _
            have b5 : Below w4.heap.size w4 W5 := by rw [← hW5]; exact (Below.refl _ _).alloc (Nat.le_refl _) _
            have HD1 : Hid (w4.heap.size ≤ d1) := by rw [← hd1]; exact Nat.le_refl _
            have z0 : W5.cell? ⟨d1, 0, none⟩ = some (.string ⟨#[]⟩) := K5.out.cell 0
            have zf0 : W5.frozen? ⟨d1, 0, none⟩ = false := K5.out.free 0
            have z1 : W5.cell? ⟨d1, 1, none⟩ = some (.string ⟨#[]⟩) := K5.out.cell 1
            have zf1 : W5.frozen? ⟨d1, 1, none⟩ = false := K5.out.free 1
            have z2 : W5.cell? ⟨d1, 2, none⟩ = some (.slice none 0 0) := K5.out.cell 2
            have zf2 : W5.frozen? ⟨d1, 2, none⟩ = false := K5.out.free 2
            have z3 : W5.cell? ⟨d1, 3, none⟩ = some (.int .i64 0) := K5.out.cell 3
            have zf3 : W5.frozen? ⟨d1, 3, none⟩ = false := K5.out.free 3
            have z4 : W5.cell? ⟨d1, 4, none⟩ = some (.bool false) := K5.out.cell 4
            have zf4 : W5.frozen? ⟨d1, 4, none⟩ = false := K5.out.free 4
            have z5 : W5.cell? ⟨d1, 5, none⟩ = some (.bool false) := K5.out.cell 5
            have zf5 : W5.frozen? ⟨d1, 5, none⟩ = false := K5.out.free 5
            have K6 := Lib.hid (laid6_bk K5.out (.string X) (.string M) (.slice pA pn pc) (.int .i64 xs) (.bool xk) (.bool xa))
            have b6 := laid6_below b5 HD1.out (.string X) (.string M) (.slice pA pn pc) (.int .i64 xs) (.bool xk) (.bool xa)
            obtain ⟨w6, hw6⟩ : ∃ z, laid6 W5 d1 (.string X) (.string M) (.slice pA pn pc) (.int .i64 xs) (.bool xk) (.bool xa) = z := ⟨_, rfl⟩
            rw [hw6] at K6 b6
            have B6 : Hid (Below w3.heap.size w3 w6) := B4.out.trans (b6.mono B4.out.size)
            have HG6 := Lib.hid (HG1.out.upon b6)
            clear b5 b6
            go_upto_region 13 with fail
            (try rw [hw6])
            clear hW5 hd1 hw6 z0 zf0 z1 zf1 z2 zf2 z3 zf3 z4 zf4 z5 zf5
            have c0 := HC.out w6 B6.out
            go_wp2_with fail
            refine (HF2.out w6 B6.out).mono ?_
            rintro e w7 ⟨⟨qA, qn, qc⟩, rfl, hg2, b7⟩
            have B7 : Hid (Below w3.heap.size w3 w7) := B6.out.trans (b7.mono B6.out.size)
            have HG2 := Lib.hid hg2
            have HG7 := Lib.hid (HG6.out.upon b7)
            have K7 := Lib.hid (K6.out.below b7 K6.out.lt)
            rw [HAG.out]
            clear b7 hg2 c0
            obtain ⟨W8, hW8⟩ : ∃ W, w7.alloc (.cells #[.string ⟨#[]⟩, .string ⟨#[]⟩, .slice none 0 0, .int .i64 0, .bool false, .bool false] 24) = W := ⟨_, rfl⟩
            obtain ⟨d2, hd2⟩ : ∃ b, w7.heap.size = b := ⟨_, rfl⟩
            have K8 : Hid (Bk W8 d2 24 #[.string ⟨#[]⟩, .string ⟨#[]⟩, .slice none 0 0, .int .i64 0, .bool false, .bool false]) := by rw [← hW8, ← hd2]; exact Bk.new _ _ _
            have b8 : Below w7.heap.size w7 W8 := by rw [← hW8]; exact (Below.refl _ _).alloc (Nat.le_refl _) _
            have HD2 : Hid (w7.heap.size ≤ d2) := by rw [← hd2]; exact Nat.le_refl _
            have z0 : W8.cell? ⟨d2, 0, none⟩ = some (.string ⟨#[]⟩) := K8.out.cell 0
            have zf0 : W8.frozen? ⟨d2, 0, none⟩ = false := K8.out.free 0
            have z1 : W8.cell? ⟨d2, 1, none⟩ = some (.string ⟨#[]⟩) := K8.out.cell 1
            have zf1 : W8.frozen? ⟨d2, 1, none⟩ = false := K8.out.free 1
            have z2 : W8.cell? ⟨d2, 2, none⟩ = some (.slice none 0 0) := K8.out.cell 2
            have zf2 : W8.frozen? ⟨d2, 2, none⟩ = false := K8.out.free 2
            have z3 : W8.cell? ⟨d2, 3, none⟩ = some (.int .i64 0) := K8.out.cell 3
            have zf3 : W8.frozen? ⟨d2, 3, none⟩ = false := K8.out.free 3
            have z4 : W8.cell? ⟨d2, 4, none⟩ = some (.bool false) := K8.out.cell 4
            have zf4 : W8.frozen? ⟨d2, 4, none⟩ = false := K8.out.free 4
            have z5 : W8.cell? ⟨d2, 5, none⟩ = some (.bool false) := K8.out.cell 5
            have zf5 : W8.frozen? ⟨d2, 5, none⟩ = false := K8.out.free 5
            have K9 := Lib.hid (laid6_bk K8.out (.string X) (.string M) (.slice qA qn qc) (.int .i64 xs) (.bool xk) (.bool xa))
            have b9 := laid6_below b8 HD2.out (.string X) (.string M) (.slice qA qn qc) (.int .i64 xs) (.bool xk) (.bool xa)
            obtain ⟨w9, hw9⟩ : ∃ z, laid6 W8 d2 (.string X) (.string M) (.slice qA qn qc) (.int .i64 xs) (.bool xk) (.bool xa) = z := ⟨_, rfl⟩
            rw [hw9] at K9 b9
            have B9 : Hid (Below w3.heap.size w3 w9) := B7.out.trans (b9.mono B7.out.size)
            have HG9 := Lib.hid (HG2.out.upon b9)
            have HG8 := Lib.hid (HG7.out.upon b9)
            have K10 := Lib.hid (K7.out.below b9 K7.out.lt)
            have HI := Lib.hid (helpI_same ⟨xj, xm, xg, xs, xk, xa⟩ (pA, pn, pc) (qA, qn, qc) w9 HG8.out HG9.out HGL.out)
            rw [HAG.out, HAG.out] at HI
            clear b8 b9
            go_upto_region 14 with fail
            (try rw [hw9])
            clear hW8 hd2 hw9 z0 zf0 z1 zf1 z2 zf2 z3 zf3 z4 zf4 z5 zf5
            have m0 : w9.cell? ⟨d1, 0, none⟩ = some (.string X) := K10.out.cell 0
            have o0 : w9.cell? ⟨d2, 0, none⟩ = some (.string X) := K9.out.cell 0
            have m1 : w9.cell? ⟨d1, 1, none⟩ = some (.string M) := K10.out.cell 1
            have o1 : w9.cell? ⟨d2, 1, none⟩ = some (.string M) := K9.out.cell 1
            have m2 : w9.cell? ⟨d1, 2, none⟩ = some (.slice pA pn pc) := K10.out.cell 2
            have o2 : w9.cell? ⟨d2, 2, none⟩ = some (.slice qA qn qc) := K9.out.cell 2
            have m3 : w9.cell? ⟨d1, 3, none⟩ = some (.int .i64 xs) := K10.out.cell 3
            have o3 : w9.cell? ⟨d2, 3, none⟩ = some (.int .i64 xs) := K9.out.cell 3
            have m4 : w9.cell? ⟨d1, 4, none⟩ = some (.bool xk) := K10.out.cell 4
            have o4 : w9.cell? ⟨d2, 4, none⟩ = some (.bool xk) := K9.out.cell 4
            have m5 : w9.cell? ⟨d1, 5, none⟩ = some (.bool xa) := K10.out.cell 5
            have o5 : w9.cell? ⟨d2, 5, none⟩ = some (.bool xa) := K9.out.cell 5
            go_wp2_with fail
            refine HI.out.mono ?_
            rintro e w11 ⟨rfl, b11⟩
            have B11 : Hid (Below w3.heap.size w3 w11) := B9.out.trans (b11.mono B9.out.size)
            clear b11 m0 o0 m1 o1 m2 o2 m3 o3 m4 o4 m5 o5
            go_wp2_with fail
            go_roundw
            case rel => exact ⟨k + 1, _, _, _, _, by omega, by go_num, rfl, rfl, rfl, rfl, B11⟩
            case measure => simp [intOf]; omega
          · have hkz : ¬ (k : Int) < (un : Int) := by omega
            have B4 : Hid (Below w.heap.size w wr) := B3.out.trans (BW.out.mono B3.out.size)
            have HA := Lib.hid (HAW.out wr B4.out)
            go_wp2_with fail
            refine HA.out.mono ?_
            rintro e w5 ⟨rfl, b5⟩
            have B5 : Hid (Below w3.heap.size w3 w5) := BW.out.trans (b5.mono BW.out.size)
            have BO5 : Hid (Below w.heap.size w w5) := B3.out.trans (B5.out.mono B3.out.size)
            have HQ := Lib.hid (sortIt_any (.slice ua un uc) l2 w5 (HO.out.below BO5.out) (R3.out.upon B5.out) (by rw [HL2.out]; omega) (fun p hp => (HE2.out p hp).1) (fun p hp => (HE2.out p hp).2))
            have hnn : ((un : Int) == (un : Int)) = true := by simp
            clear b5
            go_wp2_with fail
            refine HQ.out.mono ?_
            rintro e w6 ⟨v3, l3, rfl, hR3, hm3, b6⟩
            have hm4 : l3.map (·.1) = l2.map (·.1) := by rw [hm3, HM2.out, sort_again ltJ_weak]
            have hl3 : l3.length = l2.length := by have := congrArg List.length hm4; simpa using this
            have B6 : Hid (Below w3.heap.size w3 w6) := B5.out.trans (b6.mono B5.out.size)
            have HS := Lib.hid (itemsI_same v3 (.slice ua un uc) l3 l2 w6 hR3 (R3.out.upon B6.out) hm4 (by rw [hl3, HL2.out]; omega) (fun p hp => by
              obtain ⟨i, hi, rfl⟩ := List.getElem_of_mem hp
              obtain ⟨g2, h2⟩ := map_at hm4 (x := l3[i].1) (g := l3[i].2) (List.getElem?_eq_getElem hi)
              have := (HE2.out _ (List.mem_of_getElem? h2)).2
              exact Nat.le_trans (show l3[i].1.groups.length ≤ 8796093022208 from this) (by decide)))
            obtain ⟨ta, tn, tc, rfl⟩ : ∃ a n c, v3 = .slice a n c := by obtain ⟨A, cap, hv, _⟩ := hR3; exact ⟨A, _, cap, hv⟩
            clear hR3 hm3 hm4 b6
            go_wp2_with fail
            refine HS.out.mono ?_
            rintro e w7 ⟨rfl, b7⟩
            have B7 : Hid (Below w3.heap.size w3 w7) := B6.out.trans (b7.mono B6.out.size)
            go_wp2_with fail
            go_ret
            exact ⟨rfl, B3.out.trans (B7.out.mono B3.out.size)⟩
end Go.Proofs.YtogjhpcjjmcjfaaGreatDoor
