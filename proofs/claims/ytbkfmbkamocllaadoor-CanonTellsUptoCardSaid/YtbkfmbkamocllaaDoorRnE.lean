/-
  cardexref08: write, where a namespace turns (one round of its induction).
-/
import Derived.Test.YtbkfmbkamocllaaDoorRnC
namespace Go.Proofs.YtbkfmbkamocllaaDoor
open Go.RowKit Tk Tr Cn

set_option maxHeartbeats 16000000 in
set_option maxRecDepth 100000 in
theorem rwrite_ne (v : Value) (ns : List Nd) (hR : Right ns) (hS : (ns.map ownL).sum ≤ 1000000000) (f : Nat)
    (ih : ∀ (k : Nat) (sp : List UInt8) (W : World), ReadM W v ns → k < ns.length → 13 ≤ f + (up ns (k : Int)).length → Calls Tryd.prog 14 #[v, .int .i64 k, .string (bts sp)] W fun e w' => e = .returned (.string (bts (writeF ns f k sp))) ∧ Below W.heap.size W w')
    (i : Nat) (sp : List UInt8) (w : World) (hv : ReadM w v ns) (hi : i < ns.length) (hf : 13 ≤ f + 1 + (up ns (i : Int)).length) (x : Nd) (hx : ns[i]? = some x) (heq : x.2.2.2.1 ≠ sp) :
    Calls Tryd.prog 14 #[v, .int .i64 i, .string (bts sp)] w fun e w' => e = .returned (.string (bts (writeF ns (f + 1) i sp))) ∧ Below w.heap.size w w' := by
    have hxm := List.mem_of_getElem? hx
    have hown := own_le hxm
    have hlow := hR.low i
    have hmany := hR.many
    have hown2 : 20 + 2 * x.2.2.1.length + 6 * x.2.2.2.1.length + 6 * x.2.2.2.2.2.length + ownA x.2.2.2.2.1 ≤ 1000000000 := Nat.le_trans hown hS
    have hal : x.2.2.2.2.1.length ≤ 1000000 := by
      have := (hR.each x hxm).2.2.2.1
      omega
    have HSTP := Lib.hid (rwrite_step (sp := sp) (f := f) hx)
    have hkl := kids_le hR (f := f) (sp := x.2.2.2.1) hi
    have hkids : Hid (∀ W, Below w.heap.size w W → Calls Tryd.prog 28 #[v, .int .i64 i] W fun e w' => (∃ v', e = .returned v' ∧ Owned W.heap.size w' v' (kidsL ns (i : Int))) ∧ Below W.heap.size W w') :=
      fun W hW => rkids_any v ns (i : Int) W (hv.below hW).reads (by omega)
    have HE5 : Hid (∀ W, Calls Tryd.prog 12 #[.string (bts x.2.2.2.2.2)] W fun e w' => e = .returned (.string (bts (Tx.esc x.2.2.2.2.2))) ∧ w' = W) :=
      fun W => (rescape_any (bts x.2.2.2.2.2) W (by rw [bts_size]; omega)).mono (fun e w' h => ⟨h.1, h.2.symm⟩)
    have HE3 : Hid (∀ W, Calls Tryd.prog 12 #[.string (bts x.2.2.2.1)] W fun e w' => e = .returned (.string (bts (Tx.esc x.2.2.2.1))) ∧ w' = W) :=
      fun W => (rescape_any (bts x.2.2.2.1) W (by rw [bts_size]; omega)).mono (fun e w' h => ⟨h.1, h.2.symm⟩)
    have HEA : Hid (∀ a ∈ x.2.2.2.2.1, ∀ W, Calls Tryd.prog 12 #[.string (bts a.2)] W fun e w' => e = .returned (.string (bts (Tx.esc a.2))) ∧ w' = W) :=
      fun a ha W => (rescape_any (bts a.2) W (by rw [bts_size]; have := ownA_mem ha; omega)).mono (fun e w' h => ⟨h.1, h.2.symm⟩)
    have HKF : Hid (∀ k ∈ kidsL ns (i : Int), ∀ W, Below w.heap.size w W → Calls Tryd.prog 14 #[v, .int .i64 k, .string (bts x.2.2.2.1)] W fun e w' => e = .returned (.string (bts (writeF ns f k x.2.2.2.1))) ∧ Below W.heap.size W w') := fun k hk W hW => by
      obtain ⟨k1, k2⟩ := kids_mem hk
      refine ih k _ W (hv.below hW) k1 ?_
      rw [up_pos hR.low, k2, List.length_cons]
      omega
    have hcl : (kidsL ns (i : Int)).length ≤ 1000000 := by
      unfold kidsL
      split
      · have := kidsF_len (i : Int) 0 ns
        omega
      · exact Nat.zero_le _
    have HKL : Hid (∀ j, (((kidsL ns (i : Int)).take j).flatMap (fun k => writeF ns f k x.2.2.2.1)).length ≤ 1000000000) := fun j => Nat.le_trans (hkl j) hS
    have HHK : Hid (∀ k, (headK x sp k).length ≤ 1000000000) := fun k => by have := headK_len x sp k; omega
    have HOW := Lib.hid hown2
    have hEl5 := Tx.esc_len x.2.2.2.2.2
    have hEl3 := Tx.esc_len x.2.2.2.1
    have s2 : (bts x.2.2.1).size ≤ 1000000000 := by rw [bts_size]; omega
    have s3 : (bts (Tx.esc x.2.2.2.1)).size ≤ 1000000000 := by rw [bts_size]; omega
    have s5 : (bts (Tx.esc x.2.2.2.2.2)).size ≤ 1000000000 := by rw [bts_size]; omega
    have hq := bts_eqC x.2.2.2.1 sp
    have hem := bts_empty x.2.2.2.2.2
    obtain ⟨E3, hE3⟩ : ∃ y, bts (Tx.esc x.2.2.2.1) = y := ⟨_, rfl⟩
    obtain ⟨E5, hE5⟩ : ∃ y, bts (Tx.esc x.2.2.2.2.2) = y := ⟨_, rfl⟩
    rw [hE3] at HE3 s3
    rw [hE5] at HE5 s5
    have HE3E := Lib.hid hE3
    have HE5E := Lib.hid hE5
    obtain ⟨A, cap, rfl, -, -, hc⟩ := hv
    obtain ⟨ad, rfl, hlb, hcell⟩ := hc (by omega)
    obtain ⟨u, hat, hua⟩ := hcell i x hx
    obtain ⟨k0, k1, k2, k3, k4, k5⟩ := hat
    obtain ⟨UA, ucap, rfl, -, -, hac⟩ := hua
    have HAC := Lib.hid hac
    obtain ⟨un, hun⟩ : ∃ un, x.2.2.2.2.1.length = un := ⟨_, rfl⟩
    have HUN := Lib.hid hun
    rw [hun] at k4 hal HAC
    obtain ⟨n, hn⟩ : ∃ n, ns.length = n := ⟨_, rfl⟩
    rw [hn] at hi hmany hkids HKF ⊢
    obtain ⟨SP, hSP⟩ : ∃ y, bts sp = y := ⟨_, rfl⟩
    obtain ⟨a0, h0⟩ : ∃ a : Int, x.1 = a := ⟨_, rfl⟩
    obtain ⟨a1, h1⟩ : ∃ a : Int, x.2.1 = a := ⟨_, rfl⟩
    obtain ⟨a2, h2⟩ : ∃ a, bts x.2.2.1 = a := ⟨_, rfl⟩
    obtain ⟨a3, h3⟩ : ∃ a, bts x.2.2.2.1 = a := ⟨_, rfl⟩
    obtain ⟨a5, h5⟩ : ∃ a, bts x.2.2.2.2.2 = a := ⟨_, rfl⟩
    rw [hSP] at hq ⊢
    rw [h0] at k0
    rw [h1] at k1
    rw [h2] at k2 s2
    rw [h3] at k3 hq HE3 HKF
    rw [h5] at k5 HE5 hem
    have HA2 := Lib.hid h2
    obtain ⟨Y, hY⟩ : ∃ Y, w.heap.size = Y := ⟨_, rfl⟩
    obtain ⟨W4, hW4⟩ : ∃ W, w.alloc (.cells #[.int .i64 a0, .int .i64 a1, .string a2, .string a3, .slice UA un ucap, .string a5] 32) = W := ⟨_, rfl⟩
    have B4 : Hid (Below w.heap.size w W4) := by rw [← hW4]; exact (Below.refl _ _).alloc (Nat.le_refl _) _
    have hk : Bk W4 Y 32 #[.int .i64 a0, .int .i64 a1, .string a2, .string a3, .slice UA un ucap, .string a5] := by rw [← hW4, ← hY]; exact Bk.new _ _ _
    have y2 : W4.cell? ⟨Y, 2, none⟩ = some (.string a2) := hk.cell 2
    have y3 : W4.cell? ⟨Y, 3, none⟩ = some (.string a3) := hk.cell 3
    have y4 : W4.cell? ⟨Y, 4, none⟩ = some (.slice UA un ucap) := hk.cell 4
    have y5 : W4.cell? ⟨Y, 5, none⟩ = some (.string a5) := hk.cell 5
    have Y2 := Lib.hid y2
    have Y3 := Lib.hid y3
    have Y4 := Lib.hid y4
    have Y5 := Lib.hid y5
    have HYL : Hid (Y < W4.heap.size) := hk.lt
    have HL := Lib.hid (fun (W : World) (h : Below W4.heap.size W4 W) i => h.cell (p := ⟨Y, i, none⟩) HYL.out)
    have HW4 := Lib.hid hW4
    have HYE := Lib.hid hY
    clear ih hx hxm hown hlow hown2 hkl hE3 hE5 hc hcell hac hun hn h0 h1 h2 h3 h5 hY hW4 hk y4 y5 hR hS hf hSP hEl5 hEl3
    have gq : (a3.toList == SP.toList) = false := by rw [hq]; exact decide_eq_false heq
    have HST : Hid (⟨#[60]⟩ ++ a2 ++ ⟨#[32, 120, 109, 108, 110, 115, 61, 39]⟩ ++ E3 ++ ⟨#[39]⟩ = bts (headK x sp 0)) := by unfold Hid; rw [headK_ne heq, ← HA2.out, lead_cat, ← HE3E.out, xmlns_cat]
    clear heq hq
    go_enter Tryd.func14, Tryd.ntmps14
    go_upto_region 2 with fail
    rw [HW4.out, HYE.out]
    clear k0 k1 k2 k3 k4 k5
    go_wp2_with (go_at_call 12; refine (HE3.out _).mono ?_; rintro e w5 ⟨rfl, h6⟩; have h6s := h6.symm; clear h6; subst h6s)
    go_loopw [8, 9] (fun sv c wr => ∃ (k : Nat) (o : ByteArray), k ≤ un ∧ c = .int .i64 k ∧ sv = .string o ∧ Hid (o = bts (headK x sp k)) ∧ Hid (Below W4.heap.size W4 wr)) (fun _ c _ => un - (intOf c).toNat)
    case atStart => exact ⟨0, _, Nat.zero_le _, rfl, rfl, HST.out, Below.refl _ _⟩
    case round =>
      obtain ⟨k, o, hk, rfl, rfl, ho, hb⟩ := hrel
      have r4 := (HL.out _ hb.out 4).trans Y4.out
      have hos : o.size ≤ 1000000000 := by rw [ho.out, bts_size]; exact HHK.out k
      by_cases hlt : k < un
      · obtain ⟨ua, rfl, hub, huc⟩ := HAC.out (by omega)
        obtain ⟨a, ha⟩ : ∃ a, x.2.2.2.2.1[k]? = some a := ⟨_, List.getElem?_eq_getElem (by have := HUN.out; omega)⟩
        obtain ⟨c0, c1⟩ := huc k a ha
        have hbw : Below w.heap.size w wr := B4.out.trans (hb.out.mono B4.out.size)
        rw [← hbw.cell (p := ua.add (k * 2)) (by rw [addBlock]; exact hub)] at c0
        rw [← hbw.cell (p := ⟨(ua.add (k * 2)).block, (ua.add (k * 2)).off + 1, none⟩) (by show (ua.add (k * 2)).block < _; rw [addBlock]; exact hub)] at c1
        have hm := List.mem_of_getElem? ha
        have HQ := Lib.hid (HEA.out a hm)
        have hm2 := ownA_mem hm
        have hel := Tx.esc_len a.2
        have z1 : (bts a.1).size ≤ 1000000000 := by rw [bts_size]; have := HOW.out; omega
        have z2 : (bts (Tx.esc a.2)).size ≤ 1000000000 := by
          have h7 : 6 * a.2.length ≤ ownA x.2.2.2.2.1 := by
            obtain ⟨l1, l2, e⟩ := List.append_of_mem hm
            rw [e, ownA_append]
            have : ownA (a :: l2) = 4 + a.1.length + 6 * a.2.length + ownA l2 := by unfold ownA; rw [List.map_cons, List.sum_cons]
            omega
          rw [bts_size]
          have := HOW.out
          omega
        have HS2 : Hid (o ++ ⟨#[32]⟩ ++ bts a.1 ++ ⟨#[61, 39]⟩ ++ bts (Tx.esc a.2) ++ ⟨#[39]⟩ = bts (headK x sp (k + 1))) := by unfold Hid; rw [ho.out, step_cat, headK_snoc ha]
        obtain ⟨n0, hn0⟩ : ∃ y, bts a.1 = y := ⟨_, rfl⟩
        obtain ⟨v0, hv0⟩ : ∃ y, bts a.2 = y := ⟨_, rfl⟩
        obtain ⟨E, hE⟩ : ∃ y, bts (Tx.esc a.2) = y := ⟨_, rfl⟩
        rw [hn0] at c0 z1 HS2
        rw [hv0] at c1 HQ
        rw [hE] at HQ z2 HS2
        have hkn : (k : Int) < (un : Int) := by omega
        have hk0 : (0 : Int) ≤ (k : Int) := by omega
        clear ha huc hbw hm hm2 hel hn0 hv0 hE
        go_wp2_with fail
        go_quiet ((go_at_call 12; exact Calls.quiet_of_same (HQ.out _)))
        go_wp2_with fail
        go_roundw
        case rel => exact ⟨k + 1, _, by omega, by go_num, rfl, HS2, belowN hb.out _⟩
        case measure => simp [intOf]; omega
      · have HFU : Hid (headK x sp k = headT x sp) := by unfold Hid; rw [← headK_full, HUN.out]; congr 1; omega
        have ho2 : Hid (o = bts (headT x sp)) := by unfold Hid; rw [ho.out, HFU.out]
        have hbw : Hid (Below w.heap.size w wr) := B4.out.trans (hb.out.mono B4.out.size)
        have r5 := (HL.out _ hb.out 5).trans Y5.out
        by_cases hte : x.2.2.2.2.2 = []
        · have gte : a5.toList.isEmpty = true := by rw [hem]; exact decide_eq_true hte
          by_cases hkd : kidsL ns (i : Int) = []
          · have HR : Hid (bts (writeF ns (f + 1) i sp) = o ++ ⟨#[47, 62]⟩) := by unfold Hid; rw [HSTP.out, if_pos ⟨hte, hkd⟩, ho2.out, end_cat]
            have hkz : (kidsL ns (i : Int)).length = 0 := by rw [hkd]; rfl
            clear hte hem hkd
            go_wp2_with (go_at_call 28; refine (hkids.out _ hbw.out).mono ?_; rintro e w5 ⟨⟨kv, rfl, hkv⟩, b5⟩; have r55 := (HL.out _ (hb.out.trans (b5.mono hb.out.size)) 5).trans Y5.out; obtain ⟨KA, kc, hke⟩ := hkv.slice; rw [hkz] at hke; subst hke)
            go_ret
            exact ⟨by rw [HR.out]; rfl, hbw.out.trans (b5.mono hbw.out.size)⟩
          · have HNE : Hid (¬ (x.2.2.2.2.2 = [] ∧ kidsL ns (i : Int) = [])) := fun h => hkd h.2
            obtain ⟨kn, hkn⟩ : ∃ kn, (kidsL ns (i : Int)).length = kn := ⟨_, rfl⟩
            have hkz : ((kn : Int) == 0) = false := by
              have : kn ≠ 0 := fun e => hkd (List.eq_nil_of_length_eq_zero (hkn.trans e))
              simp; omega
            have HKN := Lib.hid hkn
            rw [hkn] at hcl
            clear hte hem hkd
            have HFIN : Hid (∀ q : ByteArray, q = bts (headT x sp ++ ([62] ++ (Tx.esc x.2.2.2.2.2 ++ (kidsL ns (i : Int)).flatMap (fun k => writeF ns f k x.2.2.2.1)))) → q ++ ⟨#[60, 47]⟩ ++ a2 ++ ⟨#[62]⟩ = bts (writeF ns (f + 1) i sp)) := fun q hq => by
              rw [hq, ← HA2.out, shut_cat, HSTP.out, if_neg HNE.out]
              congr 1
              simp
            have HSTA : Hid (o ++ ⟨#[62]⟩ ++ E5 = bts (headT x sp ++ ([62] ++ Tx.esc x.2.2.2.2.2))) := by unfold Hid; rw [ho2.out, ← HE5E.out, open_cat]
            have HTOT : Hid ((headT x sp ++ ([62] ++ Tx.esc x.2.2.2.2.2)).length ≤ 2000000000) := by
              unfold Hid
              have h1 := HHK.out k
              rw [HFU.out] at h1
              have h2 := Tx.esc_len x.2.2.2.2.2
              have h3 := HOW.out
              simp only [List.length_append, List.length_cons, List.length_nil]
              omega
            go_wp2_with (first | (go_at_call 28; refine (hkids.out _ hbw.out).mono ?_; rintro e w5 ⟨⟨kv, rfl, hkv⟩, b5⟩; have r55 := (HL.out _ (hb.out.trans (b5.mono hb.out.size)) 5).trans Y5.out; obtain ⟨KA, kc, hke⟩ := hkv.slice; rw [HKN.out] at hke; subst hke) | (go_at_call 12; refine (HE5.out _).mono ?_; rintro e w6 ⟨rfl, h6⟩; have h6s := h6.symm; clear h6; subst h6s))
            have hb5 : Hid (Below W4.heap.size W4 w5) := hb.out.trans (b5.mono hb.out.size)
            have HRD : Hid (Reads w5.heap.size w5 (.slice KA kn kc) (kidsL ns (i : Int))) := by have := hkv.reads; exact this
            obtain ⟨KA', kc', ek, hkc⟩ := hkv.reads
            rw [HKN.out] at ek hkc
            injection ek with ek1 _ ek2
            subst ek1 ek2
            have HKC := Lib.hid hkc
            have H5S : Hid (W4.heap.size ≤ w5.heap.size) := hb5.out.size
            clear hkc hkv r55 b5
            go_loopw [8, 11] (fun sv c wr => ∃ (j : Nat) (q : ByteArray), j ≤ kn ∧ c = .int .i64 j ∧ sv = .string q ∧ Hid (q = bts (headT x sp ++ ([62] ++ (Tx.esc x.2.2.2.2.2 ++ ((kidsL ns (i : Int)).take j).flatMap (fun k => writeF ns f k x.2.2.2.1))))) ∧ Hid (Below w5.heap.size w5 wr)) (fun _ c _ => kn - (intOf c).toNat)
            case atStart => exact ⟨0, _, Nat.zero_le _, rfl, rfl, (by unfold Hid; rw [HSTA.out]; simp), Below.refl _ _⟩
            case round =>
              obtain ⟨j, q, hj, rfl, rfl, hqq, hb6⟩ := hrel
              have hb64 : Hid (Below W4.heap.size W4 wr) := hb5.out.trans (hb6.out.mono H5S.out)
              have t2 := (HL.out _ hb64.out 2).trans Y2.out
              have t3 := (HL.out _ hb64.out 3).trans Y3.out
              have hqs : q.size ≤ 3000000000 := by
                rw [hqq.out, bts_size]
                have h1 := HTOT.out
                have h2 := HKL.out j
                simp only [List.length_append, List.length_cons, List.length_nil] at h1 ⊢
                omega
              by_cases hjl : j < kn
              · obtain ⟨kad, rfl, hkb, hkcell⟩ := HKC.out (by omega)
                have d0 := hkcell j hjl
                rw [← hb6.out.cell (p := kad.add j) (by rw [addBlock]; exact hkb)] at d0
                obtain ⟨z, hz⟩ : ∃ z, (kidsL ns (i : Int))[j]? = some z := ⟨_, List.getElem?_eq_getElem (by have := HKN.out; omega)⟩
                have hzz : (kidsL ns (i : Int)).getD j 0 = z := by rw [List.getD_eq_getElem?_getD, hz]; rfl
                rw [hzz] at d0
                have HWR := Lib.hid (fun (W : World) (h : Below wr.heap.size wr W) => (HKF.out z (List.mem_of_getElem? hz) W (B4.out.trans ((hb64.out.trans (h.mono hb64.out.size)).mono B4.out.size))))
                have HNX : Hid (q ++ bts (writeF ns f z x.2.2.2.1) = bts (headT x sp ++ ([62] ++ (Tx.esc x.2.2.2.2.2 ++ ((kidsL ns (i : Int)).take (j + 1)).flatMap (fun k => writeF ns f k x.2.2.2.1))))) := by
                  unfold Hid
                  rw [hqq.out, bts_cat, flat_get hz]
                  congr 1
                  simp
                have hes : (bts (writeF ns f z x.2.2.2.1)).size ≤ 1000000000 := by
                  rw [bts_size]
                  have h2 := HKL.out (j + 1)
                  rw [flat_get hz, List.length_append] at h2
                  omega
                obtain ⟨E, hE⟩ : ∃ y, bts (writeF ns f z x.2.2.2.1) = y := ⟨_, rfl⟩
                rw [hE] at HWR HNX hes
                have hjn : (j : Int) < (kn : Int) := by omega
                have hj0 : (0 : Int) ≤ (j : Int) := by omega
                clear hkcell hz hzz hE t2
                go_wp2_with fail
                go_region_with ((go_at_call 14; refine (HWR.out _ ?_).mono ?_; exact ⟨rfl, rfl, rfl, Nat.le_refl _, fun _ _ => rfl⟩; rintro e w7 ⟨rfl, b7⟩))
                all_goals
                  have B7 : Hid (Below w5.heap.size w5 w7) := hb6.out.trans ((⟨b7.os, b7.tape, b7.output, b7.size, b7.block⟩ : Below wr.heap.size wr w7).mono hb6.out.size)
                  clear d0 t3 b7
                  go_wp2_with fail
                  go_roundw
                  case rel => exact ⟨j + 1, _, by omega, by go_num, rfl, HNX, B7⟩
                  case measure => simp [intOf]; omega
              · have hqf : Hid (q = bts (headT x sp ++ ([62] ++ (Tx.esc x.2.2.2.2.2 ++ (kidsL ns (i : Int)).flatMap (fun k => writeF ns f k x.2.2.2.1))))) := by
                  have h1 := hqq.out
                  rw [List.take_of_length_le (by have := HKN.out; omega)] at h1
                  exact h1
                have HEND := Lib.hid (HFIN.out q hqf.out)
                have hB : Hid (Below w.heap.size w wr) := B4.out.trans (hb64.out.mono B4.out.size)
                clear t3
                go_wp2_with fail
                go_ret
                exact ⟨by rw [← HEND.out]; rfl, hB.out⟩
        · have gte : a5.toList.isEmpty = false := by rw [hem]; exact decide_eq_false hte
          have HNE : Hid (¬ (x.2.2.2.2.2 = [] ∧ kidsL ns (i : Int) = [])) := fun h => hte h.1
          obtain ⟨kn, hkn⟩ : ∃ kn, (kidsL ns (i : Int)).length = kn := ⟨_, rfl⟩
          have HKN := Lib.hid hkn
          rw [hkn] at hcl
          clear hte hem
          have HFIN : Hid (∀ q : ByteArray, q = bts (headT x sp ++ ([62] ++ (Tx.esc x.2.2.2.2.2 ++ (kidsL ns (i : Int)).flatMap (fun k => writeF ns f k x.2.2.2.1)))) → q ++ ⟨#[60, 47]⟩ ++ a2 ++ ⟨#[62]⟩ = bts (writeF ns (f + 1) i sp)) := fun q hq => by
            rw [hq, ← HA2.out, shut_cat, HSTP.out, if_neg HNE.out]
            congr 1
            simp
          have HSTA : Hid (o ++ ⟨#[62]⟩ ++ E5 = bts (headT x sp ++ ([62] ++ Tx.esc x.2.2.2.2.2))) := by unfold Hid; rw [ho2.out, ← HE5E.out, open_cat]
          have HTOT : Hid ((headT x sp ++ ([62] ++ Tx.esc x.2.2.2.2.2)).length ≤ 2000000000) := by
            unfold Hid
            have h1 := HHK.out k
            rw [HFU.out] at h1
            have h2 := Tx.esc_len x.2.2.2.2.2
            have h3 := HOW.out
            simp only [List.length_append, List.length_cons, List.length_nil]
            omega
          go_wp2_with (first | (go_at_call 28; refine (hkids.out _ hbw.out).mono ?_; rintro e w5 ⟨⟨kv, rfl, hkv⟩, b5⟩; have r55 := (HL.out _ (hb.out.trans (b5.mono hb.out.size)) 5).trans Y5.out; obtain ⟨KA, kc, hke⟩ := hkv.slice; rw [HKN.out] at hke; subst hke) | (go_at_call 12; refine (HE5.out _).mono ?_; rintro e w6 ⟨rfl, h6⟩; have h6s := h6.symm; clear h6; subst h6s))
          have hb5 : Hid (Below W4.heap.size W4 w5) := hb.out.trans (b5.mono hb.out.size)
          have HRD : Hid (Reads w5.heap.size w5 (.slice KA kn kc) (kidsL ns (i : Int))) := by have := hkv.reads; exact this
          obtain ⟨KA', kc', ek, hkc⟩ := hkv.reads
          rw [HKN.out] at ek hkc
          injection ek with ek1 _ ek2
          subst ek1 ek2
          have HKC := Lib.hid hkc
          have H5S : Hid (W4.heap.size ≤ w5.heap.size) := hb5.out.size
          clear hkc hkv r55 b5
          go_loopw [8, 11] (fun sv c wr => ∃ (j : Nat) (q : ByteArray), j ≤ kn ∧ c = .int .i64 j ∧ sv = .string q ∧ Hid (q = bts (headT x sp ++ ([62] ++ (Tx.esc x.2.2.2.2.2 ++ ((kidsL ns (i : Int)).take j).flatMap (fun k => writeF ns f k x.2.2.2.1))))) ∧ Hid (Below w5.heap.size w5 wr)) (fun _ c _ => kn - (intOf c).toNat)
          case atStart => exact ⟨0, _, Nat.zero_le _, rfl, rfl, (by unfold Hid; rw [HSTA.out]; simp), Below.refl _ _⟩
          case round =>
            obtain ⟨j, q, hj, rfl, rfl, hqq, hb6⟩ := hrel
            have hb64 : Hid (Below W4.heap.size W4 wr) := hb5.out.trans (hb6.out.mono H5S.out)
            have t2 := (HL.out _ hb64.out 2).trans Y2.out
            have t3 := (HL.out _ hb64.out 3).trans Y3.out
            have hqs : q.size ≤ 3000000000 := by
              rw [hqq.out, bts_size]
              have h1 := HTOT.out
              have h2 := HKL.out j
              simp only [List.length_append, List.length_cons, List.length_nil] at h1 ⊢
              omega
            by_cases hjl : j < kn
            · obtain ⟨kad, rfl, hkb, hkcell⟩ := HKC.out (by omega)
              have d0 := hkcell j hjl
              rw [← hb6.out.cell (p := kad.add j) (by rw [addBlock]; exact hkb)] at d0
              obtain ⟨z, hz⟩ : ∃ z, (kidsL ns (i : Int))[j]? = some z := ⟨_, List.getElem?_eq_getElem (by have := HKN.out; omega)⟩
              have hzz : (kidsL ns (i : Int)).getD j 0 = z := by rw [List.getD_eq_getElem?_getD, hz]; rfl
              rw [hzz] at d0
              have HWR := Lib.hid (fun (W : World) (h : Below wr.heap.size wr W) => (HKF.out z (List.mem_of_getElem? hz) W (B4.out.trans ((hb64.out.trans (h.mono hb64.out.size)).mono B4.out.size))))
              have HNX : Hid (q ++ bts (writeF ns f z x.2.2.2.1) = bts (headT x sp ++ ([62] ++ (Tx.esc x.2.2.2.2.2 ++ ((kidsL ns (i : Int)).take (j + 1)).flatMap (fun k => writeF ns f k x.2.2.2.1))))) := by
                unfold Hid
                rw [hqq.out, bts_cat, flat_get hz]
                congr 1
                simp
              have hes : (bts (writeF ns f z x.2.2.2.1)).size ≤ 1000000000 := by
                rw [bts_size]
                have h2 := HKL.out (j + 1)
                rw [flat_get hz, List.length_append] at h2
                omega
              obtain ⟨E, hE⟩ : ∃ y, bts (writeF ns f z x.2.2.2.1) = y := ⟨_, rfl⟩
              rw [hE] at HWR HNX hes
              have hjn : (j : Int) < (kn : Int) := by omega
              have hj0 : (0 : Int) ≤ (j : Int) := by omega
              clear hkcell hz hzz hE t2
              go_wp2_with fail
              go_region_with ((go_at_call 14; refine (HWR.out _ ?_).mono ?_; exact ⟨rfl, rfl, rfl, Nat.le_refl _, fun _ _ => rfl⟩; rintro e w7 ⟨rfl, b7⟩))
              all_goals
                have B7 : Hid (Below w5.heap.size w5 w7) := hb6.out.trans ((⟨b7.os, b7.tape, b7.output, b7.size, b7.block⟩ : Below wr.heap.size wr w7).mono hb6.out.size)
                clear d0 t3 b7
                go_wp2_with fail
                go_roundw
                case rel => exact ⟨j + 1, _, by omega, by go_num, rfl, HNX, B7⟩
                case measure => simp [intOf]; omega
            · have hqf : Hid (q = bts (headT x sp ++ ([62] ++ (Tx.esc x.2.2.2.2.2 ++ (kidsL ns (i : Int)).flatMap (fun k => writeF ns f k x.2.2.2.1))))) := by
                have h1 := hqq.out
                rw [List.take_of_length_le (by have := HKN.out; omega)] at h1
                exact h1
              have HEND := Lib.hid (HFIN.out q hqf.out)
              have hB : Hid (Below w.heap.size w wr) := B4.out.trans (hb64.out.mono B4.out.size)
              clear t3
              go_wp2_with fail
              go_ret
              exact ⟨by rw [← HEND.out]; rfl, hB.out⟩
end Go.Proofs.YtbkfmbkamocllaaDoor
