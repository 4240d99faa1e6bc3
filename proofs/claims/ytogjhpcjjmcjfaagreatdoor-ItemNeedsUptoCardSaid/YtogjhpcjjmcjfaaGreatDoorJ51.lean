import Derived.Test.YtogjhpcjjmcjfaaGreatDoorJ46
/- what is reached of it -/
namespace Go.Proofs.YtogjhpcjjmcjfaaGreatDoor
open Go.RowKit Vc Ct Tx
theorem uintRem9 (c : Int) : ∃ n : Nat, (IntKind.u64.wrap c).tmod 9 = (n : Int) ∧ n < 9 := by
  have e : IntKind.u64.wrap c = c % 18446744073709551616 := by simp [IntKind.wrap, IntKind.bits, IntKind.signed]
  have h0 : 0 ≤ IntKind.u64.wrap c := by rw [e]; exact Int.emod_nonneg _ (by decide)
  rw [Int.tmod_eq_emod_of_nonneg h0]
  exact ⟨(IntKind.u64.wrap c % 9).toNat, by omega, by omega⟩
def longK (k : Nat) : ByteArray := bts (List.replicate k [195, 169]).flatten
theorem longK_size (k : Nat) : (longK k).size = 2 * k := by
  rw [Lib.size_eq]
  show ((List.replicate k [195, 169]).flatten : List UInt8).length = _
  induction k with
  | zero => rfl
  | succ n ih => rw [List.replicate_succ, List.flatten_cons, List.length_append, ih]; simp; omega
theorem longK_succ (k : Nat) : longK k ++ ⟨#[195, 169]⟩ = longK (k + 1) := ByteArray.ext (by
  rw [ByteArray.data_append]
  show ((List.replicate k [195, 169]).flatten : List UInt8).toArray ++ [195, 169].toArray = ((List.replicate (k + 1) [195, 169]).flatten : List UInt8).toArray
  rw [List.append_toArray, List.replicate_succ', List.flatten_append]
  rfl)
theorem worse_any (k : Nat) (d : Itm) (hd : NearI d) (gv : Value) (w : World) (hO : Okw w) (hR : ReadT w.heap.size w gv (sts (worseI k d).groups)) :
    Calls Tryz.prog 14 #[agI (worseI k d) gv] w fun e w' => e = .returned (.bool false) ∧ Below w.heap.size w w' := by
  have hll : longL.length = 202 := by decide +kernel
  have hs := hd.sizes
  have h1 : (worseI k d).jid.length ≤ 1000 := by unfold worseI; split <;> first | (show d.jid.length ≤ _; omega) | (show List.length (_ :: _) ≤ _; simp) | (show List.length [] ≤ _; simp)
  have h2 : (worseI k d).name.length ≤ 1000 := by unfold worseI; split <;> first | (show d.name.length ≤ _; omega) | (show longL.length ≤ _; omega) | (show List.length (_ :: _) ≤ _; simp)
  have h3 : (worseI k d).groups.length ≤ 1000 := by unfold worseI; split <;> first | (show d.groups.length ≤ _; omega) | (show List.length (_ :: _) ≤ _; simp)
  have h4 : ∀ g ∈ (worseI k d).groups, g.length ≤ 1000 := by
    intro g hg
    unfold worseI at hg
    split at hg <;> first | (have := hs.2.2.2 g hg; omega) | (simp at hg; rcases hg with rfl | rfl | rfl | rfl | rfl | rfl | rfl | rfl | rfl <;> simp) | (simp at hg; subst hg; first | simp | omega)
  have H := iright_any (worseI k d) gv w hO hR (by omega) (by omega) (by omega) (fun g hg => by have := h4 g hg; omega)
  rw [worseI_no] at H
  exact H
set_option linter.unusedSimpArgs false in
set_option maxHeartbeats 16000000 in
set_option maxRecDepth 100000 in
theorem itemNeeds_any (x : Itm) (gv : Value) (what : Int) (w : World) (hO : Okw w) (hR : ReadT w.heap.size w gv (sts x.groups)) (hb : heavyI x ≤ 1000000000) :
    Calls Tryz.prog 7 #[agI x gv, .int .i64 what] w fun e w' => e = .returned (.bool true) ∧ Below w.heap.size w w' := by
  obtain ⟨k, hk, hk9⟩ := uintRem9 what
  have HK := Lib.hid hk
  clear hk
  obtain ⟨GA, gn, gcap, rfl⟩ : ∃ A n cap, gv = .slice A n cap := by obtain ⟨A, cap, e, _⟩ := hR; exact ⟨A, _, cap, e⟩
  have hAX : agI x (.slice GA gn gcap) = .agg #[.string (bts x.jid), .string (bts x.name), .slice GA gn gcap, .int .i64 x.sub, .bool x.ask, .bool x.app] := rfl
  have HSM : Hid (∀ (W : World) (b : Nat), Below w.heap.size w W → Bk W b 24 (encI x (.slice GA gn gcap)).toArray → Calls Tryz.prog 8 #[.slice (some ⟨b, 0, none⟩) 1 1] W fun e w' => e = .returned (.bool (smallIs [(x, GA, gn, gcap)])) ∧ Below W.heap.size W w') := fun W b hW k =>
    smallIs_any _ _ W (readI_one x (GA, gn, gcap) k (hR.upon hW)) (by simp) (fun p hp => by rw [List.mem_singleton] at hp; subst hp; have := (heavy_parts hb).2.2.1; show x.groups.length ≤ _; omega) (by rw [heavy_one]; exact Nat.le_trans hb (by decide))
  have HAW : Hid (∀ W, Below w.heap.size w W → Calls Tryz.prog 10 #[] W fun e w' => e = .returned (.bool true) ∧ Below W.heap.size W w') := fun W h => iawake_any W (hO.below h)
  have hsmall : smallIs [(x, GA, gn, gcap)] = true → heavyI x ≤ 20000 := fun h => by
    unfold smallIs at h
    rw [heavy_one] at h
    have := of_decide_eq_true (Bool.and_eq_true_iff.1 h).2
    omega
  have HIT : Hid (smallIs [(x, GA, gn, gcap)] = true → ∀ W, Below w.heap.size w W → Calls Tryz.prog 25 #[agI x (.slice GA gn gcap), .int .i64 0] W fun e w' => (∃ d g, e = .returned (agI d g) ∧ NearI d ∧ OwnT W.heap.size w' g (sts d.groups)) ∧ Below W.heap.size W w') := fun h W hW => by
    obtain ⟨h1, h2, h3, h4⟩ := heavy_parts (hsmall h)
    exact pitem_any x _ 0 (by decide) W (hR.upon hW) (by omega) (by omega) (by omega) (fun g hg => by have := h4 g hg; omega)
  have HO : Hid (∀ W, Below w.heap.size w W → Okw W) := fun W h => hO.below h
  have hex : (encI x (.slice GA gn gcap)).toArray = #[.string (bts x.jid), .string (bts x.name), .slice GA gn gcap, .int .i64 x.sub, .bool x.ask, .bool x.app] := rfl
  rw [hex] at HSM
  rw [hAX] at HIT ⊢
  obtain ⟨cs, hcs⟩ : ∃ b, smallIs [(x, GA, gn, gcap)] = b := ⟨_, rfl⟩
  rw [hcs] at HSM HIT
  obtain ⟨X0, hX0⟩ : ∃ X, bts x.jid = X := ⟨_, rfl⟩
  obtain ⟨X1, hX1⟩ : ∃ X, bts x.name = X := ⟨_, rfl⟩
  obtain ⟨SB, hSB⟩ : ∃ X, x.sub = X := ⟨_, rfl⟩
  obtain ⟨AK, hAK⟩ : ∃ X, x.ask = X := ⟨_, rfl⟩
  obtain ⟨AP, hAP⟩ : ∃ X, x.app = X := ⟨_, rfl⟩
  rw [hX0, hX1, hSB, hAK, hAP] at HSM HIT ⊢
  clear hR hO hb hAX hsmall hex hcs hX0 hX1 hSB hAK hAP
  obtain ⟨W1, hW1⟩ : ∃ W1, w.alloc (.cells #[.string X0, .string X1, .slice GA gn gcap, .int .i64 SB, .bool AK, .bool AP] 24) = W1 := ⟨_, rfl⟩
  obtain ⟨G, hG⟩ : ∃ G, w.heap.size = G := ⟨_, rfl⟩
  have k1 : Bk W1 G 24 #[.string X0, .string X1, .slice GA gn gcap, .int .i64 SB, .bool AK, .bool AP] := by rw [← hW1, ← hG]; exact Bk.new _ _ _
  have b1 : Below w.heap.size w W1 := by rw [← hW1]; exact (Below.refl _ _).alloc (Nat.le_refl _) _
  obtain ⟨W2, hW2⟩ : ∃ W2, W1.alloc (.cells #[.string X0, .string X1, .slice GA gn gcap, .int .i64 SB, .bool AK, .bool AP] 24) = W2 := ⟨_, rfl⟩
  obtain ⟨bb, hbb⟩ : ∃ G, W1.heap.size = G := ⟨_, rfl⟩
  have k2 : Bk W2 bb 24 #[.string X0, .string X1, .slice GA gn gcap, .int .i64 SB, .bool AK, .bool AP] := by rw [← hW2, ← hbb]; exact Bk.new _ _ _
  have b2 : Below W1.heap.size W1 W2 := by rw [← hW2]; exact (Below.refl _ _).alloc (Nat.le_refl _) _
  have B2 : Hid (Below w.heap.size w W2) := b1.trans (b2.mono b1.size)
  have K1 := Lib.hid k1
  have K2 := Lib.hid (k1.below b2 k1.lt)
  have HGW : Hid (w.heap.size ≤ G) := by rw [← hG]; exact Nat.le_refl _
  have HS2 := Lib.hid (HSM.out W2 bb B2.out k2)
  clear k1 b1 k2 b2 HSM
  have HW1 := Lib.hid hW1
  have HG := Lib.hid hG
  have HW2 := Lib.hid hW2
  have HBB := Lib.hid hbb
  clear hW1 hG hW2 hbb
  go_enter Tryz.func7, Tryz.ntmps7
  go_upto_region 1 with fail
  (try rw [HW1.out])
  (try rw [HG.out])
  have c0 : W1.cell? ⟨G, 0, none⟩ = some (.string X0) := K1.out.cell 0
  have cf0 : W1.frozen? ⟨G, 0, none⟩ = false := K1.out.free 0
  have c1 : W1.cell? ⟨G, 1, none⟩ = some (.string X1) := K1.out.cell 1
  have cf1 : W1.frozen? ⟨G, 1, none⟩ = false := K1.out.free 1
  have c2 : W1.cell? ⟨G, 2, none⟩ = some (.slice GA gn gcap) := K1.out.cell 2
  have cf2 : W1.frozen? ⟨G, 2, none⟩ = false := K1.out.free 2
  have c3 : W1.cell? ⟨G, 3, none⟩ = some (.int .i64 SB) := K1.out.cell 3
  have cf3 : W1.frozen? ⟨G, 3, none⟩ = false := K1.out.free 3
  have c4 : W1.cell? ⟨G, 4, none⟩ = some (.bool AK) := K1.out.cell 4
  have cf4 : W1.frozen? ⟨G, 4, none⟩ = false := K1.out.free 4
  have c5 : W1.cell? ⟨G, 5, none⟩ = some (.bool AP) := K1.out.cell 5
  have cf5 : W1.frozen? ⟨G, 5, none⟩ = false := K1.out.free 5
  go_wp2_with fail
  (try rw [HW2.out])
  (try rw [HBB.out])
  refine HS2.out.mono ?_
  rintro e w3 ⟨rfl, b3⟩
  have B3 : Hid (Below w.heap.size w w3) := B2.out.trans (b3.mono B2.out.size)
  have K3 := Lib.hid (K2.out.below b3 K2.out.lt)
  clear b3 c0 cf0 c1 cf1 c2 cf2 c3 cf3 c4 cf4 c5 cf5
  cases cs with
  | false =>
    have HA := Lib.hid (HAW.out w3 B3.out)
    go_wp2_with fail
    refine HA.out.mono ?_
    rintro e w4 ⟨rfl, b4⟩
    go_wp2_with fail
    go_ret
    exact ⟨rfl, by first | exact B3.out.trans (b4.mono B3.out.size) | (rw [← HG.out]; exact B3.out.trans (b4.mono B3.out.size))⟩
  | true =>
    have HI := Lib.hid (HIT.out rfl w3 B3.out)
    have c0 : w3.cell? ⟨G, 0, none⟩ = some (.string X0) := K3.out.cell 0
    have c1 : w3.cell? ⟨G, 1, none⟩ = some (.string X1) := K3.out.cell 1
    have c2 : w3.cell? ⟨G, 2, none⟩ = some (.slice GA gn gcap) := K3.out.cell 2
    have c3 : w3.cell? ⟨G, 3, none⟩ = some (.int .i64 SB) := K3.out.cell 3
    have c4 : w3.cell? ⟨G, 4, none⟩ = some (.bool AK) := K3.out.cell 4
    have c5 : w3.cell? ⟨G, 5, none⟩ = some (.bool AP) := K3.out.cell 5
    go_wp2_with fail
    refine HI.out.mono ?_
    rintro e w4 ⟨⟨d, g, rfl, hd, og⟩, b4⟩
    have B4 : Hid (Below w.heap.size w w4) := B3.out.trans (b4.mono B3.out.size)
    have K4 := Lib.hid (K3.out.below b4 K3.out.lt)
    have HD := Lib.hid hd
    have HG3 : Hid (G < w3.heap.size) := K3.out.lt
    obtain ⟨DA, dn, dcap, rfl⟩ : ∃ A n cap, g = .slice A n cap := by obtain ⟨A, cap, e⟩ := og.slice; exact ⟨A, _, cap, e⟩
    have hdx : agI d (.slice DA dn dcap) = .agg #[.string (bts d.jid), .string (bts d.name), .slice DA dn dcap, .int .i64 d.sub, .bool d.ask, .bool d.app] := rfl
    rw [hdx]
    obtain ⟨w5, hw5⟩ : ∃ z, laid6 w4 G (.string (bts d.jid)) (.string (bts d.name)) (.slice DA dn dcap) (.int .i64 d.sub) (.bool d.ask) (.bool d.app) = z := ⟨_, rfl⟩
    have K5 : Hid (Bk w5 G 24 #[.string (bts d.jid), .string (bts d.name), .slice DA dn dcap, .int .i64 d.sub, .bool d.ask, .bool d.app]) := by rw [← hw5]; exact laid6_bk K4.out _ _ _ _ _ _
    have B5 : Hid (Below w.heap.size w w5) := by rw [← hw5]; exact laid6_below B4.out HGW.out _ _ _ _ _ _
    have O5 : Hid (OwnT w3.heap.size w5 (.slice DA dn dcap) (sts d.groups)) := by rw [← hw5]; exact og.butI (laid6_but _ _ _ _ _ _ _ _) HG3.out
    have e0 : w4.cell? ⟨G, 0, none⟩ = some (.string X0) := K4.out.cell 0
    have ef0 : w4.frozen? ⟨G, 0, none⟩ = false := K4.out.free 0
    have e1 : w4.cell? ⟨G, 1, none⟩ = some (.string X1) := K4.out.cell 1
    have ef1 : w4.frozen? ⟨G, 1, none⟩ = false := K4.out.free 1
    have e2 : w4.cell? ⟨G, 2, none⟩ = some (.slice GA gn gcap) := K4.out.cell 2
    have ef2 : w4.frozen? ⟨G, 2, none⟩ = false := K4.out.free 2
    have e3 : w4.cell? ⟨G, 3, none⟩ = some (.int .i64 SB) := K4.out.cell 3
    have ef3 : w4.frozen? ⟨G, 3, none⟩ = false := K4.out.free 3
    have e4 : w4.cell? ⟨G, 4, none⟩ = some (.bool AK) := K4.out.cell 4
    have ef4 : w4.frozen? ⟨G, 4, none⟩ = false := K4.out.free 4
    have e5 : w4.cell? ⟨G, 5, none⟩ = some (.bool AP) := K4.out.cell 5
    have ef5 : w4.frozen? ⟨G, 5, none⟩ = false := K4.out.free 5
    clear hd og b4 hdx
    obtain ⟨J, hJ⟩ : ∃ J, bts d.jid = J := ⟨_, rfl⟩
    obtain ⟨N, hN⟩ : ∃ J, bts d.name = J := ⟨_, rfl⟩
    obtain ⟨s0, hs0⟩ : ∃ J, d.sub = J := ⟨_, rfl⟩
    obtain ⟨a0, ha0⟩ : ∃ J, d.ask = J := ⟨_, rfl⟩
    obtain ⟨p0, hp0⟩ : ∃ J, d.app = J := ⟨_, rfl⟩
    have HR5 := Lib.hid (right_like d HD.out d rfl (by have := HD.out.sizes.1; omega) (by have := HD.out.sizes.2.1; omega) (.slice DA dn dcap))
    have hdx2 : agI d (.slice DA dn dcap) = .agg #[.string (bts d.jid), .string (bts d.name), .slice DA dn dcap, .int .i64 d.sub, .bool d.ask, .bool d.app] := rfl
    rw [HD.out.right, hdx2] at HR5
    rw [hJ, hN, hs0, ha0, hp0] at HR5 K5 hw5 ⊢
    have HJ := Lib.hid hJ
    have HN := Lib.hid hN
    have HS0 := Lib.hid hs0
    have HA0 := Lib.hid ha0
    have HP0 := Lib.hid hp0
    clear hdx2 hJ hN hs0 ha0 hp0
    go_upto_region 4 with fail
    (try rw [hw5])
    clear hw5 c0 e0 ef0 c1 e1 ef1 c2 e2 ef2 c3 e3 ef3 c4 e4 ef4 c5 e5 ef5
    have HA := Lib.hid (HAW.out w5 B5.out)
    go_wp2_with fail
    refine HA.out.mono ?_
    rintro e w6 ⟨rfl, b6⟩
    have B6 : Hid (Below w.heap.size w w6) := B5.out.trans (b6.mono B5.out.size)
    have K6 := Lib.hid (K5.out.below b6 K5.out.lt)
    have O6 := Lib.hid (O5.out.below b6)
    clear b6 HA
    have HR6 := Lib.hid (HR5.out w6 (HO.out w6 B6.out) O6.out.reads)
    have m0 : w6.cell? ⟨G, 0, none⟩ = some (.string J) := K6.out.cell 0
    have m1 : w6.cell? ⟨G, 1, none⟩ = some (.string N) := K6.out.cell 1
    have m2 : w6.cell? ⟨G, 2, none⟩ = some (.slice DA dn dcap) := K6.out.cell 2
    have m3 : w6.cell? ⟨G, 3, none⟩ = some (.int .i64 s0) := K6.out.cell 3
    have m4 : w6.cell? ⟨G, 4, none⟩ = some (.bool a0) := K6.out.cell 4
    have m5 : w6.cell? ⟨G, 5, none⟩ = some (.bool p0) := K6.out.cell 5
    go_wp2_with fail
    refine HR6.out.mono ?_
    rintro e w7 ⟨rfl, b7⟩
    have B7 : Hid (Below w.heap.size w w7) := B6.out.trans (b7.mono B6.out.size)
    have K7 := Lib.hid (K6.out.below b7 K6.out.lt)
    have O7 := Lib.hid (O6.out.below b7)
    clear b7 HR6 HR5 m0 m1 m2 m3 m4 m5
    go_wp2_with fail
    go_loopw [5, 6] (fun lv iv wr => ∃ i : Nat, i ≤ 101 ∧ lv = .string (longK i) ∧ iv = .int .i64 i ∧ Hid (w7 = wr)) (fun _ iv _ => 101 - (intOf iv).toNat)
    case atStart => exact ⟨0, by decide, rfl, rfl, by first | exact trivial | exact rfl⟩
    case round =>
      obtain ⟨i, hi, rfl, rfl, HWR⟩ := hrel
      have hwr := HWR.out
      clear HWR
      subst hwr
      by_cases hlt : i ≤ 100
      · have hz : (i : Int) ≤ 100 := by omega
        have hsz := longK_size i
        have hsu := longK_succ i
        obtain ⟨L, hL⟩ : ∃ z, longK i = z := ⟨_, rfl⟩
        obtain ⟨M, hM⟩ : ∃ z, longK (i + 1) = z := ⟨_, rfl⟩
        rw [hL] at hsz hsu ⊢
        rw [hM] at hsu
        have hjz : ¬ (9223372036854775807 < L.size + 2) := by omega
        have HM := Lib.hid hM
        clear hsz hL hM
        go_wp2_with fail
        go_roundw
        case rel => exact ⟨i + 1, by omega, by rw [HM.out], by go_num, by first | exact trivial | exact rfl⟩
        case measure => simp [intOf]; omega
      · have hz : ¬ (i : Int) ≤ 100 := by omega
        have hke : longK i = bts longL := by
          have : i = 101 := by omega
          subst this
          rfl
        rw [hke]
        obtain ⟨LB, hLB⟩ : ∃ z, bts longL = z := ⟨_, rfl⟩
        have HLB := Lib.hid hLB
        rw [hLB]
        clear hke hLB hlt hi
        have n0 : w7.cell? ⟨G, 0, none⟩ = some (.string J) := K7.out.cell 0
        have nf0 : w7.frozen? ⟨G, 0, none⟩ = false := K7.out.free 0
        have n1 : w7.cell? ⟨G, 1, none⟩ = some (.string N) := K7.out.cell 1
        have nf1 : w7.frozen? ⟨G, 1, none⟩ = false := K7.out.free 1
        have n2 : w7.cell? ⟨G, 2, none⟩ = some (.slice DA dn dcap) := K7.out.cell 2
        have nf2 : w7.frozen? ⟨G, 2, none⟩ = false := K7.out.free 2
        have n3 : w7.cell? ⟨G, 3, none⟩ = some (.int .i64 s0) := K7.out.cell 3
        have nf3 : w7.frozen? ⟨G, 3, none⟩ = false := K7.out.free 3
        have n4 : w7.cell? ⟨G, 4, none⟩ = some (.bool a0) := K7.out.cell 4
        have nf4 : w7.frozen? ⟨G, 4, none⟩ = false := K7.out.free 4
        have n5 : w7.cell? ⟨G, 5, none⟩ = some (.bool p0) := K7.out.cell 5
        have nf5 : w7.frozen? ⟨G, 5, none⟩ = false := K7.out.free 5
        have hkk : k = 0 ∨ k = 1 ∨ k = 2 ∨ k = 3 ∨ k = 4 ∨ k = 5 ∨ k = 6 ∨ k = 7 ∨ k = 8 := by omega
        clear hk9
        rcases hkk with rfl | rfl | rfl | rfl | rfl | rfl | rfl | rfl | rfl
        · have hk : (IntKind.u64.wrap what).tmod 9 = 0 := HK.out
          clear HK
          obtain ⟨w8, hw8⟩ : ∃ z, w7.setCell ⟨G, 0, none⟩ (.string ⟨#[]⟩) = z := ⟨_, rfl⟩
          have K8 : Bk w8 G 24 #[.string ⟨#[]⟩, .string N, .slice DA dn dcap, .int .i64 s0, .bool a0, .bool p0] := by rw [← hw8]; exact K7.out.put 0 _
          have B8 : Hid (Below w.heap.size w w8) := by rw [← hw8]; exact B7.out.setCell (p := ⟨G, 0, none⟩) HGW.out _
          have O8 : OwnT w3.heap.size w8 (.slice DA dn dcap) (sts d.groups) := by rw [← hw8]; exact O7.out.butI (but_setI _ _ _ _) HG3.out
          have R8 : ReadT w8.heap.size w8 (.slice DA dn dcap) (sts (worseI 0 d).groups) := O8.reads
          have HRW := Lib.hid (worse_any 0 d HD.out (.slice DA dn dcap) w8 (HO.out w8 B8.out) R8)
          have hag : agI (worseI 0 d) (.slice DA dn dcap) = .agg #[.string ⟨#[]⟩, .string N, .slice DA dn dcap, .int .i64 s0, .bool a0, .bool p0] := by (try rw [← HLB.out]); (try rw [← HJ.out]); (try rw [← HN.out]); (try rw [← HS0.out]); (try rw [← HA0.out]); (try rw [← HP0.out]); rfl
          rw [hag] at HRW
          clear hag R8 HLB O8
          have u0 : w8.cell? ⟨G, 0, none⟩ = some (.string ⟨#[]⟩) := K8.cell 0
          have u1 : w8.cell? ⟨G, 1, none⟩ = some (.string N) := K8.cell 1
          have u2 : w8.cell? ⟨G, 2, none⟩ = some (.slice DA dn dcap) := K8.cell 2
          have u3 : w8.cell? ⟨G, 3, none⟩ = some (.int .i64 s0) := K8.cell 3
          have u4 : w8.cell? ⟨G, 4, none⟩ = some (.bool a0) := K8.cell 4
          have u5 : w8.cell? ⟨G, 5, none⟩ = some (.bool p0) := K8.cell 5
          clear K8
          go_wp2_with fail
          refine HRW.out.mono ?_
          rintro e w9 ⟨rfl, b9⟩
          have BF : Hid (Below w.heap.size w w9) := B8.out.trans (b9.mono B8.out.size)
          clear b9
          go_wp2_with fail
          go_ret
          exact ⟨rfl, by first | exact BF.out | (rw [← HG.out]; exact BF.out)⟩
        · have hk : (IntKind.u64.wrap what).tmod 9 = 1 := HK.out
          clear HK
          obtain ⟨w8, hw8⟩ : ∃ z, w7.setCell ⟨G, 0, none⟩ (.string ⟨#[65, 64, 98]⟩) = z := ⟨_, rfl⟩
          have K8 : Bk w8 G 24 #[.string ⟨#[65, 64, 98]⟩, .string N, .slice DA dn dcap, .int .i64 s0, .bool a0, .bool p0] := by rw [← hw8]; exact K7.out.put 0 _
          have B8 : Hid (Below w.heap.size w w8) := by rw [← hw8]; exact B7.out.setCell (p := ⟨G, 0, none⟩) HGW.out _
          have O8 : OwnT w3.heap.size w8 (.slice DA dn dcap) (sts d.groups) := by rw [← hw8]; exact O7.out.butI (but_setI _ _ _ _) HG3.out
          have R8 : ReadT w8.heap.size w8 (.slice DA dn dcap) (sts (worseI 1 d).groups) := O8.reads
          have HRW := Lib.hid (worse_any 1 d HD.out (.slice DA dn dcap) w8 (HO.out w8 B8.out) R8)
          have hag : agI (worseI 1 d) (.slice DA dn dcap) = .agg #[.string ⟨#[65, 64, 98]⟩, .string N, .slice DA dn dcap, .int .i64 s0, .bool a0, .bool p0] := by (try rw [← HLB.out]); (try rw [← HJ.out]); (try rw [← HN.out]); (try rw [← HS0.out]); (try rw [← HA0.out]); (try rw [← HP0.out]); rfl
          rw [hag] at HRW
          clear hag R8 HLB O8
          have u0 : w8.cell? ⟨G, 0, none⟩ = some (.string ⟨#[65, 64, 98]⟩) := K8.cell 0
          have u1 : w8.cell? ⟨G, 1, none⟩ = some (.string N) := K8.cell 1
          have u2 : w8.cell? ⟨G, 2, none⟩ = some (.slice DA dn dcap) := K8.cell 2
          have u3 : w8.cell? ⟨G, 3, none⟩ = some (.int .i64 s0) := K8.cell 3
          have u4 : w8.cell? ⟨G, 4, none⟩ = some (.bool a0) := K8.cell 4
          have u5 : w8.cell? ⟨G, 5, none⟩ = some (.bool p0) := K8.cell 5
          clear K8
          go_wp2_with fail
          refine HRW.out.mono ?_
          rintro e w9 ⟨rfl, b9⟩
          have BF : Hid (Below w.heap.size w w9) := B8.out.trans (b9.mono B8.out.size)
          clear b9
          go_wp2_with fail
          go_ret
          exact ⟨rfl, by first | exact BF.out | (rw [← HG.out]; exact BF.out)⟩
        · have hk : (IntKind.u64.wrap what).tmod 9 = 2 := HK.out
          clear HK
          obtain ⟨w8, hw8⟩ : ∃ z, w7.setCell ⟨G, 1, none⟩ (.string LB) = z := ⟨_, rfl⟩
          have K8 : Bk w8 G 24 #[.string J, .string LB, .slice DA dn dcap, .int .i64 s0, .bool a0, .bool p0] := by rw [← hw8]; exact K7.out.put 1 _
          have B8 : Hid (Below w.heap.size w w8) := by rw [← hw8]; exact B7.out.setCell (p := ⟨G, 1, none⟩) HGW.out _
          have O8 : OwnT w3.heap.size w8 (.slice DA dn dcap) (sts d.groups) := by rw [← hw8]; exact O7.out.butI (but_setI _ _ _ _) HG3.out
          have R8 : ReadT w8.heap.size w8 (.slice DA dn dcap) (sts (worseI 2 d).groups) := O8.reads
          have HRW := Lib.hid (worse_any 2 d HD.out (.slice DA dn dcap) w8 (HO.out w8 B8.out) R8)
          have hag : agI (worseI 2 d) (.slice DA dn dcap) = .agg #[.string J, .string LB, .slice DA dn dcap, .int .i64 s0, .bool a0, .bool p0] := by (try rw [← HLB.out]); (try rw [← HJ.out]); (try rw [← HN.out]); (try rw [← HS0.out]); (try rw [← HA0.out]); (try rw [← HP0.out]); rfl
          rw [hag] at HRW
          clear hag R8 HLB O8
          have u0 : w8.cell? ⟨G, 0, none⟩ = some (.string J) := K8.cell 0
          have u1 : w8.cell? ⟨G, 1, none⟩ = some (.string LB) := K8.cell 1
          have u2 : w8.cell? ⟨G, 2, none⟩ = some (.slice DA dn dcap) := K8.cell 2
          have u3 : w8.cell? ⟨G, 3, none⟩ = some (.int .i64 s0) := K8.cell 3
          have u4 : w8.cell? ⟨G, 4, none⟩ = some (.bool a0) := K8.cell 4
          have u5 : w8.cell? ⟨G, 5, none⟩ = some (.bool p0) := K8.cell 5
          clear K8
          go_wp2_with fail
          refine HRW.out.mono ?_
          rintro e w9 ⟨rfl, b9⟩
          have BF : Hid (Below w.heap.size w w9) := B8.out.trans (b9.mono B8.out.size)
          clear b9
          go_wp2_with fail
          go_ret
          exact ⟨rfl, by first | exact BF.out | (rw [← HG.out]; exact BF.out)⟩
        · have hk : (IntKind.u64.wrap what).tmod 9 = 3 := HK.out
          clear HK
          obtain ⟨w8, hw8⟩ : ∃ z, w7.setCell ⟨G, 1, none⟩ (.string ⟨#[97, 9, 98]⟩) = z := ⟨_, rfl⟩
          have K8 : Bk w8 G 24 #[.string J, .string ⟨#[97, 9, 98]⟩, .slice DA dn dcap, .int .i64 s0, .bool a0, .bool p0] := by rw [← hw8]; exact K7.out.put 1 _
          have B8 : Hid (Below w.heap.size w w8) := by rw [← hw8]; exact B7.out.setCell (p := ⟨G, 1, none⟩) HGW.out _
          have O8 : OwnT w3.heap.size w8 (.slice DA dn dcap) (sts d.groups) := by rw [← hw8]; exact O7.out.butI (but_setI _ _ _ _) HG3.out
          have R8 : ReadT w8.heap.size w8 (.slice DA dn dcap) (sts (worseI 3 d).groups) := O8.reads
          have HRW := Lib.hid (worse_any 3 d HD.out (.slice DA dn dcap) w8 (HO.out w8 B8.out) R8)
          have hag : agI (worseI 3 d) (.slice DA dn dcap) = .agg #[.string J, .string ⟨#[97, 9, 98]⟩, .slice DA dn dcap, .int .i64 s0, .bool a0, .bool p0] := by (try rw [← HLB.out]); (try rw [← HJ.out]); (try rw [← HN.out]); (try rw [← HS0.out]); (try rw [← HA0.out]); (try rw [← HP0.out]); rfl
          rw [hag] at HRW
          clear hag R8 HLB O8
          have u0 : w8.cell? ⟨G, 0, none⟩ = some (.string J) := K8.cell 0
          have u1 : w8.cell? ⟨G, 1, none⟩ = some (.string ⟨#[97, 9, 98]⟩) := K8.cell 1
          have u2 : w8.cell? ⟨G, 2, none⟩ = some (.slice DA dn dcap) := K8.cell 2
          have u3 : w8.cell? ⟨G, 3, none⟩ = some (.int .i64 s0) := K8.cell 3
          have u4 : w8.cell? ⟨G, 4, none⟩ = some (.bool a0) := K8.cell 4
          have u5 : w8.cell? ⟨G, 5, none⟩ = some (.bool p0) := K8.cell 5
          clear K8
          go_wp2_with fail
          refine HRW.out.mono ?_
          rintro e w9 ⟨rfl, b9⟩
          have BF : Hid (Below w.heap.size w w9) := B8.out.trans (b9.mono B8.out.size)
          clear b9
          go_wp2_with fail
          go_ret
          exact ⟨rfl, by first | exact BF.out | (rw [← HG.out]; exact BF.out)⟩
        · have hk : (IntKind.u64.wrap what).tmod 9 = 4 := HK.out
          clear HK
          obtain ⟨Wa, hWa⟩ : ∃ z, w7.alloc (.cells #[.string ⟨#[97]⟩, .string ⟨#[97]⟩] 9) = z := ⟨_, rfl⟩
          obtain ⟨h, hh⟩ : ∃ z, w7.heap.size = z := ⟨_, rfl⟩
          have ka : Bk Wa h 9 #[.string ⟨#[97]⟩, .string ⟨#[97]⟩] := by rw [← hWa, ← hh]; exact Bk.new _ _ _
          have ba : Below w7.heap.size w7 Wa := by rw [← hWa]; exact (Below.refl _ _).alloc (Nat.le_refl _) _
          have kg := K7.out.below ba K7.out.lt
          have hgh : G < h := by rw [← hh]; exact K7.out.lt
          have bw : Below w.heap.size w Wa := B7.out.trans (ba.mono B7.out.size)
          have c2 : Wa.cell? ⟨G, 2, none⟩ = some (.slice DA dn dcap) := kg.cell 2
          have f2 : Wa.frozen? ⟨G, 2, none⟩ = false := kg.free 2
          obtain ⟨w8, hw8⟩ : ∃ z, Wa.setCell ⟨G, 2, none⟩ (.slice (some ⟨h, 0, none⟩) 2 2) = z := ⟨_, rfl⟩
          have K8 : Bk w8 G 24 #[.string J, .string N, .slice (some ⟨h, 0, none⟩) 2 2, .int .i64 s0, .bool a0, .bool p0] := by rw [← hw8]; exact kg.put 2 _
          have B8 : Hid (Below w.heap.size w w8) := by rw [← hw8]; exact bw.setCell (p := ⟨G, 2, none⟩) HGW.out _
          have R8 : ReadT w8.heap.size w8 (.slice (some ⟨h, 0, none⟩) 2 2) (sts (worseI 4 d).groups) := by
            have kh : Bk w8 h 9 #[.string ⟨#[97]⟩, .string ⟨#[97]⟩] := by rw [← hw8]; exact ka.far (p := ⟨G, 2, none⟩) (show h ≠ G by omega) _
            refine ⟨_, 2, rfl, fun _ => ⟨_, rfl, kh.lt, fun i x hi => ?_⟩⟩
            rw [add_at, Nat.zero_add, kh.cell]
            have e : (#[.string ⟨#[97]⟩, .string ⟨#[97]⟩] : Array Value) = ((sts (worseI 4 d).groups).map Value.string).toArray := by (try rw [← HLB.out]); rfl
            rw [e, List.getElem?_toArray, List.getElem?_map, hi]
            rfl
          have HRW := Lib.hid (worse_any 4 d HD.out (.slice (some ⟨h, 0, none⟩) 2 2) w8 (HO.out w8 B8.out) R8)
          have hag : agI (worseI 4 d) (.slice (some ⟨h, 0, none⟩) 2 2) = .agg #[.string J, .string N, .slice (some ⟨h, 0, none⟩) 2 2, .int .i64 s0, .bool a0, .bool p0] := by (try rw [← HLB.out]); (try rw [← HJ.out]); (try rw [← HN.out]); (try rw [← HS0.out]); (try rw [← HA0.out]); (try rw [← HP0.out]); rfl
          rw [hag] at HRW
          clear hag R8 HLB ka ba kg hgh bw
          have u0 : w8.cell? ⟨G, 0, none⟩ = some (.string J) := K8.cell 0
          have u1 : w8.cell? ⟨G, 1, none⟩ = some (.string N) := K8.cell 1
          have u2 : w8.cell? ⟨G, 2, none⟩ = some (.slice (some ⟨h, 0, none⟩) 2 2) := K8.cell 2
          have u3 : w8.cell? ⟨G, 3, none⟩ = some (.int .i64 s0) := K8.cell 3
          have u4 : w8.cell? ⟨G, 4, none⟩ = some (.bool a0) := K8.cell 4
          have u5 : w8.cell? ⟨G, 5, none⟩ = some (.bool p0) := K8.cell 5
          clear K8
          go_wp2_with fail
          refine HRW.out.mono ?_
          rintro e w9 ⟨rfl, b9⟩
          have BF : Hid (Below w.heap.size w w9) := B8.out.trans (b9.mono B8.out.size)
          clear b9
          go_wp2_with fail
          go_ret
          exact ⟨rfl, by first | exact BF.out | (rw [← HG.out]; exact BF.out)⟩
        · have hk : (IntKind.u64.wrap what).tmod 9 = 5 := HK.out
          clear HK
          obtain ⟨Wa, hWa⟩ : ∃ z, w7.alloc (.cells #[.string ⟨#[]⟩] 9) = z := ⟨_, rfl⟩
          obtain ⟨h, hh⟩ : ∃ z, w7.heap.size = z := ⟨_, rfl⟩
          have ka : Bk Wa h 9 #[.string ⟨#[]⟩] := by rw [← hWa, ← hh]; exact Bk.new _ _ _
          have ba : Below w7.heap.size w7 Wa := by rw [← hWa]; exact (Below.refl _ _).alloc (Nat.le_refl _) _
          have kg := K7.out.below ba K7.out.lt
          have hgh : G < h := by rw [← hh]; exact K7.out.lt
          have bw : Below w.heap.size w Wa := B7.out.trans (ba.mono B7.out.size)
          have c2 : Wa.cell? ⟨G, 2, none⟩ = some (.slice DA dn dcap) := kg.cell 2
          have f2 : Wa.frozen? ⟨G, 2, none⟩ = false := kg.free 2
          obtain ⟨w8, hw8⟩ : ∃ z, Wa.setCell ⟨G, 2, none⟩ (.slice (some ⟨h, 0, none⟩) 1 1) = z := ⟨_, rfl⟩
          have K8 : Bk w8 G 24 #[.string J, .string N, .slice (some ⟨h, 0, none⟩) 1 1, .int .i64 s0, .bool a0, .bool p0] := by rw [← hw8]; exact kg.put 2 _
          have B8 : Hid (Below w.heap.size w w8) := by rw [← hw8]; exact bw.setCell (p := ⟨G, 2, none⟩) HGW.out _
          have R8 : ReadT w8.heap.size w8 (.slice (some ⟨h, 0, none⟩) 1 1) (sts (worseI 5 d).groups) := by
            have kh : Bk w8 h 9 #[.string ⟨#[]⟩] := by rw [← hw8]; exact ka.far (p := ⟨G, 2, none⟩) (show h ≠ G by omega) _
            refine ⟨_, 1, rfl, fun _ => ⟨_, rfl, kh.lt, fun i x hi => ?_⟩⟩
            rw [add_at, Nat.zero_add, kh.cell]
            have e : (#[.string ⟨#[]⟩] : Array Value) = ((sts (worseI 5 d).groups).map Value.string).toArray := by (try rw [← HLB.out]); rfl
            rw [e, List.getElem?_toArray, List.getElem?_map, hi]
            rfl
          have HRW := Lib.hid (worse_any 5 d HD.out (.slice (some ⟨h, 0, none⟩) 1 1) w8 (HO.out w8 B8.out) R8)
          have hag : agI (worseI 5 d) (.slice (some ⟨h, 0, none⟩) 1 1) = .agg #[.string J, .string N, .slice (some ⟨h, 0, none⟩) 1 1, .int .i64 s0, .bool a0, .bool p0] := by (try rw [← HLB.out]); (try rw [← HJ.out]); (try rw [← HN.out]); (try rw [← HS0.out]); (try rw [← HA0.out]); (try rw [← HP0.out]); rfl
          rw [hag] at HRW
          clear hag R8 HLB ka ba kg hgh bw
          have u0 : w8.cell? ⟨G, 0, none⟩ = some (.string J) := K8.cell 0
          have u1 : w8.cell? ⟨G, 1, none⟩ = some (.string N) := K8.cell 1
          have u2 : w8.cell? ⟨G, 2, none⟩ = some (.slice (some ⟨h, 0, none⟩) 1 1) := K8.cell 2
          have u3 : w8.cell? ⟨G, 3, none⟩ = some (.int .i64 s0) := K8.cell 3
          have u4 : w8.cell? ⟨G, 4, none⟩ = some (.bool a0) := K8.cell 4
          have u5 : w8.cell? ⟨G, 5, none⟩ = some (.bool p0) := K8.cell 5
          clear K8
          go_wp2_with fail
          refine HRW.out.mono ?_
          rintro e w9 ⟨rfl, b9⟩
          have BF : Hid (Below w.heap.size w w9) := B8.out.trans (b9.mono B8.out.size)
          clear b9
          go_wp2_with fail
          go_ret
          exact ⟨rfl, by first | exact BF.out | (rw [← HG.out]; exact BF.out)⟩
        · have hk : (IntKind.u64.wrap what).tmod 9 = 6 := HK.out
          clear HK
          obtain ⟨Wa, hWa⟩ : ∃ z, w7.alloc (.cells #[.string LB] 9) = z := ⟨_, rfl⟩
          obtain ⟨h, hh⟩ : ∃ z, w7.heap.size = z := ⟨_, rfl⟩
          have ka : Bk Wa h 9 #[.string LB] := by rw [← hWa, ← hh]; exact Bk.new _ _ _
          have ba : Below w7.heap.size w7 Wa := by rw [← hWa]; exact (Below.refl _ _).alloc (Nat.le_refl _) _
          have kg := K7.out.below ba K7.out.lt
          have hgh : G < h := by rw [← hh]; exact K7.out.lt
          have bw : Below w.heap.size w Wa := B7.out.trans (ba.mono B7.out.size)
          have c2 : Wa.cell? ⟨G, 2, none⟩ = some (.slice DA dn dcap) := kg.cell 2
          have f2 : Wa.frozen? ⟨G, 2, none⟩ = false := kg.free 2
          obtain ⟨w8, hw8⟩ : ∃ z, Wa.setCell ⟨G, 2, none⟩ (.slice (some ⟨h, 0, none⟩) 1 1) = z := ⟨_, rfl⟩
          have K8 : Bk w8 G 24 #[.string J, .string N, .slice (some ⟨h, 0, none⟩) 1 1, .int .i64 s0, .bool a0, .bool p0] := by rw [← hw8]; exact kg.put 2 _
          have B8 : Hid (Below w.heap.size w w8) := by rw [← hw8]; exact bw.setCell (p := ⟨G, 2, none⟩) HGW.out _
          have R8 : ReadT w8.heap.size w8 (.slice (some ⟨h, 0, none⟩) 1 1) (sts (worseI 6 d).groups) := by
            have kh : Bk w8 h 9 #[.string LB] := by rw [← hw8]; exact ka.far (p := ⟨G, 2, none⟩) (show h ≠ G by omega) _
            refine ⟨_, 1, rfl, fun _ => ⟨_, rfl, kh.lt, fun i x hi => ?_⟩⟩
            rw [add_at, Nat.zero_add, kh.cell]
            have e : (#[.string LB] : Array Value) = ((sts (worseI 6 d).groups).map Value.string).toArray := by (try rw [← HLB.out]); rfl
            rw [e, List.getElem?_toArray, List.getElem?_map, hi]
            rfl
          have HRW := Lib.hid (worse_any 6 d HD.out (.slice (some ⟨h, 0, none⟩) 1 1) w8 (HO.out w8 B8.out) R8)
          have hag : agI (worseI 6 d) (.slice (some ⟨h, 0, none⟩) 1 1) = .agg #[.string J, .string N, .slice (some ⟨h, 0, none⟩) 1 1, .int .i64 s0, .bool a0, .bool p0] := by (try rw [← HLB.out]); (try rw [← HJ.out]); (try rw [← HN.out]); (try rw [← HS0.out]); (try rw [← HA0.out]); (try rw [← HP0.out]); rfl
          rw [hag] at HRW
          clear hag R8 HLB ka ba kg hgh bw
          have u0 : w8.cell? ⟨G, 0, none⟩ = some (.string J) := K8.cell 0
          have u1 : w8.cell? ⟨G, 1, none⟩ = some (.string N) := K8.cell 1
          have u2 : w8.cell? ⟨G, 2, none⟩ = some (.slice (some ⟨h, 0, none⟩) 1 1) := K8.cell 2
          have u3 : w8.cell? ⟨G, 3, none⟩ = some (.int .i64 s0) := K8.cell 3
          have u4 : w8.cell? ⟨G, 4, none⟩ = some (.bool a0) := K8.cell 4
          have u5 : w8.cell? ⟨G, 5, none⟩ = some (.bool p0) := K8.cell 5
          clear K8
          go_wp2_with fail
          refine HRW.out.mono ?_
          rintro e w9 ⟨rfl, b9⟩
          have BF : Hid (Below w.heap.size w w9) := B8.out.trans (b9.mono B8.out.size)
          clear b9
          go_wp2_with fail
          go_ret
          exact ⟨rfl, by first | exact BF.out | (rw [← HG.out]; exact BF.out)⟩
        · have hk : (IntKind.u64.wrap what).tmod 9 = 7 := HK.out
          clear HK
          obtain ⟨Wa, hWa⟩ : ∃ z, w7.alloc (.cells #[.string ⟨#[97]⟩, .string ⟨#[98]⟩, .string ⟨#[99]⟩, .string ⟨#[100]⟩, .string ⟨#[101]⟩, .string ⟨#[102]⟩, .string ⟨#[103]⟩, .string ⟨#[104]⟩, .string ⟨#[105]⟩] 9) = z := ⟨_, rfl⟩
          obtain ⟨h, hh⟩ : ∃ z, w7.heap.size = z := ⟨_, rfl⟩
          have ka : Bk Wa h 9 #[.string ⟨#[97]⟩, .string ⟨#[98]⟩, .string ⟨#[99]⟩, .string ⟨#[100]⟩, .string ⟨#[101]⟩, .string ⟨#[102]⟩, .string ⟨#[103]⟩, .string ⟨#[104]⟩, .string ⟨#[105]⟩] := by rw [← hWa, ← hh]; exact Bk.new _ _ _
          have ba : Below w7.heap.size w7 Wa := by rw [← hWa]; exact (Below.refl _ _).alloc (Nat.le_refl _) _
          have kg := K7.out.below ba K7.out.lt
          have hgh : G < h := by rw [← hh]; exact K7.out.lt
          have bw : Below w.heap.size w Wa := B7.out.trans (ba.mono B7.out.size)
          have c2 : Wa.cell? ⟨G, 2, none⟩ = some (.slice DA dn dcap) := kg.cell 2
          have f2 : Wa.frozen? ⟨G, 2, none⟩ = false := kg.free 2
          obtain ⟨w8, hw8⟩ : ∃ z, Wa.setCell ⟨G, 2, none⟩ (.slice (some ⟨h, 0, none⟩) 9 9) = z := ⟨_, rfl⟩
          have K8 : Bk w8 G 24 #[.string J, .string N, .slice (some ⟨h, 0, none⟩) 9 9, .int .i64 s0, .bool a0, .bool p0] := by rw [← hw8]; exact kg.put 2 _
          have B8 : Hid (Below w.heap.size w w8) := by rw [← hw8]; exact bw.setCell (p := ⟨G, 2, none⟩) HGW.out _
          have R8 : ReadT w8.heap.size w8 (.slice (some ⟨h, 0, none⟩) 9 9) (sts (worseI 7 d).groups) := by
            have kh : Bk w8 h 9 #[.string ⟨#[97]⟩, .string ⟨#[98]⟩, .string ⟨#[99]⟩, .string ⟨#[100]⟩, .string ⟨#[101]⟩, .string ⟨#[102]⟩, .string ⟨#[103]⟩, .string ⟨#[104]⟩, .string ⟨#[105]⟩] := by rw [← hw8]; exact ka.far (p := ⟨G, 2, none⟩) (show h ≠ G by omega) _
            refine ⟨_, 9, rfl, fun _ => ⟨_, rfl, kh.lt, fun i x hi => ?_⟩⟩
            rw [add_at, Nat.zero_add, kh.cell]
            have e : (#[.string ⟨#[97]⟩, .string ⟨#[98]⟩, .string ⟨#[99]⟩, .string ⟨#[100]⟩, .string ⟨#[101]⟩, .string ⟨#[102]⟩, .string ⟨#[103]⟩, .string ⟨#[104]⟩, .string ⟨#[105]⟩] : Array Value) = ((sts (worseI 7 d).groups).map Value.string).toArray := by (try rw [← HLB.out]); rfl
            rw [e, List.getElem?_toArray, List.getElem?_map, hi]
            rfl
          have HRW := Lib.hid (worse_any 7 d HD.out (.slice (some ⟨h, 0, none⟩) 9 9) w8 (HO.out w8 B8.out) R8)
          have hag : agI (worseI 7 d) (.slice (some ⟨h, 0, none⟩) 9 9) = .agg #[.string J, .string N, .slice (some ⟨h, 0, none⟩) 9 9, .int .i64 s0, .bool a0, .bool p0] := by (try rw [← HLB.out]); (try rw [← HJ.out]); (try rw [← HN.out]); (try rw [← HS0.out]); (try rw [← HA0.out]); (try rw [← HP0.out]); rfl
          rw [hag] at HRW
          clear hag R8 HLB ka ba kg hgh bw
          have u0 : w8.cell? ⟨G, 0, none⟩ = some (.string J) := K8.cell 0
          have u1 : w8.cell? ⟨G, 1, none⟩ = some (.string N) := K8.cell 1
          have u2 : w8.cell? ⟨G, 2, none⟩ = some (.slice (some ⟨h, 0, none⟩) 9 9) := K8.cell 2
          have u3 : w8.cell? ⟨G, 3, none⟩ = some (.int .i64 s0) := K8.cell 3
          have u4 : w8.cell? ⟨G, 4, none⟩ = some (.bool a0) := K8.cell 4
          have u5 : w8.cell? ⟨G, 5, none⟩ = some (.bool p0) := K8.cell 5
          clear K8
          go_wp2_with fail
          refine HRW.out.mono ?_
          rintro e w9 ⟨rfl, b9⟩
          have BF : Hid (Below w.heap.size w w9) := B8.out.trans (b9.mono B8.out.size)
          clear b9
          go_wp2_with fail
          go_ret
          exact ⟨rfl, by first | exact BF.out | (rw [← HG.out]; exact BF.out)⟩
        · have hk : (IntKind.u64.wrap what).tmod 9 = 8 := HK.out
          clear HK
          obtain ⟨w8, hw8⟩ : ∃ z, w7.setCell ⟨G, 3, none⟩ (.int .i64 4) = z := ⟨_, rfl⟩
          have K8 : Bk w8 G 24 #[.string J, .string N, .slice DA dn dcap, .int .i64 4, .bool a0, .bool p0] := by rw [← hw8]; exact K7.out.put 3 _
          have B8 : Hid (Below w.heap.size w w8) := by rw [← hw8]; exact B7.out.setCell (p := ⟨G, 3, none⟩) HGW.out _
          have O8 : OwnT w3.heap.size w8 (.slice DA dn dcap) (sts d.groups) := by rw [← hw8]; exact O7.out.butI (but_setI _ _ _ _) HG3.out
          have R8 : ReadT w8.heap.size w8 (.slice DA dn dcap) (sts (worseI 8 d).groups) := O8.reads
          have HRW := Lib.hid (worse_any 8 d HD.out (.slice DA dn dcap) w8 (HO.out w8 B8.out) R8)
          have hag : agI (worseI 8 d) (.slice DA dn dcap) = .agg #[.string J, .string N, .slice DA dn dcap, .int .i64 4, .bool a0, .bool p0] := by (try rw [← HLB.out]); (try rw [← HJ.out]); (try rw [← HN.out]); (try rw [← HS0.out]); (try rw [← HA0.out]); (try rw [← HP0.out]); rfl
          rw [hag] at HRW
          clear hag R8 HLB O8
          have u0 : w8.cell? ⟨G, 0, none⟩ = some (.string J) := K8.cell 0
          have u1 : w8.cell? ⟨G, 1, none⟩ = some (.string N) := K8.cell 1
          have u2 : w8.cell? ⟨G, 2, none⟩ = some (.slice DA dn dcap) := K8.cell 2
          have u3 : w8.cell? ⟨G, 3, none⟩ = some (.int .i64 4) := K8.cell 3
          have u4 : w8.cell? ⟨G, 4, none⟩ = some (.bool a0) := K8.cell 4
          have u5 : w8.cell? ⟨G, 5, none⟩ = some (.bool p0) := K8.cell 5
          clear K8
          go_wp2_with fail
          refine HRW.out.mono ?_
          rintro e w9 ⟨rfl, b9⟩
          have BF : Hid (Below w.heap.size w w9) := B8.out.trans (b9.mono B8.out.size)
          clear b9
          go_wp2_with fail
          go_ret
          exact ⟨rfl, by first | exact BF.out | (rw [← HG.out]; exact BF.out)⟩
end Go.Proofs.YtogjhpcjjmcjfaaGreatDoor
