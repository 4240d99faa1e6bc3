import Derived.Test.YtogjhpcjjmcjfaaGreatDoorJ46
/- what is reached of it -/
namespace Go.Proofs.YtogjhpcjjmcjfaaGreatDoor
open Go.RowKit Vc Ct Tx
theorem bts_cat (l : List UInt8) : bts (l ++ [47, 114]) = bts l ++ ⟨#[47, 114]⟩ := ByteArray.ext (by
  show (l ++ [47, 114]).toArray = (bts l ++ (⟨#[47, 114]⟩ : ByteArray)).data
  rw [ByteArray.data_append]
  show _ = l.toArray ++ [47, 114].toArray
  rw [List.append_toArray])
theorem rem6 (s : Int) : ∃ S : Int, s.tmod 6 = S ∧ -6 < S ∧ S < 6 := by
  refine ⟨s.tmod 6, rfl, ?_, ?_⟩
  · have := Int.lt_tmod_of_pos s (show (0 : Int) < 6 by decide); omega
  · exact Int.tmod_lt_of_pos s (by decide)
def toB (S : Int) : Bool := decide (S = 1) || decide (S = 3)
def fromB (S : Int) : Bool := decide (S = 2) || decide (S = 3)
theorem modes_is (S : Int) (a p : Bool) : (decide (0 ≤ S) && decide (S ≤ 3) && !(a && toB S) && !(p && fromB S)) = subB S a p := by
  unfold toB fromB subB
  by_cases h0 : S = 0
  · subst h0; simp
  by_cases h1 : S = 1
  · subst h1; simp
  by_cases h2 : S = 2
  · subst h2; simp
  by_cases h3 : S = 3
  · subst h3; simp
  rw [if_neg h0, if_neg h1, if_neg h2, if_neg h3]
  by_cases hl : 0 ≤ S
  · have : ¬ S ≤ 3 := by omega
    rw [decide_eq_false this]; simp
  · rw [decide_eq_false hl]; simp
set_option linter.unusedSimpArgs false in
set_option maxHeartbeats 16000000 in
set_option maxRecDepth 100000 in
theorem itemModes_any (sub : Int) (ask app : Bool) (x : Itm) (gv : Value) (w : World) (hO : Okw w) (hR : ReadT w.heap.size w gv (sts x.groups)) (hb : heavyI x ≤ 1000000000) :
    Calls Tryz.prog 5 #[.int .i64 sub, .bool ask, .bool app, agI x gv] w fun e w' => e = .returned (.bool true) ∧ Below w.heap.size w w' := by
  obtain ⟨GA, gn, gcap, rfl⟩ : ∃ A n cap, gv = .slice A n cap := by obtain ⟨A, cap, e, _⟩ := hR; exact ⟨A, _, cap, e⟩
  have hAX : agI x (.slice GA gn gcap) = .agg #[.string (bts x.jid), .string (bts x.name), .slice GA gn gcap, .int .i64 x.sub, .bool x.ask, .bool x.app] := rfl
  have HSM : Hid (∀ (W : World) (b : Nat), Below w.heap.size w W → Bk W b 24 (encI x (.slice GA gn gcap)).toArray → Calls Tryz.prog 8 #[.slice (some ⟨b, 0, none⟩) 1 1] W fun e w' => e = .returned (.bool (smallIs [(x, GA, gn, gcap)])) ∧ Below W.heap.size W w') := fun W b hW k =>
    smallIs_any _ _ W (readI_one x (GA, gn, gcap) k (hR.upon hW)) (by simp) (fun p hp => by rw [List.mem_singleton] at hp; subst hp; have := (heavy_parts hb).2.2.1; show x.groups.length ≤ _; omega) (by rw [heavy_one]; exact Nat.le_trans hb (by decide))
  have HAW : Hid (∀ W, Below w.heap.size w W → Calls Tryz.prog 10 #[] W fun e w' => e = .returned (.bool true) ∧ Below W.heap.size W w') := fun W h => iawake_any W (hO.below h)
  have hsmall : smallIs [(x, GA, gn, gcap)] = true → heavyI x ≤ 20000 := fun h => by
    unfold smallIs at h
    rw [heavy_one] at h
    have := of_decide_eq_true (Bool.and_eq_true_iff.1 h).2
    omega
  have HIT : Hid (smallIs [(x, GA, gn, gcap)] = true → ∀ W, Below w.heap.size w W → Calls Tryz.prog 25 #[agI x (.slice GA gn gcap), .int .i64 0] W fun e w' => (∃ d g, e = .returned (agI d g) ∧ NearI d ∧ OwnT W.heap.size w' g (sts d.groups)) ∧ Below W.heap.size W w') := fun h W hW => by
    obtain ⟨h1, h2, h3, h4⟩ := heavy_parts (hsmall h)
    exact pitem_any x _ 0 (by decide) W (hR.upon hW) (by omega) (by omega) (by omega) (fun g hg => by have := h4 g hg; omega)
  have HO : Hid (∀ W, Below w.heap.size w W → Okw W) := fun W h => hO.below h
  have hex : (encI x (.slice GA gn gcap)).toArray = #[.string (bts x.jid), .string (bts x.name), .slice GA gn gcap, .int .i64 x.sub, .bool x.ask, .bool x.app] := rfl
  rw [hex] at HSM
  rw [hAX] at HIT ⊢
  obtain ⟨cs, hcs⟩ : ∃ b, smallIs [(x, GA, gn, gcap)] = b := ⟨_, rfl⟩
  rw [hcs] at HSM HIT
  obtain ⟨X0, hX0⟩ : ∃ X, bts x.jid = X := ⟨_, rfl⟩
  obtain ⟨X1, hX1⟩ : ∃ X, bts x.name = X := ⟨_, rfl⟩
  obtain ⟨SB, hSB⟩ : ∃ X, x.sub = X := ⟨_, rfl⟩
  obtain ⟨AK, hAK⟩ : ∃ X, x.ask = X := ⟨_, rfl⟩
  obtain ⟨AP, hAP⟩ : ∃ X, x.app = X := ⟨_, rfl⟩
  rw [hX0, hX1, hSB, hAK, hAP] at HSM HIT ⊢
  clear hR hO hb hAX hsmall hex hcs hX0 hX1 hSB hAK hAP
  obtain ⟨W1, hW1⟩ : ∃ W1, w.alloc (.cells #[.string X0, .string X1, .slice GA gn gcap, .int .i64 SB, .bool AK, .bool AP] 24) = W1 := ⟨_, rfl⟩
  obtain ⟨G, hG⟩ : ∃ G, w.heap.size = G := ⟨_, rfl⟩
  have k1 : Bk W1 G 24 #[.string X0, .string X1, .slice GA gn gcap, .int .i64 SB, .bool AK, .bool AP] := by rw [← hW1, ← hG]; exact Bk.new _ _ _
  have b1 : Below w.heap.size w W1 := by rw [← hW1]; exact (Below.refl _ _).alloc (Nat.le_refl _) _
  obtain ⟨W2, hW2⟩ : ∃ W2, W1.alloc (.cells #[.string X0, .string X1, .slice GA gn gcap, .int .i64 SB, .bool AK, .bool AP] 24) = W2 := ⟨_, rfl⟩
  obtain ⟨bb, hbb⟩ : ∃ G, W1.heap.size = G := ⟨_, rfl⟩
  have k2 : Bk W2 bb 24 #[.string X0, .string X1, .slice GA gn gcap, .int .i64 SB, .bool AK, .bool AP] := by rw [← hW2, ← hbb]; exact Bk.new _ _ _
  have b2 : Below W1.heap.size W1 W2 := by rw [← hW2]; exact (Below.refl _ _).alloc (Nat.le_refl _) _
  have B2 : Hid (Below w.heap.size w W2) := b1.trans (b2.mono b1.size)
  have K1 := Lib.hid k1
  have K2 := Lib.hid (k1.below b2 k1.lt)
  have HGW : Hid (w.heap.size ≤ G) := by rw [← hG]; exact Nat.le_refl _
  have HS2 := Lib.hid (HSM.out W2 bb B2.out k2)
  clear k1 b1 k2 b2 HSM
  have HW1 := Lib.hid hW1
  have HG := Lib.hid hG
  have HW2 := Lib.hid hW2
  have HBB := Lib.hid hbb
  clear hW1 hG hW2 hbb
  go_enter Tryz.func5, Tryz.ntmps5
  go_upto_region 1 with fail
  (try rw [HW1.out])
  (try rw [HG.out])
  have c0 : W1.cell? ⟨G, 0, none⟩ = some (.string X0) := K1.out.cell 0
  have cf0 : W1.frozen? ⟨G, 0, none⟩ = false := K1.out.free 0
  have c1 : W1.cell? ⟨G, 1, none⟩ = some (.string X1) := K1.out.cell 1
  have cf1 : W1.frozen? ⟨G, 1, none⟩ = false := K1.out.free 1
  have c2 : W1.cell? ⟨G, 2, none⟩ = some (.slice GA gn gcap) := K1.out.cell 2
  have cf2 : W1.frozen? ⟨G, 2, none⟩ = false := K1.out.free 2
  have c3 : W1.cell? ⟨G, 3, none⟩ = some (.int .i64 SB) := K1.out.cell 3
  have cf3 : W1.frozen? ⟨G, 3, none⟩ = false := K1.out.free 3
  have c4 : W1.cell? ⟨G, 4, none⟩ = some (.bool AK) := K1.out.cell 4
  have cf4 : W1.frozen? ⟨G, 4, none⟩ = false := K1.out.free 4
  have c5 : W1.cell? ⟨G, 5, none⟩ = some (.bool AP) := K1.out.cell 5
  have cf5 : W1.frozen? ⟨G, 5, none⟩ = false := K1.out.free 5
  go_wp2_with fail
  (try rw [HW2.out])
  (try rw [HBB.out])
  refine HS2.out.mono ?_
  rintro e w3 ⟨rfl, b3⟩
  have B3 : Hid (Below w.heap.size w w3) := B2.out.trans (b3.mono B2.out.size)
  have K3 := Lib.hid (K2.out.below b3 K2.out.lt)
  clear b3 c0 cf0 c1 cf1 c2 cf2 c3 cf3 c4 cf4 c5 cf5
  cases cs with
  | false =>
    have HA := Lib.hid (HAW.out w3 B3.out)
    go_wp2_with fail
    refine HA.out.mono ?_
    rintro e w4 ⟨rfl, b4⟩
    go_wp2_with fail
    go_ret
    exact ⟨rfl, by first | exact B3.out.trans (b4.mono B3.out.size) | (rw [← HG.out]; exact B3.out.trans (b4.mono B3.out.size))⟩
  | true =>
    have HI := Lib.hid (HIT.out rfl w3 B3.out)
    have c0 : w3.cell? ⟨G, 0, none⟩ = some (.string X0) := K3.out.cell 0
    have c1 : w3.cell? ⟨G, 1, none⟩ = some (.string X1) := K3.out.cell 1
    have c2 : w3.cell? ⟨G, 2, none⟩ = some (.slice GA gn gcap) := K3.out.cell 2
    have c3 : w3.cell? ⟨G, 3, none⟩ = some (.int .i64 SB) := K3.out.cell 3
    have c4 : w3.cell? ⟨G, 4, none⟩ = some (.bool AK) := K3.out.cell 4
    have c5 : w3.cell? ⟨G, 5, none⟩ = some (.bool AP) := K3.out.cell 5
    go_wp2_with fail
    refine HI.out.mono ?_
    rintro e w4 ⟨⟨d, g, rfl, hd, og⟩, b4⟩
    have B4 : Hid (Below w.heap.size w w4) := B3.out.trans (b4.mono B3.out.size)
    have K4 := Lib.hid (K3.out.below b4 K3.out.lt)
    have HD := Lib.hid hd
    have HG3 : Hid (G < w3.heap.size) := K3.out.lt
    obtain ⟨DA, dn, dcap, rfl⟩ : ∃ A n cap, g = .slice A n cap := by obtain ⟨A, cap, e⟩ := og.slice; exact ⟨A, _, cap, e⟩
    have hdx : agI d (.slice DA dn dcap) = .agg #[.string (bts d.jid), .string (bts d.name), .slice DA dn dcap, .int .i64 d.sub, .bool d.ask, .bool d.app] := rfl
    rw [hdx]
    obtain ⟨w5, hw5⟩ : ∃ z, laid6 w4 G (.string (bts d.jid)) (.string (bts d.name)) (.slice DA dn dcap) (.int .i64 d.sub) (.bool d.ask) (.bool d.app) = z := ⟨_, rfl⟩
    have K5 : Hid (Bk w5 G 24 #[.string (bts d.jid), .string (bts d.name), .slice DA dn dcap, .int .i64 d.sub, .bool d.ask, .bool d.app]) := by rw [← hw5]; exact laid6_bk K4.out _ _ _ _ _ _
    have B5 : Hid (Below w.heap.size w w5) := by rw [← hw5]; exact laid6_below B4.out HGW.out _ _ _ _ _ _
    have O5 : Hid (OwnT w3.heap.size w5 (.slice DA dn dcap) (sts d.groups)) := by rw [← hw5]; exact og.butI (laid6_but _ _ _ _ _ _ _ _) HG3.out
    have e0 : w4.cell? ⟨G, 0, none⟩ = some (.string X0) := K4.out.cell 0
    have ef0 : w4.frozen? ⟨G, 0, none⟩ = false := K4.out.free 0
    have e1 : w4.cell? ⟨G, 1, none⟩ = some (.string X1) := K4.out.cell 1
    have ef1 : w4.frozen? ⟨G, 1, none⟩ = false := K4.out.free 1
    have e2 : w4.cell? ⟨G, 2, none⟩ = some (.slice GA gn gcap) := K4.out.cell 2
    have ef2 : w4.frozen? ⟨G, 2, none⟩ = false := K4.out.free 2
    have e3 : w4.cell? ⟨G, 3, none⟩ = some (.int .i64 SB) := K4.out.cell 3
    have ef3 : w4.frozen? ⟨G, 3, none⟩ = false := K4.out.free 3
    have e4 : w4.cell? ⟨G, 4, none⟩ = some (.bool AK) := K4.out.cell 4
    have ef4 : w4.frozen? ⟨G, 4, none⟩ = false := K4.out.free 4
    have e5 : w4.cell? ⟨G, 5, none⟩ = some (.bool AP) := K4.out.cell 5
    have ef5 : w4.frozen? ⟨G, 5, none⟩ = false := K4.out.free 5
    clear hd og b4 hdx
    obtain ⟨J, hJ⟩ : ∃ J, bts d.jid = J := ⟨_, rfl⟩
    obtain ⟨N, hN⟩ : ∃ J, bts d.name = J := ⟨_, rfl⟩
    obtain ⟨s0, hs0⟩ : ∃ J, d.sub = J := ⟨_, rfl⟩
    obtain ⟨a0, ha0⟩ : ∃ J, d.ask = J := ⟨_, rfl⟩
    obtain ⟨p0, hp0⟩ : ∃ J, d.app = J := ⟨_, rfl⟩
    have HR5 := Lib.hid (right_like d HD.out d rfl (by have := HD.out.sizes.1; omega) (by have := HD.out.sizes.2.1; omega) (.slice DA dn dcap))
    have hdx2 : agI d (.slice DA dn dcap) = .agg #[.string (bts d.jid), .string (bts d.name), .slice DA dn dcap, .int .i64 d.sub, .bool d.ask, .bool d.app] := rfl
    rw [HD.out.right, hdx2] at HR5
    rw [hJ, hN, hs0, ha0, hp0] at HR5 K5 hw5 ⊢
    have HJ := Lib.hid hJ
    have HN := Lib.hid hN
    clear hdx2 hJ hN hs0 ha0 hp0
    go_upto_region 4 with fail
    (try rw [hw5])
    clear hw5 c0 e0 ef0 c1 e1 ef1 c2 e2 ef2 c3 e3 ef3 c4 e4 ef4 c5 e5 ef5
    have HA := Lib.hid (HAW.out w5 B5.out)
    go_wp2_with fail
    refine HA.out.mono ?_
    rintro e w6 ⟨rfl, b6⟩
    have B6 : Hid (Below w.heap.size w w6) := B5.out.trans (b6.mono B5.out.size)
    have K6 := Lib.hid (K5.out.below b6 K5.out.lt)
    have O6 := Lib.hid (O5.out.below b6)
    clear b6 HA
    have HR6 := Lib.hid (HR5.out w6 (HO.out w6 B6.out) O6.out.reads)
    have m0 : w6.cell? ⟨G, 0, none⟩ = some (.string J) := K6.out.cell 0
    have m1 : w6.cell? ⟨G, 1, none⟩ = some (.string N) := K6.out.cell 1
    have m2 : w6.cell? ⟨G, 2, none⟩ = some (.slice DA dn dcap) := K6.out.cell 2
    have m3 : w6.cell? ⟨G, 3, none⟩ = some (.int .i64 s0) := K6.out.cell 3
    have m4 : w6.cell? ⟨G, 4, none⟩ = some (.bool a0) := K6.out.cell 4
    have m5 : w6.cell? ⟨G, 5, none⟩ = some (.bool p0) := K6.out.cell 5
    go_wp2_with fail
    refine HR6.out.mono ?_
    rintro e w7 ⟨rfl, b7⟩
    have B7 : Hid (Below w.heap.size w w7) := B6.out.trans (b7.mono B6.out.size)
    have K7 := Lib.hid (K6.out.below b7 K6.out.lt)
    have O7 := Lib.hid (O6.out.below b7)
    clear b7 HR6 HR5 m0 m1 m2 m3 m4 m5
    obtain ⟨S, hS, hS0, hS6⟩ := rem6 sub
    have HS0 := Lib.hid hS0
    have HS6 := Lib.hid hS6
    clear hS0 hS6
    have n0 : w7.cell? ⟨G, 0, none⟩ = some (.string J) := K7.out.cell 0
    have nf0 : w7.frozen? ⟨G, 0, none⟩ = false := K7.out.free 0
    have n1 : w7.cell? ⟨G, 1, none⟩ = some (.string N) := K7.out.cell 1
    have nf1 : w7.frozen? ⟨G, 1, none⟩ = false := K7.out.free 1
    have n2 : w7.cell? ⟨G, 2, none⟩ = some (.slice DA dn dcap) := K7.out.cell 2
    have nf2 : w7.frozen? ⟨G, 2, none⟩ = false := K7.out.free 2
    have n3 : w7.cell? ⟨G, 3, none⟩ = some (.int .i64 s0) := K7.out.cell 3
    have nf3 : w7.frozen? ⟨G, 3, none⟩ = false := K7.out.free 3
    have n4 : w7.cell? ⟨G, 4, none⟩ = some (.bool a0) := K7.out.cell 4
    have nf4 : w7.frozen? ⟨G, 4, none⟩ = false := K7.out.free 4
    have n5 : w7.cell? ⟨G, 5, none⟩ = some (.bool p0) := K7.out.cell 5
    have nf5 : w7.frozen? ⟨G, 5, none⟩ = false := K7.out.free 5
    obtain ⟨w8, hw8⟩ : ∃ z, ((w7.setCell ⟨G, 3, none⟩ (.int .i64 S)).setCell ⟨G, 4, none⟩ (.bool ask)).setCell ⟨G, 5, none⟩ (.bool app) = z := ⟨_, rfl⟩
    have K8 : Hid (Bk w8 G 24 #[.string J, .string N, .slice DA dn dcap, .int .i64 S, .bool ask, .bool app]) := by
      rw [← hw8]
      unfold Hid
      have := ((K7.out.put 3 (.int .i64 S)).put 4 (.bool ask)).put 5 (.bool app)
      simpa using this
    have B8 : Hid (Below w.heap.size w w8) := by rw [← hw8]; exact ((B7.out.setCell (p := ⟨G, 3, none⟩) HGW.out _).setCell (p := ⟨G, 4, none⟩) HGW.out _).setCell (p := ⟨G, 5, none⟩) HGW.out _
    have O8 : Hid (OwnT w3.heap.size w8 (.slice DA dn dcap) (sts d.groups)) := by rw [← hw8]; exact O7.out.butI (((but_setI _ _ _ _).trans (but_setI _ _ _ _)).trans (but_setI _ _ _ _)) HG3.out
    have HR8 := Lib.hid (right_like d HD.out { d with sub := S, ask := ask, app := app } rfl (by have := HD.out.sizes.1; show d.jid.length ≤ _; omega) (by have := HD.out.sizes.2.1; show d.name.length ≤ _; omega) (.slice DA dn dcap))
    have HRB := Lib.hid (right_like d HD.out { d with jid := d.jid ++ [47, 114], sub := S, ask := ask, app := app } rfl (by have := HD.out.sizes.1; show (d.jid ++ [47, 114]).length ≤ _; rw [List.length_append]; show d.jid.length + 2 ≤ _; omega) (by have := HD.out.sizes.2.1; show d.name.length ≤ _; omega) (.slice DA dn dcap))
    have hag : agI { d with sub := S, ask := ask, app := app } (.slice DA dn dcap) = .agg #[.string J, .string N, .slice DA dn dcap, .int .i64 S, .bool ask, .bool app] := by rw [← HJ.out, ← HN.out]; rfl
    have hagb : agI { d with jid := d.jid ++ [47, 114], sub := S, ask := ask, app := app } (.slice DA dn dcap) = .agg #[.string (J ++ ⟨#[47, 114]⟩), .string N, .slice DA dn dcap, .int .i64 S, .bool ask, .bool app] := by
      rw [← HJ.out, ← HN.out]
      show Value.agg #[.string (bts (d.jid ++ [47, 114])), _, _, _, _, _] = _
      rw [bts_cat]
    have hbad : rightI { d with jid := d.jid ++ [47, 114], sub := S, ask := ask, app := app } = false := bad_jid (addr_slash d.jid [114])
    have hJz : J.size ≤ 1000 := by rw [← HJ.out, Lib.size_eq]; have := HD.out.sizes.1; show d.jid.length ≤ _; omega
    have HJZ := Lib.hid hJz
    rw [right_modes HD.out, hag] at HR8
    rw [hbad, hagb] at HRB
    clear hag hagb hbad hJz
    go_upto_region 7 with fail
    (try rw [hw8])
    clear hw8 n0 nf0 n1 nf1 n2 nf2 n3 nf3 n4 nf4 n5 nf5 hS
    have c3 : w8.cell? ⟨G, 3, none⟩ = some (.int .i64 S) := K8.out.cell 3
    go_cut [9, 10] from 34 to 49 (fun s9 s10 wx => s9 = .bool (toB S) ∧ s10 = .bool (fromB S) ∧ ∃ n, wx = w8.drewN n)
    case first =>
      by_cases h1 : S = 1
      · subst h1
        go_big_quiet (fail)
        rename_i nq
        go_wp2_with fail
        go_meet
        exact ⟨rfl, rfl, _, rfl⟩
      by_cases h2 : S = 2
      · subst h2
        go_big_quiet (fail)
        rename_i nq
        go_wp2_with fail
        go_meet
        exact ⟨rfl, rfl, _, rfl⟩
      by_cases h3 : S = 3
      · subst h3
        go_big_quiet (fail)
        rename_i nq
        go_wp2_with fail
        go_meet
        exact ⟨rfl, rfl, _, rfl⟩
      have e1 : (S == 1) = false := by simpa using h1
      have e2 : (S == 2) = false := by simpa using h2
      have e3 : (S == 3) = false := by simpa using h3
      have T1 : Hid (toB S = false) := by unfold Hid toB; rw [decide_eq_false h1, decide_eq_false h3]; rfl
      have T2 : Hid (fromB S = false) := by unfold Hid fromB; rw [decide_eq_false h2, decide_eq_false h3]; rfl
      clear h1 h2 h3
      go_big_quiet (fail)
      rename_i nq
      go_wp2_with fail
      go_meet
      exact ⟨by rw [T1.out], by rw [T2.out], _, rfl⟩
    case rest =>
    obtain ⟨h9, h10, nq, hwc⟩ := hcut
    subst h9 h10
    have K8a : Bk wc G 24 #[.string J, .string N, .slice DA dn dcap, .int .i64 S, .bool ask, .bool app] := by rw [hwc]; exact K8.out
    have B8a : Below w.heap.size w wc := by rw [hwc]; exact drewNg_below B8.out _
    have O8a : OwnT w3.heap.size wc (.slice DA dn dcap) (sts d.groups) := by rw [hwc]; exact drewNg_own O8.out _
    clear hwc K8 B8 O8 c3
    obtain ⟨w8, hw8⟩ : ∃ z, z = wc := ⟨_, rfl⟩
    rw [← hw8] at K8a B8a O8a ⊢
    clear hw8
    have K8 := Lib.hid K8a
    have B8 := Lib.hid B8a
    have O8 := Lib.hid O8a
    clear K8a B8a O8a
    have c3 : w8.cell? ⟨G, 3, none⟩ = some (.int .i64 S) := K8.out.cell 3
    have hmd := modes_is S ask app
    obtain ⟨T, hT⟩ : ∃ T, toB S = T := ⟨_, rfl⟩
    obtain ⟨F, hF⟩ : ∃ T, fromB S = T := ⟨_, rfl⟩
    rw [hT, hF] at hmd
    rw [hT, hF]
    clear hT hF
    obtain ⟨R, hRR⟩ : ∃ R, subB S ask app = R := ⟨_, rfl⟩
    rw [hRR] at hmd HR8
    have HMD := Lib.hid hmd
    clear hmd hRR
    go_upto_region 8 with fail
    go_cut [11] from 50 to 71 (fun s wx => s = .bool R ∧ wx = w8)
    case first =>
      have fin := HMD.out
      by_cases h0 : 0 ≤ S
      · have d0 : decide (S ≥ 0) = true := decide_eq_true h0
        by_cases h3 : S ≤ 3
        · have d3 : decide (S ≤ 3) = true := decide_eq_true h3
          rw [decide_eq_true h0, d3] at fin
          have FIN := Lib.hid fin
          clear fin
          cases ask <;> cases T <;> cases app <;> cases F <;> (go_wp2_with fail; go_meet; exact ⟨by rw [← FIN.out]; rfl, rfl⟩)
        · have d3 : decide (S ≤ 3) = false := decide_eq_false h3
          rw [d3, Bool.and_false, Bool.false_and, Bool.false_and] at fin
          have FIN := Lib.hid fin
          clear fin
          go_wp2_with fail
          go_meet
          exact ⟨by rw [← FIN.out], rfl⟩
      · have d0 : decide (S ≥ 0) = false := decide_eq_false h0
        rw [decide_eq_false h0, Bool.false_and, Bool.false_and, Bool.false_and] at fin
        have FIN := Lib.hid fin
        clear fin
        go_wp2_with fail
        go_meet
        exact ⟨by rw [← FIN.out], rfl⟩
    case rest =>
    obtain ⟨h11, hwc⟩ := hcut
    subst h11
    have hwc2 := hwc.symm
    subst hwc2
    clear hwc c3
    have n0 : w8.cell? ⟨G, 0, none⟩ = some (.string J) := K8.out.cell 0
    have n1 : w8.cell? ⟨G, 1, none⟩ = some (.string N) := K8.out.cell 1
    have n2 : w8.cell? ⟨G, 2, none⟩ = some (.slice DA dn dcap) := K8.out.cell 2
    have n3 : w8.cell? ⟨G, 3, none⟩ = some (.int .i64 S) := K8.out.cell 3
    have n4 : w8.cell? ⟨G, 4, none⟩ = some (.bool ask) := K8.out.cell 4
    have n5 : w8.cell? ⟨G, 5, none⟩ = some (.bool app) := K8.out.cell 5
    obtain ⟨W9, hW9⟩ : ∃ W, w8.alloc (.cells #[.string ⟨#[]⟩, .string ⟨#[]⟩, .slice none 0 0, .int .i64 0, .bool false, .bool false] 24) = W := ⟨_, rfl⟩
    obtain ⟨D, hD⟩ : ∃ b, w8.heap.size = b := ⟨_, rfl⟩
    have K9 : Hid (Bk W9 D 24 #[.string ⟨#[]⟩, .string ⟨#[]⟩, .slice none 0 0, .int .i64 0, .bool false, .bool false]) := by rw [← hW9, ← hD]; exact Bk.new _ _ _
    have B9 : Hid (Below w.heap.size w W9) := by rw [← hW9]; exact B8.out.alloc B8.out.size _
    have b89 : Below w8.heap.size w8 W9 := by rw [← hW9]; exact (Below.refl _ _).alloc (Nat.le_refl _) _
    have hGD : G ≠ D := by have := K8.out.lt; omega
    have R8 : Hid (ReadT w8.heap.size w8 (.slice DA dn dcap) (sts d.groups)) := O8.out.reads
    have HWD8 : Hid (w8.heap.size ≤ D) := by rw [← hD]; exact Nat.le_refl _
    have z0 : W9.cell? ⟨D, 0, none⟩ = some (.string ⟨#[]⟩) := K9.out.cell 0
    have zf0 : W9.frozen? ⟨D, 0, none⟩ = false := K9.out.free 0
    have z1 : W9.cell? ⟨D, 1, none⟩ = some (.string ⟨#[]⟩) := K9.out.cell 1
    have zf1 : W9.frozen? ⟨D, 1, none⟩ = false := K9.out.free 1
    have z2 : W9.cell? ⟨D, 2, none⟩ = some (.slice none 0 0) := K9.out.cell 2
    have zf2 : W9.frozen? ⟨D, 2, none⟩ = false := K9.out.free 2
    have z3 : W9.cell? ⟨D, 3, none⟩ = some (.int .i64 0) := K9.out.cell 3
    have zf3 : W9.frozen? ⟨D, 3, none⟩ = false := K9.out.free 3
    have z4 : W9.cell? ⟨D, 4, none⟩ = some (.bool false) := K9.out.cell 4
    have zf4 : W9.frozen? ⟨D, 4, none⟩ = false := K9.out.free 4
    have z5 : W9.cell? ⟨D, 5, none⟩ = some (.bool false) := K9.out.cell 5
    have zf5 : W9.frozen? ⟨D, 5, none⟩ = false := K9.out.free 5
    have K10 := Lib.hid (laid6_bk K9.out (.string J) (.string N) (.slice DA dn dcap) (.int .i64 S) (.bool ask) (.bool app))
    have B10 := Lib.hid (laid6_below b89 HWD8.out (.string J) (.string N) (.slice DA dn dcap) (.int .i64 S) (.bool ask) (.bool app))
    obtain ⟨w10, hw10⟩ : ∃ z, laid6 W9 D (.string J) (.string N) (.slice DA dn dcap) (.int .i64 S) (.bool ask) (.bool app) = z := ⟨_, rfl⟩
    rw [hw10] at K10 B10
    clear b89
    go_upto_region 10 with fail
    clear hW9 hD hw10 z0 zf0 z1 zf1 z2 zf2 z3 zf3 z4 zf4 z5 zf5
    obtain ⟨JB, hJB⟩ : ∃ z, J ++ ⟨#[47, 114]⟩ = z := ⟨_, rfl⟩
    rw [hJB] at HRB
    have q0 : w10.cell? ⟨D, 0, none⟩ = some (.string J) := K10.out.cell 0
    have qf0 : w10.frozen? ⟨D, 0, none⟩ = false := K10.out.free 0
    have hjz : ¬ (9223372036854775807 < J.size + 2) := by have := HJZ.out; omega
    obtain ⟨w11, hw11⟩ : ∃ z, w10.setCell ⟨D, 0, none⟩ (.string JB) = z := ⟨_, rfl⟩
    have K11 : Hid (Bk w11 D 24 #[.string JB, .string N, .slice DA dn dcap, .int .i64 S, .bool ask, .bool app]) := by rw [← hw11]; exact K10.out.put 0 _
    have B11 : Hid (Below w8.heap.size w8 w11) := by rw [← hw11]; exact B10.out.setCell (p := ⟨D, 0, none⟩) HWD8.out _
    have G11 := Lib.hid (K8.out.below B11.out K8.out.lt)
    have BW11 : Hid (Below w.heap.size w w11) := B8.out.trans (B11.out.mono B8.out.size)
    clear n0 n1 n2 n3 n4 n5
    go_upto_region 11 with fail
    (try rw [hw11])
    clear hw11 q0 qf0 hjz hJB
    have g0 : w11.cell? ⟨G, 0, none⟩ = some (.string J) := G11.out.cell 0
    have g1 : w11.cell? ⟨G, 1, none⟩ = some (.string N) := G11.out.cell 1
    have g2 : w11.cell? ⟨G, 2, none⟩ = some (.slice DA dn dcap) := G11.out.cell 2
    have g3 : w11.cell? ⟨G, 3, none⟩ = some (.int .i64 S) := G11.out.cell 3
    have g4 : w11.cell? ⟨G, 4, none⟩ = some (.bool ask) := G11.out.cell 4
    have g5 : w11.cell? ⟨G, 5, none⟩ = some (.bool app) := G11.out.cell 5
    have HRX := Lib.hid (HR8.out w11 (HO.out w11 BW11.out) (R8.out.upon B11.out))
    go_wp2_with fail
    refine HRX.out.mono ?_
    rintro e w12 ⟨rfl, b12⟩
    have B12 : Hid (Below w8.heap.size w8 w12) := B11.out.trans (b12.mono B11.out.size)
    have BW12 : Hid (Below w.heap.size w w12) := B8.out.trans (B12.out.mono B8.out.size)
    have K12 := Lib.hid (K11.out.below b12 K11.out.lt)
    clear b12 HRX g0 g1 g2 g3 g4 g5
    have h0 : w12.cell? ⟨D, 0, none⟩ = some (.string JB) := K12.out.cell 0
    have h1 : w12.cell? ⟨D, 1, none⟩ = some (.string N) := K12.out.cell 1
    have h2 : w12.cell? ⟨D, 2, none⟩ = some (.slice DA dn dcap) := K12.out.cell 2
    have h3 : w12.cell? ⟨D, 3, none⟩ = some (.int .i64 S) := K12.out.cell 3
    have h4 : w12.cell? ⟨D, 4, none⟩ = some (.bool ask) := K12.out.cell 4
    have h5 : w12.cell? ⟨D, 5, none⟩ = some (.bool app) := K12.out.cell 5
    have HRY := Lib.hid (HRB.out w12 (HO.out w12 BW12.out) (R8.out.upon B12.out))
    have hrr : (R == R) = true := by simp
    go_wp2_with fail
    refine HRY.out.mono ?_
    rintro e w13 ⟨rfl, b13⟩
    have BF : Hid (Below w.heap.size w w13) := BW12.out.trans (b13.mono BW12.out.size)
    go_wp2_with fail
    go_ret
    exact ⟨rfl, by first | exact BF.out | (rw [← HG.out]; exact BF.out)⟩
end Go.Proofs.YtogjhpcjjmcjfaaGreatDoor
