import Derived.Test.YtbgaglcgennhiaaGreatDoorN49
/- what is reached of it -/
namespace Go.Proofs.YtbgaglcgennhiaaGreatDoor
open Go.RowKit Go.Sort Tx Vc Ct
theorem uintRem14 (c : Int) : ∃ n : Nat, (IntKind.u64.wrap c).tmod 14 = (n : Int) ∧ n < 14 := by
  have e : IntKind.u64.wrap c = c % 18446744073709551616 := by simp [IntKind.wrap, IntKind.bits, IntKind.signed]
  have h0 : 0 ≤ IntKind.u64.wrap c := by rw [e]; exact Int.emod_nonneg _ (by decide)
  rw [Int.tmod_eq_emod_of_nonneg h0]
  have h1 := Int.emod_nonneg (IntKind.u64.wrap c) (show (14 : Int) ≠ 0 by decide)
  have h2 := Int.emod_lt_of_pos (IntKind.u64.wrap c) (show (0 : Int) < 14 by decide)
  exact ⟨(IntKind.u64.wrap c % 14).toNat, by omega, by omega⟩
/-- no address of a host whose name does not end with a sign of its own ends so -/
theorem no_at {l : List Hst} {s : List UInt8} (hs : s.getLast? = some 64) (hl : ∀ h ∈ l, ∃ c, h.name.getLast? = some c ∧ c ≠ 64) : NoU l s := fun h hh u _ ha => by
  obtain ⟨c, hc, hne⟩ := hl h hh
  have h1 : (u.name ++ 64 :: h.name).getLast? = some c := by
    rw [List.getLast?_append, List.getLast?_cons, hc]
    rfl
  rw [ha, hs] at h1
  exact hne (Option.some.inj h1).symm
theorem last_at (X : ByteArray) : (X ++ ⟨#[64]⟩ ++ X ++ ⟨#[64]⟩ : ByteArray).data.toList.getLast? = some 64 := by simp [List.getLast?_cons]
theorem bts_self (X : ByteArray) : bts X.data.toList = X := by cases X; simp
theorem reads1 {W : World} {ib pb ub hb n m k1 k2 : Nat} {u : Usr} {hn : List UInt8} {ci cp cu ch : Array Value} (ki : Bk W ib 53 ci) (kp : Bk W pb 9 cp) (ku : Bk W ub 28 cu) (kh : Bk W hb 47 ch)
    (ei : ci.toList = flatK2 encIS u.items) (ep : cp.toList = flatK2 encT u.pend) (eu : cu.toList = flatK2 encU [u]) (eh : ch.toList = flatK2 encH [⟨hn, [u], (some ⟨ub, 0, none⟩, 1, 1)⟩]) (iv : u.iv = (some ⟨ib, 0, none⟩, n, k1)) (pv : u.pv = (some ⟨pb, 0, none⟩, m, k2)) (hn1 : u.items.length = n) (hm1 : u.pend.length = m) (hg : NoG u.items) :
    ReadH W (.slice (some ⟨hb, 0, none⟩) 1 1) [⟨hn, [u], (some ⟨ub, 0, none⟩, 1, 1)⟩] := by
  have rI : RowB encIS 6 53 W ib u.items := rowB_bk ki ei (fun _ => rfl)
  have rP : RowB encT 1 9 W pb u.pend := rowB_bk kp ep (fun _ => rfl)
  have rU : RowB encU 4 28 W ub [u] := rowB_bk ku eu (fun _ => rfl)
  have rH : RowB encH 2 47 W hb [(⟨hn, [u], (some ⟨ub, 0, none⟩, 1, 1)⟩ : Hst)] := rowB_bk kh eh (fun _ => rfl)
  refine ⟨rH.row rH.lt 1 1 rfl, fun x hx => ?_⟩
  obtain rfl := List.mem_singleton.1 hx
  refine ⟨rU.row rU.lt 1 1 rfl, fun q hq => ?_⟩
  obtain rfl := List.mem_singleton.1 hq
  unfold InU
  rw [iv, pv]
  exact ⟨readI_bare (rI.row rI.lt n k1 hn1) hg, readT_row (rP.row rP.lt m k2 hm1)⟩
theorem smH_of {hn : List UInt8} {us : List Usr} {q : Slc} (h1 : hn.length ≤ 1000) (h2 : us.length ≤ 1000) (h3 : ∀ u ∈ us, SmU u) : SmH ⟨hn, us, q⟩ := ⟨Nat.le_trans h1 (by decide), Nat.le_trans h2 (by decide), h3⟩
theorem all_one {α : Type} {P : α → Prop} {x : α} (h : P x) : ∀ y ∈ [x], P y := fun y hy => by obtain rfl := List.mem_singleton.1 hy; exact h
theorem all_two {α : Type} {P : α → Prop} {x y : α} (h : P x) (h2 : P y) : ∀ z ∈ [x, y], P z := fun z hz => by
  rcases List.mem_cons.1 hz with rfl | hz
  · exact h
  · obtain rfl := List.mem_singleton.1 hz
    exact h2
/-- the user that is turned, the lists where they lie -/
def uT (n pw j0 j1 : List UInt8) (app : Bool) (ps : List (List UInt8)) (ib pb m : Nat) : Usr := oneU n pw j0 j1 app ps (none, 0, 0) (none, 0, 0) (some ⟨ib, 0, none⟩, 2, 2) (some ⟨pb, 0, none⟩, m, m)
theorem uT_sm (n pw j0 j1 : List UInt8) (app : Bool) (ps : List (List UInt8)) (ib pb m : Nat) (h1 : n.length ≤ 1000) (h2 : pw.length ≤ 1000) (h3 : j0.length ≤ 1000) (h4 : j1.length ≤ 1000) (h5 : ps.length ≤ 1000) (h6 : ∀ t ∈ ps, t.length ≤ 1000) : SmU (uT n pw j0 j1 app ps ib pb m) := smU_one _ _ _ _ _ _ _ _ _ _ h1 h2 h3 h4 h5 h6
theorem uT_fit (n pw j0 j1 : List UInt8) (app : Bool) (ps : List (List UInt8)) (ib pb m : Nat) : fitU (uT n pw j0 j1 app ps ib pb m) = (nodeB n && line pw 100 && (addrB j0 && (Jd.lessL j0 j1 && (addrB j1 && !app))) && rightK 60 Jd.lessL addrB ps && !decide (j1 ∈ ps)) := se_oneU _ _ _ _ _ _ _ _ _ _
theorem uT_noG (n pw j0 j1 : List UInt8) (app : Bool) (ps : List (List UInt8)) (ib pb m : Nat) : NoG (uT n pw j0 j1 app ps ib pb m).items := noG_two _ _ rfl rfl
set_option maxHeartbeats 40000000 in
set_option maxRecDepth 100000 in
theorem stateNeeds_any (what : Int) (X : ByteArray) (w : World) (hO : Okw w) (hT : Tabs w) :
    Calls Tryz.prog 5 #[.int .i64 what, .string X] w fun e w' => e = .returned (.bool true) ∧ Below w.heap.size w w' := by
  have HO := Lib.hid hO
  have HT := Lib.hid hT
  obtain ⟨k, hk, hk14⟩ := uintRem14 what
  have HK := Lib.hid hk
  clear hk hO hT
  by_cases hX : X.size ≤ 50
  · have hXz : ¬ (50 : Int) < (X.size : Int) := by omega
    go_enter Tryz.func5, Tryz.ntmps5
    go_wp2_with fail
    refine (one_any _).mono ?_
    rintro e w1 ⟨ib, pb, ub, hb, rfl, o1, b1⟩
    have O1 := Lib.hid o1
    have B1 := Lib.hid b1
    obtain ⟨W1, hW1⟩ : ∃ W, w1.alloc (.cells #[.slice none 0 0] 24) = W := ⟨_, rfl⟩
    obtain ⟨q, hq⟩ : ∃ b, w1.heap.size = b := ⟨_, rfl⟩
    have K1 : Hid (Bk W1 q 24 #[.slice none 0 0]) := by rw [← hW1, ← hq]; exact Bk.new _ _ _
    have b11 : Below w1.heap.size w1 W1 := by rw [← hW1]; exact (Below.refl _ _).alloc (Nat.le_refl _) _
    have HQW : Hid (w1.heap.size ≤ q) := by rw [← hq]; exact Nat.le_refl _
    have HQ : Hid (hb < q) := by have := o1.kh.lt; unfold Hid; omega
    have z0 : W1.cell? ⟨q, 0, none⟩ = some (.slice none 0 0) := K1.out.cell 0
    have zf0 : W1.frozen? ⟨q, 0, none⟩ = false := K1.out.free 0
    have K2 := Lib.hid (laidS1_bk K1.out (.slice (some ⟨hb, 0, none⟩) 1 1))
    have B12 := Lib.hid (laidS1_below b11 HQW.out (.slice (some ⟨hb, 0, none⟩) 1 1))
    obtain ⟨w2, hw2⟩ : ∃ z, laidS1 W1 q (.slice (some ⟨hb, 0, none⟩) 1 1) = z := ⟨_, rfl⟩
    rw [hw2] at K2 B12
    have B2 : Hid (Below w.heap.size w w2) := B1.out.trans (B12.out.mono B1.out.size)
    have O2 := Lib.hid (O1.out.below B12.out)
    have HAW := Lib.hid (seaw_any w2 (HO.out.below B2.out) (HT.out.below B2.out))
    clear o1 b1 b11
    go_upto_region 2 with fail
    (try rw [hw2])
    clear hW1 hw2 z0 zf0 hq
    go_wp2_with fail
    refine HAW.out.mono ?_
    rintro e w3 ⟨rfl, b3⟩
    have B3 : Hid (Below w.heap.size w w3) := B2.out.trans (b3.mono B2.out.size)
    have O3 := Lib.hid (O2.out.below b3)
    have K3 := Lib.hid (K2.out.below b3 K2.out.lt)
    clear b3 HAW
    obtain ⟨Y, hY⟩ : ∃ Y, X ++ ⟨#[64]⟩ ++ X ++ ⟨#[64]⟩ = Y := ⟨_, rfl⟩
    have HY := Lib.hid hY
    have HLA : Hid (Y.data.toList.getLast? = some 64) := by rw [← hY]; exact last_at X
    have HYL : Hid (Y.data.toList.length ≤ 1000000000) := by
      unfold Hid
      rw [← Lib.size_eq, ← hY]
      simp only [ByteArray.size_append]
      show X.size + 1 + X.size + 1 ≤ _
      omega
    clear hY
    have q0 : w3.cell? ⟨q, 0, none⟩ = some (.slice (some ⟨hb, 0, none⟩) 1 1) := K3.out.cell 0
    have q1 : w3.cell? ⟨hb, 1, none⟩ = some (.slice (some ⟨ub, 0, none⟩) 1 1) := O3.out.kh.cell 1
    have hkk : k = 0 ∨ k = 1 ∨ k = 2 ∨ k = 3 ∨ k = 4 ∨ k = 5 ∨ k = 6 ∨ k = 7 ∨ k = 8 ∨ k = 9 ∨ k = 10 ∨ k = 11 ∨ k = 12 ∨ k = 13 := by omega
    clear hk14
    rcases hkk with rfl | rfl | rfl | rfl | rfl | rfl | rfl | rfl | rfl | rfl | rfl | rfl | rfl | rfl
    · have hk : (IntKind.u64.wrap what).tmod 14 = 0 := HK.out
      have n0 : w3.cell? ⟨hb, 0, none⟩ = some (.string ⟨#[104]⟩) := O3.out.kh.cell 0
      have nf0 : w3.frozen? ⟨hb, 0, none⟩ = false := O3.out.kh.free 0
      obtain ⟨w4, hw4⟩ : ∃ z, w3.setCell ⟨hb, 0, none⟩ (.string ⟨#[72]⟩) = z := ⟨_, rfl⟩
      have b34 : Below w.heap.size w w4 := by rw [← hw4]; exact B3.out.setCell (p := ⟨hb, 0, none⟩) (by have := O3.out.low; have := O3.out.ip; have := O3.out.pu; have := O3.out.uh; have := B1.out.size; show w.heap.size ≤ hb; omega) _
      have ki : Bk w4 ib 53 #[.string ⟨#[98, 64, 104]⟩, .string ⟨#[]⟩, .slice none 0 0, .int .i64 0, .bool false, .bool false, .string ⟨#[99, 64, 104]⟩, .string ⟨#[]⟩, .slice none 0 0, .int .i64 2, .bool false, .bool false] := by rw [← hw4]; exact O3.out.ki.far (p := ⟨hb, 0, none⟩) (by have := O3.out.ip; have := O3.out.pu; have := O3.out.uh; show ib ≠ hb; omega) _
      have kp : Bk w4 pb 9 #[.string ⟨#[100, 64, 104]⟩] := by rw [← hw4]; exact O3.out.kp.far (p := ⟨hb, 0, none⟩) (by have := O3.out.ip; have := O3.out.pu; have := O3.out.uh; show pb ≠ hb; omega) _
      have ku : Bk w4 ub 28 #[.string ⟨#[97]⟩, .string ⟨#[112]⟩, .slice (some ⟨ib, 0, none⟩) 2 2, .slice (some ⟨pb, 0, none⟩) 1 1] := by rw [← hw4]; exact O3.out.ku.far (p := ⟨hb, 0, none⟩) (by have := O3.out.ip; have := O3.out.pu; have := O3.out.uh; show ub ≠ hb; omega) _
      have kh : Bk w4 hb 47 #[.string ⟨#[72]⟩, .slice (some ⟨ub, 0, none⟩) 1 1] := by rw [← hw4]; exact O3.out.kh.put 0 _
      have kq : Bk w4 q 24 #[.slice (some ⟨hb, 0, none⟩) 1 1] := by rw [← hw4]; exact K3.out.far (p := ⟨hb, 0, none⟩) (by have := HQ.out; have := O3.out.ip; have := O3.out.pu; have := O3.out.uh; show q ≠ hb; omega) _
      have B4 := Lib.hid b34
      have KQ := Lib.hid kq
      have RH : Hid (ReadH w4 (.slice (some ⟨hb, 0, none⟩) 1 1) [⟨[72], [(uT [97] [112] [98, 64, 104] [99, 64, 104] false [[100, 64, 104]] ib pb 1)], (some ⟨ub, 0, none⟩, 1, 1)⟩]) := reads1 ki kp ku kh rfl rfl rfl rfl rfl rfl rfl rfl (uT_noG _ _ _ _ _ _ _ _ _)
      have HRG : Hid (rightS [⟨[72], [(uT [97] [112] [98, 64, 104] [99, 64, 104] false [[100, 64, 104]] ib pb 1)], (some ⟨ub, 0, none⟩, 1, 1)⟩] = false) := by unfold Hid; rw [se_host]; rw [se_domB_H]; rfl
      have HSM : Hid (∀ h ∈ [(⟨[72], [(uT [97] [112] [98, 64, 104] [99, 64, 104] false [[100, 64, 104]] ib pb 1)], (some ⟨ub, 0, none⟩, 1, 1)⟩ : Hst)], SmH h) := all_one (smH_of (by decide) (by simp) (all_one (uT_sm _ _ _ _ _ _ _ _ _ (by decide) (by decide) (by decide) (by decide) (by decide) (by decide))))
      have HNU : Hid (NoU [(⟨[72], [(uT [97] [112] [98, 64, 104] [99, 64, 104] false [[100, 64, 104]] ib pb 1)], (some ⟨ub, 0, none⟩, 1, 1)⟩ : Hst)] Y.data.toList) := no_at HLA.out (fun h hh => by obtain rfl := List.mem_singleton.1 hh; exact ⟨72, rfl, by decide⟩)
      obtain ⟨LL, hLL⟩ : ∃ l, [(⟨[72], [(uT [97] [112] [98, 64, 104] [99, 64, 104] false [[100, 64, 104]] ib pb 1)], (some ⟨ub, 0, none⟩, 1, 1)⟩ : Hst)] = l := ⟨_, rfl⟩
      have HLE : Hid (LL.length ≤ 1000000) := by unfold Hid; rw [← hLL]; simp
      rw [hLL] at RH HRG HSM HNU
      clear b34 ki kp ku kh kq hLL
      have HFD := Lib.hid (sfind_any (.slice (some ⟨hb, 0, none⟩) 1 1) LL Y.data.toList w4 RH.out HLE.out HSM.out HYL.out)
      rw [bts_self] at HFD
      have v0 : w4.cell? ⟨q, 0, none⟩ = some (.slice (some ⟨hb, 0, none⟩) 1 1) := KQ.out.cell 0
      go_upto_region 33 with fail
      (try rw [hw4])
      clear hw4
      go_wp2_with fail
      (try rw [HY.out])
      refine HFD.out.mono ?_
      rintro e w5 ⟨b5, h5⟩
      rcases h5 with h5 | ⟨i, k, h, u, y, hf, _⟩
      rotate_left
      · exact absurd hf.is (HNU.out h (List.mem_of_getElem? hf.host) u (List.mem_of_getElem? hf.user))
      obtain ⟨_, rfl⟩ := h5
      have zU : zeroU = .agg #[.string ⟨#[]⟩, .string ⟨#[]⟩, .slice none 0 0, .slice none 0 0] := rfl
      rw [zU]
      have B5 : Hid (Below w.heap.size w w5) := B4.out.trans (b5.mono B4.out.size)
      have K5 := Lib.hid (KQ.out.below b5 KQ.out.lt)
      have RH5 := Lib.hid (RH.out.upon b5)
      clear b5 zU v0 HFD
      obtain ⟨W6, hW6⟩ : ∃ W, w5.alloc (.cells #[.string ⟨#[]⟩, .string ⟨#[]⟩, .slice none 0 0, .slice none 0 0] 28) = W := ⟨_, rfl⟩
      obtain ⟨p, hp⟩ : ∃ b, w5.heap.size = b := ⟨_, rfl⟩
      have K6 : Hid (Bk W6 p 28 #[.string ⟨#[]⟩, .string ⟨#[]⟩, .slice none 0 0, .slice none 0 0]) := by rw [← hW6, ← hp]; exact Bk.new _ _ _
      have b6 : Below w5.heap.size w5 W6 := by rw [← hW6]; exact (Below.refl _ _).alloc (Nat.le_refl _) _
      have HPW : Hid (w5.heap.size ≤ p) := by rw [← hp]; exact Nat.le_refl _
      have z0 : W6.cell? ⟨p, 0, none⟩ = some (.string ⟨#[]⟩) := K6.out.cell 0
      have zf0 : W6.frozen? ⟨p, 0, none⟩ = false := K6.out.free 0
      have z1 : W6.cell? ⟨p, 1, none⟩ = some (.string ⟨#[]⟩) := K6.out.cell 1
      have zf1 : W6.frozen? ⟨p, 1, none⟩ = false := K6.out.free 1
      have z2 : W6.cell? ⟨p, 2, none⟩ = some (.slice none 0 0) := K6.out.cell 2
      have zf2 : W6.frozen? ⟨p, 2, none⟩ = false := K6.out.free 2
      have z3 : W6.cell? ⟨p, 3, none⟩ = some (.slice none 0 0) := K6.out.cell 3
      have zf3 : W6.frozen? ⟨p, 3, none⟩ = false := K6.out.free 3
      have B57 := Lib.hid (laidS4_below b6 HPW.out (.string ⟨#[]⟩) (.string ⟨#[]⟩) (.slice none 0 0) (.slice none 0 0))
      obtain ⟨w7, hw7⟩ : ∃ z, laidS4 W6 p (.string ⟨#[]⟩) (.string ⟨#[]⟩) (.slice none 0 0) (.slice none 0 0) = z := ⟨_, rfl⟩
      rw [hw7] at B57
      have B7 : Hid (Below w.heap.size w w7) := B5.out.trans (B57.out.mono B5.out.size)
      have HRT := Lib.hid (sright_any _ LL w7 (HO.out.below B7.out) (HT.out.below B7.out) (RH5.out.upon B57.out) HLE.out HSM.out)
      rw [HRG.out] at HRT
      have v7 : w7.cell? ⟨q, 0, none⟩ = some (.slice (some ⟨hb, 0, none⟩) 1 1) := (K5.out.below B57.out K5.out.lt).cell 0
      clear b6
      go_upto_region 34 with fail
      (try rw [hw7])
      clear hW6 hw7 hp z0 zf0 z1 zf1 z2 zf2 z3 zf3
      go_wp2_with fail
      refine HRT.out.mono ?_
      rintro e w8 ⟨rfl, b8⟩
      have B8 := Lib.hid (B7.out.trans (b8.mono B7.out.size))
      clear b8 v7
      go_wp2_with fail
      go_ret
      exact ⟨rfl, B8.out⟩
    · have hk : (IntKind.u64.wrap what).tmod 14 = 1 := HK.out
      have n0 : w3.cell? ⟨q, 0, none⟩ = some (.slice (some ⟨hb, 0, none⟩) 1 1) := K3.out.cell 0
      obtain ⟨W3, hW3⟩ : ∃ W, w3.alloc (.cells #[.string ⟨#[104]⟩, .slice none 0 0] 47) = W := ⟨_, rfl⟩
      obtain ⟨nb, hnb⟩ : ∃ b, w3.heap.size = b := ⟨_, rfl⟩
      have KN : Hid (Bk W3 nb 47 #[.string ⟨#[104]⟩, .slice none 0 0]) := by rw [← hW3, ← hnb]; exact Bk.new _ _ _
      have b33 : Below w3.heap.size w3 W3 := by rw [← hW3]; exact (Below.refl _ _).alloc (Nat.le_refl _) _
      have O33 := Lib.hid (O3.out.below b33)
      have K33 := Lib.hid (K3.out.below b33 K3.out.lt)
      have B33 : Hid (Below w.heap.size w W3) := B3.out.trans (b33.mono B3.out.size)
      have OV : Hid (OwnV encH 2 47 w.heap.size W3 (.slice (some ⟨hb, 0, none⟩) 1 1) [hOne ib pb ub]) := OwnV.of_bk O33.out.kh (by have := O33.out.low; have := O33.out.ip; have := O33.out.pu; have := O33.out.uh; have := B1.out.size; omega) rfl rfl (fun _ => rfl) (by decide)
      have n33 : W3.cell? ⟨q, 0, none⟩ = some (.slice (some ⟨hb, 0, none⟩) 1 1) := K33.out.cell 0
      have nf33 : W3.frozen? ⟨q, 0, none⟩ = false := K33.out.free 0
      have HW3 := Lib.hid hW3
      have HNB := Lib.hid hnb
      clear b33 hW3 hnb
      go_wp2_with (at_builtin; (try rw [HW3.out]); (try rw [HNB.out]); refine BigFrame.wpList_want rfl (fun K hK => ?_); refine wpH_row _ _ rfl w.heap.size (.slice (some ⟨hb, 0, none⟩) 1 1) ⟨nb, 0, none⟩ [hOne ib pb ub] ⟨[104], [], (none, 0, 0)⟩ W3 B33.out.size rfl OV.out rfl (fun j u hj => by rw [add_at, Nat.zero_add, KN.out.cell, ← Array.getElem?_toList]; exact hj) (by simp) ?_; intro v4 w4 o4 b4 f4; obtain ⟨A4, c4, rfl⟩ := o4.slice; have hqh : q ≠ hb := (by have := HQ.out; omega); have far : ∀ g, g < W3.heap.size → g ≠ hb → w4.heap[g]? = W3.heap[g]? := (fun g hg hne => f4 g hg (fun e => hne (Option.some.inj e))); have k4 : Bk w4 q 24 #[.slice (some ⟨hb, 0, none⟩) 1 1] := (by have := K33.out; unfold Bk at this ⊢; rw [far q K33.out.lt hqh]; exact this); have m0 : w4.cell? ⟨q, 0, none⟩ = some (.slice (some ⟨hb, 0, none⟩) 1 1) := k4.cell 0; have mf0 : w4.frozen? ⟨q, 0, none⟩ = false := k4.free 0; refine hK _ _ ?_)
      obtain ⟨w4b, hw4b⟩ : ∃ z, w4.setCell ⟨q, 0, none⟩ (.slice A4 2 c4) = z := ⟨_, rfl⟩
      have hqw : w.heap.size ≤ q := by have := HQ.out; have := O33.out.low; have := O33.out.ip; have := O33.out.pu; have := O33.out.uh; have := B1.out.size; omega
      have B4 : Hid (Below w.heap.size w w4b) := by rw [← hw4b]; exact (B33.out.trans b4).setCell (p := ⟨q, 0, none⟩) hqw _
      have KQ : Hid (Bk w4b q 24 #[.slice A4 2 c4]) := by unfold Hid; rw [← hw4b]; exact k4.put 0 _
      have hne4 : ∀ g, (Value.slice A4 2 c4).ownBlock = some g → g ≠ q := fun g hg e => by obtain ⟨g2, c5, h1, h2, h3⟩ := o4.rowB (fun _ => rfl) (by simp); injection h1 with h1; subst h1; injection hg with hg; have hg2 : g2 = g := hg; obtain ⟨cur, hc, _⟩ := h3; have k5 := k4; unfold Bk at hc k5; rw [hg2, e, k5] at hc; injection hc with hc; injection hc with _ hc; exact absurd hc (by decide)
      have far2 : ∀ g, g ≠ q → w4b.heap[g]? = w4.heap[g]? := fun g hne => by rw [← hw4b]; exact Below.heap_setCell w4 ⟨q, 0, none⟩ _ g (fun e => hne e)
      have o5 : OwnV encH 2 47 w.heap.size w4b (.slice A4 2 c4) [hOne ib pb ub, (⟨[104], [], (none, 0, 0)⟩ : Hst)] := o4.same (fun g hg => far2 g (hne4 g hg))
      have keep : ∀ g t cs, Bk W3 g t cs → g ≠ hb → g ≠ q → Bk w4b g t cs := fun g t cs hk h1 h2 => by have hl := hk.lt; unfold Bk at hk ⊢; rw [far2 g h2, far g hl h1]; exact hk
      have hlt := O33.out
      have RH : Hid (ReadH w4b (.slice A4 2 c4) [hOne ib pb ub, (⟨[104], [], (none, 0, 0)⟩ : Hst)]) := ⟨o5.row (fun _ => rfl), all_two (by
        have ki := keep ib _ _ O33.out.ki (by have := hlt.ip; have := hlt.pu; have := hlt.uh; omega) (by have := HQ.out; have := hlt.ip; have := hlt.pu; have := hlt.uh; omega)
        have kp := keep pb _ _ O33.out.kp (by have := hlt.pu; have := hlt.uh; omega) (by have := HQ.out; have := hlt.pu; have := hlt.uh; omega)
        have ku := keep ub _ _ O33.out.ku (by have := hlt.uh; omega) (by have := HQ.out; have := hlt.uh; omega)
        have rI : RowB encIS 6 53 w4b ib (uOne ib pb).items := rowB_bk ki rfl (fun _ => rfl)
        have rP : RowB encT 1 9 w4b pb (uOne ib pb).pend := rowB_bk kp rfl (fun _ => rfl)
        have rU : RowB encU 4 28 w4b ub [uOne ib pb] := rowB_bk ku rfl (fun _ => rfl)
        exact ⟨rU.row rU.lt 1 1 rfl, all_one ⟨readI_bare (rI.row rI.lt 2 2 rfl) (noG_two _ _ rfl rfl), readT_row (rP.row rP.lt 1 1 rfl)⟩⟩) ⟨⟨none, 0, rfl, fun h => absurd h (by simp)⟩, fun p hp => absurd hp (by simp)⟩⟩
      have HRG : Hid (rightS [hOne ib pb ub, (⟨[104], [], (none, 0, 0)⟩ : Hst)] = false) := se_hosts _ _ _ _ _ _ (Jd.lt_irr _)
      have HSM : Hid (∀ h ∈ [hOne ib pb ub, (⟨[104], [], (none, 0, 0)⟩ : Hst)], SmH h) := all_two (smH_one ib pb ub _ List.mem_cons_self) (smH_of (by decide) (by simp) (fun u hu => absurd hu (by simp)))
      have HNU : Hid (NoU [hOne ib pb ub, (⟨[104], [], (none, 0, 0)⟩ : Hst)] Y.data.toList) := no_at HLA.out (all_two ⟨104, rfl, by decide⟩ ⟨104, rfl, by decide⟩)
      obtain ⟨LL, hLL⟩ : ∃ l, [hOne ib pb ub, (⟨[104], [], (none, 0, 0)⟩ : Hst)] = l := ⟨_, rfl⟩
      have HLE : Hid (LL.length ≤ 1000000) := by unfold Hid; rw [← hLL]; simp
      have hl2 : ([hOne ib pb ub] ++ [(⟨[104], [], (none, 0, 0)⟩ : Hst)]).length = 2 := rfl
      (try rw [hl2])
      rw [hLL] at RH HRG HSM HNU
      clear k4 far hne4 far2 o5 keep hlt hLL n0 n33 nf33 o4 b4 f4 hqh hqw hl2
      have HFD := Lib.hid (sfind_any (.slice A4 2 c4) LL Y.data.toList w4b RH.out HLE.out HSM.out HYL.out)
      rw [bts_self] at HFD
      have v0 : w4b.cell? ⟨q, 0, none⟩ = some (.slice A4 2 c4) := KQ.out.cell 0
      go_upto_region 33 with fail
      (try rw [hw4b])
      clear hw4b
      go_wp2_with fail
      (try rw [HY.out])
      refine HFD.out.mono ?_
      rintro e w5 ⟨b5, h5⟩
      rcases h5 with h5 | ⟨i, k, h, u, y, hf, _⟩
      rotate_left
      · exact absurd hf.is (HNU.out h (List.mem_of_getElem? hf.host) u (List.mem_of_getElem? hf.user))
      obtain ⟨_, rfl⟩ := h5
      have zU : zeroU = .agg #[.string ⟨#[]⟩, .string ⟨#[]⟩, .slice none 0 0, .slice none 0 0] := rfl
      rw [zU]
      have B5 : Hid (Below w.heap.size w w5) := B4.out.trans (b5.mono B4.out.size)
      have K5 := Lib.hid (KQ.out.below b5 KQ.out.lt)
      have RH5 := Lib.hid (RH.out.upon b5)
      clear b5 zU v0 HFD
      obtain ⟨W6, hW6⟩ : ∃ W, w5.alloc (.cells #[.string ⟨#[]⟩, .string ⟨#[]⟩, .slice none 0 0, .slice none 0 0] 28) = W := ⟨_, rfl⟩
      obtain ⟨p, hp⟩ : ∃ b, w5.heap.size = b := ⟨_, rfl⟩
      have K6 : Hid (Bk W6 p 28 #[.string ⟨#[]⟩, .string ⟨#[]⟩, .slice none 0 0, .slice none 0 0]) := by rw [← hW6, ← hp]; exact Bk.new _ _ _
      have b6 : Below w5.heap.size w5 W6 := by rw [← hW6]; exact (Below.refl _ _).alloc (Nat.le_refl _) _
      have HPW : Hid (w5.heap.size ≤ p) := by rw [← hp]; exact Nat.le_refl _
      have z0 : W6.cell? ⟨p, 0, none⟩ = some (.string ⟨#[]⟩) := K6.out.cell 0
      have zf0 : W6.frozen? ⟨p, 0, none⟩ = false := K6.out.free 0
      have z1 : W6.cell? ⟨p, 1, none⟩ = some (.string ⟨#[]⟩) := K6.out.cell 1
      have zf1 : W6.frozen? ⟨p, 1, none⟩ = false := K6.out.free 1
      have z2 : W6.cell? ⟨p, 2, none⟩ = some (.slice none 0 0) := K6.out.cell 2
      have zf2 : W6.frozen? ⟨p, 2, none⟩ = false := K6.out.free 2
      have z3 : W6.cell? ⟨p, 3, none⟩ = some (.slice none 0 0) := K6.out.cell 3
      have zf3 : W6.frozen? ⟨p, 3, none⟩ = false := K6.out.free 3
      have B57 := Lib.hid (laidS4_below b6 HPW.out (.string ⟨#[]⟩) (.string ⟨#[]⟩) (.slice none 0 0) (.slice none 0 0))
      obtain ⟨w7, hw7⟩ : ∃ z, laidS4 W6 p (.string ⟨#[]⟩) (.string ⟨#[]⟩) (.slice none 0 0) (.slice none 0 0) = z := ⟨_, rfl⟩
      rw [hw7] at B57
      have B7 : Hid (Below w.heap.size w w7) := B5.out.trans (B57.out.mono B5.out.size)
      have HRT := Lib.hid (sright_any _ LL w7 (HO.out.below B7.out) (HT.out.below B7.out) (RH5.out.upon B57.out) HLE.out HSM.out)
      rw [HRG.out] at HRT
      have v7 : w7.cell? ⟨q, 0, none⟩ = some (.slice A4 2 c4) := (K5.out.below B57.out K5.out.lt).cell 0
      clear b6
      go_upto_region 34 with fail
      (try rw [hw7])
      clear hW6 hw7 hp z0 zf0 z1 zf1 z2 zf2 z3 zf3
      go_wp2_with fail
      refine HRT.out.mono ?_
      rintro e w8 ⟨rfl, b8⟩
      have B8 := Lib.hid (B7.out.trans (b8.mono B7.out.size))
      clear b8 v7
      go_wp2_with fail
      go_ret
      exact ⟨rfl, B8.out⟩
    · have hk : (IntKind.u64.wrap what).tmod 14 = 2 := HK.out
      have n0 : w3.cell? ⟨q, 0, none⟩ = some (.slice (some ⟨hb, 0, none⟩) 1 1) := K3.out.cell 0
      obtain ⟨W3, hW3⟩ : ∃ W, w3.alloc (.cells #[.string ⟨#[103]⟩, .slice none 0 0] 47) = W := ⟨_, rfl⟩
      obtain ⟨nb, hnb⟩ : ∃ b, w3.heap.size = b := ⟨_, rfl⟩
      have KN : Hid (Bk W3 nb 47 #[.string ⟨#[103]⟩, .slice none 0 0]) := by rw [← hW3, ← hnb]; exact Bk.new _ _ _
      have b33 : Below w3.heap.size w3 W3 := by rw [← hW3]; exact (Below.refl _ _).alloc (Nat.le_refl _) _
      have O33 := Lib.hid (O3.out.below b33)
      have K33 := Lib.hid (K3.out.below b33 K3.out.lt)
      have B33 : Hid (Below w.heap.size w W3) := B3.out.trans (b33.mono B3.out.size)
      have OV : Hid (OwnV encH 2 47 w.heap.size W3 (.slice (some ⟨hb, 0, none⟩) 1 1) [hOne ib pb ub]) := OwnV.of_bk O33.out.kh (by have := O33.out.low; have := O33.out.ip; have := O33.out.pu; have := O33.out.uh; have := B1.out.size; omega) rfl rfl (fun _ => rfl) (by decide)
      have n33 : W3.cell? ⟨q, 0, none⟩ = some (.slice (some ⟨hb, 0, none⟩) 1 1) := K33.out.cell 0
      have nf33 : W3.frozen? ⟨q, 0, none⟩ = false := K33.out.free 0
      have HW3 := Lib.hid hW3
      have HNB := Lib.hid hnb
      clear b33 hW3 hnb
      go_wp2_with (at_builtin; (try rw [HW3.out]); (try rw [HNB.out]); refine BigFrame.wpList_want rfl (fun K hK => ?_); refine wpH_row _ _ rfl w.heap.size (.slice (some ⟨hb, 0, none⟩) 1 1) ⟨nb, 0, none⟩ [hOne ib pb ub] ⟨[103], [], (none, 0, 0)⟩ W3 B33.out.size rfl OV.out rfl (fun j u hj => by rw [add_at, Nat.zero_add, KN.out.cell, ← Array.getElem?_toList]; exact hj) (by simp) ?_; intro v4 w4 o4 b4 f4; obtain ⟨A4, c4, rfl⟩ := o4.slice; have hqh : q ≠ hb := (by have := HQ.out; omega); have far : ∀ g, g < W3.heap.size → g ≠ hb → w4.heap[g]? = W3.heap[g]? := (fun g hg hne => f4 g hg (fun e => hne (Option.some.inj e))); have k4 : Bk w4 q 24 #[.slice (some ⟨hb, 0, none⟩) 1 1] := (by have := K33.out; unfold Bk at this ⊢; rw [far q K33.out.lt hqh]; exact this); have m0 : w4.cell? ⟨q, 0, none⟩ = some (.slice (some ⟨hb, 0, none⟩) 1 1) := k4.cell 0; have mf0 : w4.frozen? ⟨q, 0, none⟩ = false := k4.free 0; refine hK _ _ ?_)
      obtain ⟨w4b, hw4b⟩ : ∃ z, w4.setCell ⟨q, 0, none⟩ (.slice A4 2 c4) = z := ⟨_, rfl⟩
      have hqw : w.heap.size ≤ q := by have := HQ.out; have := O33.out.low; have := O33.out.ip; have := O33.out.pu; have := O33.out.uh; have := B1.out.size; omega
      have B4 : Hid (Below w.heap.size w w4b) := by rw [← hw4b]; exact (B33.out.trans b4).setCell (p := ⟨q, 0, none⟩) hqw _
      have KQ : Hid (Bk w4b q 24 #[.slice A4 2 c4]) := by unfold Hid; rw [← hw4b]; exact k4.put 0 _
      have hne4 : ∀ g, (Value.slice A4 2 c4).ownBlock = some g → g ≠ q := fun g hg e => by obtain ⟨g2, c5, h1, h2, h3⟩ := o4.rowB (fun _ => rfl) (by simp); injection h1 with h1; subst h1; injection hg with hg; have hg2 : g2 = g := hg; obtain ⟨cur, hc, _⟩ := h3; have k5 := k4; unfold Bk at hc k5; rw [hg2, e, k5] at hc; injection hc with hc; injection hc with _ hc; exact absurd hc (by decide)
      have far2 : ∀ g, g ≠ q → w4b.heap[g]? = w4.heap[g]? := fun g hne => by rw [← hw4b]; exact Below.heap_setCell w4 ⟨q, 0, none⟩ _ g (fun e => hne e)
      have o5 : OwnV encH 2 47 w.heap.size w4b (.slice A4 2 c4) [hOne ib pb ub, (⟨[103], [], (none, 0, 0)⟩ : Hst)] := o4.same (fun g hg => far2 g (hne4 g hg))
      have keep : ∀ g t cs, Bk W3 g t cs → g ≠ hb → g ≠ q → Bk w4b g t cs := fun g t cs hk h1 h2 => by have hl := hk.lt; unfold Bk at hk ⊢; rw [far2 g h2, far g hl h1]; exact hk
      have hlt := O33.out
      have RH : Hid (ReadH w4b (.slice A4 2 c4) [hOne ib pb ub, (⟨[103], [], (none, 0, 0)⟩ : Hst)]) := ⟨o5.row (fun _ => rfl), all_two (by
        have ki := keep ib _ _ O33.out.ki (by have := hlt.ip; have := hlt.pu; have := hlt.uh; omega) (by have := HQ.out; have := hlt.ip; have := hlt.pu; have := hlt.uh; omega)
        have kp := keep pb _ _ O33.out.kp (by have := hlt.pu; have := hlt.uh; omega) (by have := HQ.out; have := hlt.pu; have := hlt.uh; omega)
        have ku := keep ub _ _ O33.out.ku (by have := hlt.uh; omega) (by have := HQ.out; have := hlt.uh; omega)
        have rI : RowB encIS 6 53 w4b ib (uOne ib pb).items := rowB_bk ki rfl (fun _ => rfl)
        have rP : RowB encT 1 9 w4b pb (uOne ib pb).pend := rowB_bk kp rfl (fun _ => rfl)
        have rU : RowB encU 4 28 w4b ub [uOne ib pb] := rowB_bk ku rfl (fun _ => rfl)
        exact ⟨rU.row rU.lt 1 1 rfl, all_one ⟨readI_bare (rI.row rI.lt 2 2 rfl) (noG_two _ _ rfl rfl), readT_row (rP.row rP.lt 1 1 rfl)⟩⟩) ⟨⟨none, 0, rfl, fun h => absurd h (by simp)⟩, fun p hp => absurd hp (by simp)⟩⟩
      have HRG : Hid (rightS [hOne ib pb ub, (⟨[103], [], (none, 0, 0)⟩ : Hst)] = false) := se_hosts _ _ _ _ _ _ (by decide +kernel)
      have HSM : Hid (∀ h ∈ [hOne ib pb ub, (⟨[103], [], (none, 0, 0)⟩ : Hst)], SmH h) := all_two (smH_one ib pb ub _ List.mem_cons_self) (smH_of (by decide) (by simp) (fun u hu => absurd hu (by simp)))
      have HNU : Hid (NoU [hOne ib pb ub, (⟨[103], [], (none, 0, 0)⟩ : Hst)] Y.data.toList) := no_at HLA.out (all_two ⟨104, rfl, by decide⟩ ⟨103, rfl, by decide⟩)
      obtain ⟨LL, hLL⟩ : ∃ l, [hOne ib pb ub, (⟨[103], [], (none, 0, 0)⟩ : Hst)] = l := ⟨_, rfl⟩
      have HLE : Hid (LL.length ≤ 1000000) := by unfold Hid; rw [← hLL]; simp
      have hl2 : ([hOne ib pb ub] ++ [(⟨[103], [], (none, 0, 0)⟩ : Hst)]).length = 2 := rfl
      (try rw [hl2])
      rw [hLL] at RH HRG HSM HNU
      clear k4 far hne4 far2 o5 keep hlt hLL n0 n33 nf33 o4 b4 f4 hqh hqw hl2
      have HFD := Lib.hid (sfind_any (.slice A4 2 c4) LL Y.data.toList w4b RH.out HLE.out HSM.out HYL.out)
      rw [bts_self] at HFD
      have v0 : w4b.cell? ⟨q, 0, none⟩ = some (.slice A4 2 c4) := KQ.out.cell 0
      go_upto_region 33 with fail
      (try rw [hw4b])
      clear hw4b
      go_wp2_with fail
      (try rw [HY.out])
      refine HFD.out.mono ?_
      rintro e w5 ⟨b5, h5⟩
      rcases h5 with h5 | ⟨i, k, h, u, y, hf, _⟩
      rotate_left
      · exact absurd hf.is (HNU.out h (List.mem_of_getElem? hf.host) u (List.mem_of_getElem? hf.user))
      obtain ⟨_, rfl⟩ := h5
      have zU : zeroU = .agg #[.string ⟨#[]⟩, .string ⟨#[]⟩, .slice none 0 0, .slice none 0 0] := rfl
      rw [zU]
      have B5 : Hid (Below w.heap.size w w5) := B4.out.trans (b5.mono B4.out.size)
      have K5 := Lib.hid (KQ.out.below b5 KQ.out.lt)
      have RH5 := Lib.hid (RH.out.upon b5)
      clear b5 zU v0 HFD
      obtain ⟨W6, hW6⟩ : ∃ W, w5.alloc (.cells #[.string ⟨#[]⟩, .string ⟨#[]⟩, .slice none 0 0, .slice none 0 0] 28) = W := ⟨_, rfl⟩
      obtain ⟨p, hp⟩ : ∃ b, w5.heap.size = b := ⟨_, rfl⟩
      have K6 : Hid (Bk W6 p 28 #[.string ⟨#[]⟩, .string ⟨#[]⟩, .slice none 0 0, .slice none 0 0]) := by rw [← hW6, ← hp]; exact Bk.new _ _ _
      have b6 : Below w5.heap.size w5 W6 := by rw [← hW6]; exact (Below.refl _ _).alloc (Nat.le_refl _) _
      have HPW : Hid (w5.heap.size ≤ p) := by rw [← hp]; exact Nat.le_refl _
      have z0 : W6.cell? ⟨p, 0, none⟩ = some (.string ⟨#[]⟩) := K6.out.cell 0
      have zf0 : W6.frozen? ⟨p, 0, none⟩ = false := K6.out.free 0
      have z1 : W6.cell? ⟨p, 1, none⟩ = some (.string ⟨#[]⟩) := K6.out.cell 1
      have zf1 : W6.frozen? ⟨p, 1, none⟩ = false := K6.out.free 1
      have z2 : W6.cell? ⟨p, 2, none⟩ = some (.slice none 0 0) := K6.out.cell 2
      have zf2 : W6.frozen? ⟨p, 2, none⟩ = false := K6.out.free 2
      have z3 : W6.cell? ⟨p, 3, none⟩ = some (.slice none 0 0) := K6.out.cell 3
      have zf3 : W6.frozen? ⟨p, 3, none⟩ = false := K6.out.free 3
      have B57 := Lib.hid (laidS4_below b6 HPW.out (.string ⟨#[]⟩) (.string ⟨#[]⟩) (.slice none 0 0) (.slice none 0 0))
      obtain ⟨w7, hw7⟩ : ∃ z, laidS4 W6 p (.string ⟨#[]⟩) (.string ⟨#[]⟩) (.slice none 0 0) (.slice none 0 0) = z := ⟨_, rfl⟩
      rw [hw7] at B57
      have B7 : Hid (Below w.heap.size w w7) := B5.out.trans (B57.out.mono B5.out.size)
      have HRT := Lib.hid (sright_any _ LL w7 (HO.out.below B7.out) (HT.out.below B7.out) (RH5.out.upon B57.out) HLE.out HSM.out)
      rw [HRG.out] at HRT
      have v7 : w7.cell? ⟨q, 0, none⟩ = some (.slice A4 2 c4) := (K5.out.below B57.out K5.out.lt).cell 0
      clear b6
      go_upto_region 34 with fail
      (try rw [hw7])
      clear hW6 hw7 hp z0 zf0 z1 zf1 z2 zf2 z3 zf3
      go_wp2_with fail
      refine HRT.out.mono ?_
      rintro e w8 ⟨rfl, b8⟩
      have B8 := Lib.hid (B7.out.trans (b8.mono B7.out.size))
      clear b8 v7
      go_wp2_with fail
      go_ret
      exact ⟨rfl, B8.out⟩
    · have hk : (IntKind.u64.wrap what).tmod 14 = 3 := HK.out
      have n0 : w3.cell? ⟨ub, 0, none⟩ = some (.string ⟨#[97]⟩) := O3.out.ku.cell 0
      have nf0 : w3.frozen? ⟨ub, 0, none⟩ = false := O3.out.ku.free 0
      obtain ⟨w4, hw4⟩ : ∃ z, w3.setCell ⟨ub, 0, none⟩ (.string ⟨#[65]⟩) = z := ⟨_, rfl⟩
      have b34 : Below w.heap.size w w4 := by rw [← hw4]; exact B3.out.setCell (p := ⟨ub, 0, none⟩) (by have := O3.out.low; have := O3.out.ip; have := O3.out.pu; have := O3.out.uh; have := B1.out.size; show w.heap.size ≤ ub; omega) _
      have ki : Bk w4 ib 53 #[.string ⟨#[98, 64, 104]⟩, .string ⟨#[]⟩, .slice none 0 0, .int .i64 0, .bool false, .bool false, .string ⟨#[99, 64, 104]⟩, .string ⟨#[]⟩, .slice none 0 0, .int .i64 2, .bool false, .bool false] := by rw [← hw4]; exact O3.out.ki.far (p := ⟨ub, 0, none⟩) (by have := O3.out.ip; have := O3.out.pu; have := O3.out.uh; show ib ≠ ub; omega) _
      have kp : Bk w4 pb 9 #[.string ⟨#[100, 64, 104]⟩] := by rw [← hw4]; exact O3.out.kp.far (p := ⟨ub, 0, none⟩) (by have := O3.out.ip; have := O3.out.pu; have := O3.out.uh; show pb ≠ ub; omega) _
      have ku : Bk w4 ub 28 #[.string ⟨#[65]⟩, .string ⟨#[112]⟩, .slice (some ⟨ib, 0, none⟩) 2 2, .slice (some ⟨pb, 0, none⟩) 1 1] := by rw [← hw4]; exact O3.out.ku.put 0 _
      have kh : Bk w4 hb 47 #[.string ⟨#[104]⟩, .slice (some ⟨ub, 0, none⟩) 1 1] := by rw [← hw4]; exact O3.out.kh.far (p := ⟨ub, 0, none⟩) (by have := O3.out.ip; have := O3.out.pu; have := O3.out.uh; show hb ≠ ub; omega) _
      have kq : Bk w4 q 24 #[.slice (some ⟨hb, 0, none⟩) 1 1] := by rw [← hw4]; exact K3.out.far (p := ⟨ub, 0, none⟩) (by have := HQ.out; have := O3.out.ip; have := O3.out.pu; have := O3.out.uh; show q ≠ ub; omega) _
      have B4 := Lib.hid b34
      have KQ := Lib.hid kq
      have RH : Hid (ReadH w4 (.slice (some ⟨hb, 0, none⟩) 1 1) [⟨[104], [(uT [65] [112] [98, 64, 104] [99, 64, 104] false [[100, 64, 104]] ib pb 1)], (some ⟨ub, 0, none⟩, 1, 1)⟩]) := reads1 ki kp ku kh rfl rfl rfl rfl rfl rfl rfl rfl (uT_noG _ _ _ _ _ _ _ _ _)
      have HRG : Hid (rightS [⟨[104], [(uT [65] [112] [98, 64, 104] [99, 64, 104] false [[100, 64, 104]] ib pb 1)], (some ⟨ub, 0, none⟩, 1, 1)⟩] = false) := by unfold Hid; rw [se_host]; rw [uT_fit]; rw [se_node_A]; simp
      have HSM : Hid (∀ h ∈ [(⟨[104], [(uT [65] [112] [98, 64, 104] [99, 64, 104] false [[100, 64, 104]] ib pb 1)], (some ⟨ub, 0, none⟩, 1, 1)⟩ : Hst)], SmH h) := all_one (smH_of (by decide) (by simp) (all_one (uT_sm _ _ _ _ _ _ _ _ _ (by decide) (by decide) (by decide) (by decide) (by decide) (by decide))))
      have HNU : Hid (NoU [(⟨[104], [(uT [65] [112] [98, 64, 104] [99, 64, 104] false [[100, 64, 104]] ib pb 1)], (some ⟨ub, 0, none⟩, 1, 1)⟩ : Hst)] Y.data.toList) := no_at HLA.out (fun h hh => by obtain rfl := List.mem_singleton.1 hh; exact ⟨104, rfl, by decide⟩)
      obtain ⟨LL, hLL⟩ : ∃ l, [(⟨[104], [(uT [65] [112] [98, 64, 104] [99, 64, 104] false [[100, 64, 104]] ib pb 1)], (some ⟨ub, 0, none⟩, 1, 1)⟩ : Hst)] = l := ⟨_, rfl⟩
      have HLE : Hid (LL.length ≤ 1000000) := by unfold Hid; rw [← hLL]; simp
      rw [hLL] at RH HRG HSM HNU
      clear b34 ki kp ku kh kq hLL
      have HFD := Lib.hid (sfind_any (.slice (some ⟨hb, 0, none⟩) 1 1) LL Y.data.toList w4 RH.out HLE.out HSM.out HYL.out)
      rw [bts_self] at HFD
      have v0 : w4.cell? ⟨q, 0, none⟩ = some (.slice (some ⟨hb, 0, none⟩) 1 1) := KQ.out.cell 0
      go_upto_region 33 with fail
      (try rw [hw4])
      clear hw4
      go_wp2_with fail
      (try rw [HY.out])
      refine HFD.out.mono ?_
      rintro e w5 ⟨b5, h5⟩
      rcases h5 with h5 | ⟨i, k, h, u, y, hf, _⟩
      rotate_left
      · exact absurd hf.is (HNU.out h (List.mem_of_getElem? hf.host) u (List.mem_of_getElem? hf.user))
      obtain ⟨_, rfl⟩ := h5
      have zU : zeroU = .agg #[.string ⟨#[]⟩, .string ⟨#[]⟩, .slice none 0 0, .slice none 0 0] := rfl
      rw [zU]
      have B5 : Hid (Below w.heap.size w w5) := B4.out.trans (b5.mono B4.out.size)
      have K5 := Lib.hid (KQ.out.below b5 KQ.out.lt)
      have RH5 := Lib.hid (RH.out.upon b5)
      clear b5 zU v0 HFD
      obtain ⟨W6, hW6⟩ : ∃ W, w5.alloc (.cells #[.string ⟨#[]⟩, .string ⟨#[]⟩, .slice none 0 0, .slice none 0 0] 28) = W := ⟨_, rfl⟩
      obtain ⟨p, hp⟩ : ∃ b, w5.heap.size = b := ⟨_, rfl⟩
      have K6 : Hid (Bk W6 p 28 #[.string ⟨#[]⟩, .string ⟨#[]⟩, .slice none 0 0, .slice none 0 0]) := by rw [← hW6, ← hp]; exact Bk.new _ _ _
      have b6 : Below w5.heap.size w5 W6 := by rw [← hW6]; exact (Below.refl _ _).alloc (Nat.le_refl _) _
      have HPW : Hid (w5.heap.size ≤ p) := by rw [← hp]; exact Nat.le_refl _
      have z0 : W6.cell? ⟨p, 0, none⟩ = some (.string ⟨#[]⟩) := K6.out.cell 0
      have zf0 : W6.frozen? ⟨p, 0, none⟩ = false := K6.out.free 0
      have z1 : W6.cell? ⟨p, 1, none⟩ = some (.string ⟨#[]⟩) := K6.out.cell 1
      have zf1 : W6.frozen? ⟨p, 1, none⟩ = false := K6.out.free 1
      have z2 : W6.cell? ⟨p, 2, none⟩ = some (.slice none 0 0) := K6.out.cell 2
      have zf2 : W6.frozen? ⟨p, 2, none⟩ = false := K6.out.free 2
      have z3 : W6.cell? ⟨p, 3, none⟩ = some (.slice none 0 0) := K6.out.cell 3
      have zf3 : W6.frozen? ⟨p, 3, none⟩ = false := K6.out.free 3
      have B57 := Lib.hid (laidS4_below b6 HPW.out (.string ⟨#[]⟩) (.string ⟨#[]⟩) (.slice none 0 0) (.slice none 0 0))
      obtain ⟨w7, hw7⟩ : ∃ z, laidS4 W6 p (.string ⟨#[]⟩) (.string ⟨#[]⟩) (.slice none 0 0) (.slice none 0 0) = z := ⟨_, rfl⟩
      rw [hw7] at B57
      have B7 : Hid (Below w.heap.size w w7) := B5.out.trans (B57.out.mono B5.out.size)
      have HRT := Lib.hid (sright_any _ LL w7 (HO.out.below B7.out) (HT.out.below B7.out) (RH5.out.upon B57.out) HLE.out HSM.out)
      rw [HRG.out] at HRT
      have v7 : w7.cell? ⟨q, 0, none⟩ = some (.slice (some ⟨hb, 0, none⟩) 1 1) := (K5.out.below B57.out K5.out.lt).cell 0
      clear b6
      go_upto_region 34 with fail
      (try rw [hw7])
      clear hW6 hw7 hp z0 zf0 z1 zf1 z2 zf2 z3 zf3
      go_wp2_with fail
      refine HRT.out.mono ?_
      rintro e w8 ⟨rfl, b8⟩
      have B8 := Lib.hid (B7.out.trans (b8.mono B7.out.size))
      clear b8 v7
      go_wp2_with fail
      go_ret
      exact ⟨rfl, B8.out⟩
    · have hk : (IntKind.u64.wrap what).tmod 14 = 4 := HK.out
      have n0 : w3.cell? ⟨q, 0, none⟩ = some (.slice (some ⟨hb, 0, none⟩) 1 1) := K3.out.cell 0
      have n1 : w3.cell? ⟨hb, 1, none⟩ = some (.slice (some ⟨ub, 0, none⟩) 1 1) := O3.out.kh.cell 1
      have nf1 : w3.frozen? ⟨hb, 1, none⟩ = false := O3.out.kh.free 1
      have hne : hb ≠ ub := by have := O3.out.uh; omega
      have OV3 : Hid (OwnV encU 4 28 w.heap.size w3 (.slice (some ⟨ub, 0, none⟩) 1 1) [uOne ib pb]) := OwnV.of_bk O3.out.ku (by have := O3.out.low; have := O3.out.ip; have := O3.out.pu; have := B1.out.size; omega) rfl rfl (fun _ => rfl) (by decide)
      have HWS : Hid (w.heap.size ≤ w3.heap.size) := B3.out.size
      have y0 : ((w3.alloc (.cells #[.string ⟨#[97]⟩, .string ⟨#[]⟩, .slice none 0 0, .slice none 0 0] 28)).drew).cell? ⟨q, 0, none⟩ = some (.slice (some ⟨hb, 0, none⟩) 1 1) := (K3.out.below ((Below.refl _ _).alloc (Nat.le_refl _) _).drew K3.out.lt).cell 0
      have y1 : ((w3.alloc (.cells #[.string ⟨#[97]⟩, .string ⟨#[]⟩, .slice none 0 0, .slice none 0 0] 28)).drew).cell? ⟨hb, 1, none⟩ = some (.slice (some ⟨ub, 0, none⟩) 1 1) := (O3.out.kh.below ((Below.refl _ _).alloc (Nat.le_refl _) _).drew O3.out.kh.lt).cell 1
      go_upto_region 16 with fail
      go_region_law (refine stepU_row rfl _ _ rfl w.heap.size (.slice (some ⟨ub, 0, none⟩) 1 1) ⟨w3.heap.size, 0, none⟩ [uOne ib pb] ⟨[97], [], [], (none, 0, 0), [], (none, 0, 0)⟩ w3 _ ((Below.refl _ _).drew.alloc HWS.out _) HWS.out rfl (OV3.out.below ((Below.refl _ _).drew.alloc (Nat.le_refl _) _)) rfl (fun j u hj => by rw [add_at, Nat.zero_add]; exact ((Bk.new w3.drew 28 #[.string ⟨#[97]⟩, .string ⟨#[]⟩, .slice none 0 0, .slice none 0 0]).cell j).trans (by rw [← Array.getElem?_toList]; exact hj)) (by simp) ?_; intro v4 w4 o4 b4 f4; obtain ⟨A4, c4, rfl⟩ := o4.slice; have far : ∀ g, g < w3.heap.size → g ≠ ub → w4.heap[g]? = w3.heap[g]? := (fun g hg hn2 => (f4 g (by show g < (w3.alloc _).heap.size; rw [World.size_alloc]; exact Nat.lt_succ_of_lt hg) (fun e => hn2 (Option.some.inj e))).trans (((Below.refl w3.heap.size w3).drew.alloc (Nat.le_refl _) (.cells #[.string ⟨#[97]⟩, .string ⟨#[]⟩, .slice none 0 0, .slice none 0 0] 28)).block g hg)); have kq4 : Bk w4 q 24 #[.slice (some ⟨hb, 0, none⟩) 1 1] := (by have := K3.out; unfold Bk at this ⊢; rw [far q K3.out.lt (by have := HQ.out; have := O3.out.uh; omega)]; exact this); have kh4 : Bk w4 hb 47 #[.string ⟨#[104]⟩, .slice (some ⟨ub, 0, none⟩) 1 1] := (by have := O3.out.kh; unfold Bk at this ⊢; rw [far hb O3.out.kh.lt hne]; exact this); have g0 : w4.cell? ⟨q, 0, none⟩ = some (.slice (some ⟨hb, 0, none⟩) 1 1) := kq4.cell 0; have g1 : w4.cell? ⟨hb, 1, none⟩ = some (.slice (some ⟨ub, 0, none⟩) 1 1) := kh4.cell 1; have gf1 : w4.frozen? ⟨hb, 1, none⟩ = false := kh4.free 1)
      all_goals
        obtain ⟨w4b, hw4b⟩ : ∃ z, w4.setCell ⟨hb, 1, none⟩ (.slice A4 2 c4) = z := ⟨_, rfl⟩
        have hl2 : ([uOne ib pb] ++ [(⟨[97], [], [], (none, 0, 0), [], (none, 0, 0)⟩ : Usr)]).length = 2 := rfl
        (try rw [hl2])
        (try rw [hw4b])
        have hbw : w.heap.size ≤ hb := by have := O3.out.low; have := O3.out.ip; have := O3.out.pu; have := O3.out.uh; have := B1.out.size; omega
        have B4 : Hid (Below w.heap.size w w4b) := by rw [← hw4b]; exact (B3.out.trans b4).setCell (p := ⟨hb, 1, none⟩) hbw _
        have KQ : Hid (Bk w4b q 24 #[.slice (some ⟨hb, 0, none⟩) 1 1]) := by unfold Hid; rw [← hw4b]; exact kq4.far (p := ⟨hb, 1, none⟩) (by have := HQ.out; show q ≠ hb; omega) _
        have kh5 : Bk w4b hb 47 #[.string ⟨#[104]⟩, .slice A4 2 c4] := by rw [← hw4b]; exact kh4.put 1 _
        have far2 : ∀ g, g ≠ hb → w4b.heap[g]? = w4.heap[g]? := fun g hne2 => by rw [← hw4b]; exact Below.heap_setCell w4 ⟨hb, 1, none⟩ _ g (fun e => hne2 e)
        have hne4 : ∀ g, (Value.slice A4 2 c4).ownBlock = some g → g ≠ hb := fun g hg e => by obtain ⟨g2, c5, h1, h2, h3⟩ := o4.rowB (fun _ => rfl) (by simp); injection h1 with h1; subst h1; injection hg with hg; have hg2 : g2 = g := hg; obtain ⟨cur, hc, _⟩ := h3; have k5 := kh4; unfold Bk at hc k5; rw [hg2, e, k5] at hc; injection hc with hc; injection hc with _ hc; exact absurd hc (by decide)
        have o5 : OwnV encU 4 28 w.heap.size w4b (.slice A4 2 c4) [uOne ib pb, ⟨[97], [], [], (none, 0, 0), [], (none, 0, 0)⟩] := o4.same (fun g hg => far2 g (hne4 g hg))
        have keep : ∀ g t cs, Bk w3 g t cs → g ≠ ub → g ≠ hb → Bk w4b g t cs := fun g t cs hk h1 h2 => by have hl := hk.lt; unfold Bk at hk ⊢; rw [far2 g h2, far g hl h1]; exact hk
        have hlt := O3.out
        have rH : RowB encH 2 47 w4b hb [(⟨[104], [uOne ib pb, ⟨[97], [], [], (none, 0, 0), [], (none, 0, 0)⟩], (A4, 2, c4)⟩ : Hst)] := rowB_bk kh5 rfl (fun _ => rfl)
        have RH : Hid (ReadH w4b (.slice (some ⟨hb, 0, none⟩) 1 1) [(⟨[104], [uOne ib pb, ⟨[97], [], [], (none, 0, 0), [], (none, 0, 0)⟩], (A4, 2, c4)⟩ : Hst)]) := ⟨rH.row rH.lt 1 1 rfl, all_one ⟨o5.row (fun _ => rfl), all_two (by
          have ki := keep ib _ _ O3.out.ki (by have := hlt.ip; have := hlt.pu; omega) (by have := hlt.ip; have := hlt.pu; have := hlt.uh; omega)
          have kp := keep pb _ _ O3.out.kp (by have := hlt.pu; omega) (by have := hlt.pu; have := hlt.uh; omega)
          have rI : RowB encIS 6 53 w4b ib (uOne ib pb).items := rowB_bk ki rfl (fun _ => rfl)
          have rP : RowB encT 1 9 w4b pb (uOne ib pb).pend := rowB_bk kp rfl (fun _ => rfl)
          exact ⟨readI_bare (rI.row rI.lt 2 2 rfl) (noG_two _ _ rfl rfl), readT_row (rP.row rP.lt 1 1 rfl)⟩) ⟨readI_bare ⟨none, 0, rfl, fun h => absurd h (by simp)⟩ (fun p hp => absurd hp (by simp)), readT_nil w4b _ 0⟩⟩⟩
        have HRG : Hid (rightS [(⟨[104], [uOne ib pb, ⟨[97], [], [], (none, 0, 0), [], (none, 0, 0)⟩], (A4, 2, c4)⟩ : Hst)] = false) := se_users _ _ _ _ (Jd.lt_irr _)
        have HSM : Hid (∀ h ∈ [(⟨[104], [uOne ib pb, ⟨[97], [], [], (none, 0, 0), [], (none, 0, 0)⟩], (A4, 2, c4)⟩ : Hst)], SmH h) := all_one (smH_of (by decide) (by simp) (all_two ((smH_one ib pb ub _ List.mem_cons_self).each _ List.mem_cons_self) ⟨by simp, by simp, by simp, fun p hp => absurd hp (by simp), by simp, fun p hp => absurd hp (by simp)⟩))
        have HNU : Hid (NoU [(⟨[104], [uOne ib pb, ⟨[97], [], [], (none, 0, 0), [], (none, 0, 0)⟩], (A4, 2, c4)⟩ : Hst)] Y.data.toList) := no_at HLA.out (all_one ⟨104, rfl, by decide⟩)
        obtain ⟨LL, hLL⟩ : ∃ l, [(⟨[104], [uOne ib pb, ⟨[97], [], [], (none, 0, 0), [], (none, 0, 0)⟩], (A4, 2, c4)⟩ : Hst)] = l := ⟨_, rfl⟩
        have HLE : Hid (LL.length ≤ 1000000) := by unfold Hid; rw [← hLL]; simp
        rw [hLL] at RH HRG HSM HNU
        clear kq4 kh4 kh5 far far2 hne4 o5 keep hlt rH hLL n0 n1 nf1 g0 g1 gf1 y0 y1 o4 b4 f4 hbw hl2 hne
        have HFD := Lib.hid (sfind_any (.slice (some ⟨hb, 0, none⟩) 1 1) LL Y.data.toList w4b RH.out HLE.out HSM.out HYL.out)
        rw [bts_self] at HFD
        have v0 : w4b.cell? ⟨q, 0, none⟩ = some (.slice (some ⟨hb, 0, none⟩) 1 1) := KQ.out.cell 0
        go_upto_region 33 with fail
        (try rw [hw4b])
        clear hw4b
        go_wp2_with fail
        (try rw [HY.out])
        refine HFD.out.mono ?_
        rintro e w5 ⟨b5, h5⟩
        rcases h5 with h5 | ⟨i, k, h, u, y, hf, _⟩
        rotate_left
        · exact absurd hf.is (HNU.out h (List.mem_of_getElem? hf.host) u (List.mem_of_getElem? hf.user))
        obtain ⟨_, rfl⟩ := h5
        have zU : zeroU = .agg #[.string ⟨#[]⟩, .string ⟨#[]⟩, .slice none 0 0, .slice none 0 0] := rfl
        rw [zU]
        have B5 : Hid (Below w.heap.size w w5) := B4.out.trans (b5.mono B4.out.size)
        have K5 := Lib.hid (KQ.out.below b5 KQ.out.lt)
        have RH5 := Lib.hid (RH.out.upon b5)
        clear b5 zU v0 HFD
        obtain ⟨W6, hW6⟩ : ∃ W, w5.alloc (.cells #[.string ⟨#[]⟩, .string ⟨#[]⟩, .slice none 0 0, .slice none 0 0] 28) = W := ⟨_, rfl⟩
        obtain ⟨p, hp⟩ : ∃ b, w5.heap.size = b := ⟨_, rfl⟩
        have K6 : Hid (Bk W6 p 28 #[.string ⟨#[]⟩, .string ⟨#[]⟩, .slice none 0 0, .slice none 0 0]) := by rw [← hW6, ← hp]; exact Bk.new _ _ _
        have b6 : Below w5.heap.size w5 W6 := by rw [← hW6]; exact (Below.refl _ _).alloc (Nat.le_refl _) _
        have HPW : Hid (w5.heap.size ≤ p) := by rw [← hp]; exact Nat.le_refl _
        have z0 : W6.cell? ⟨p, 0, none⟩ = some (.string ⟨#[]⟩) := K6.out.cell 0
        have zf0 : W6.frozen? ⟨p, 0, none⟩ = false := K6.out.free 0
        have z1 : W6.cell? ⟨p, 1, none⟩ = some (.string ⟨#[]⟩) := K6.out.cell 1
        have zf1 : W6.frozen? ⟨p, 1, none⟩ = false := K6.out.free 1
        have z2 : W6.cell? ⟨p, 2, none⟩ = some (.slice none 0 0) := K6.out.cell 2
        have zf2 : W6.frozen? ⟨p, 2, none⟩ = false := K6.out.free 2
        have z3 : W6.cell? ⟨p, 3, none⟩ = some (.slice none 0 0) := K6.out.cell 3
        have zf3 : W6.frozen? ⟨p, 3, none⟩ = false := K6.out.free 3
        have B57 := Lib.hid (laidS4_below b6 HPW.out (.string ⟨#[]⟩) (.string ⟨#[]⟩) (.slice none 0 0) (.slice none 0 0))
        obtain ⟨w7, hw7⟩ : ∃ z, laidS4 W6 p (.string ⟨#[]⟩) (.string ⟨#[]⟩) (.slice none 0 0) (.slice none 0 0) = z := ⟨_, rfl⟩
        rw [hw7] at B57
        have B7 : Hid (Below w.heap.size w w7) := B5.out.trans (B57.out.mono B5.out.size)
        have HRT := Lib.hid (sright_any _ LL w7 (HO.out.below B7.out) (HT.out.below B7.out) (RH5.out.upon B57.out) HLE.out HSM.out)
        rw [HRG.out] at HRT
        have v7 : w7.cell? ⟨q, 0, none⟩ = some (.slice (some ⟨hb, 0, none⟩) 1 1) := (K5.out.below B57.out K5.out.lt).cell 0
        clear b6
        go_upto_region 34 with fail
        (try rw [hw7])
        clear hW6 hw7 hp z0 zf0 z1 zf1 z2 zf2 z3 zf3
        go_wp2_with fail
        refine HRT.out.mono ?_
        rintro e w8 ⟨rfl, b8⟩
        have B8 := Lib.hid (B7.out.trans (b8.mono B7.out.size))
        clear b8 v7
        go_wp2_with fail
        go_ret
        exact ⟨rfl, B8.out⟩
    · have hk : (IntKind.u64.wrap what).tmod 14 = 5 := HK.out
      have n0 : w3.cell? ⟨ub, 1, none⟩ = some (.string ⟨#[112]⟩) := O3.out.ku.cell 1
      have nf0 : w3.frozen? ⟨ub, 1, none⟩ = false := O3.out.ku.free 1
      obtain ⟨w4, hw4⟩ : ∃ z, w3.setCell ⟨ub, 1, none⟩ (.string ⟨#[97, 10, 98]⟩) = z := ⟨_, rfl⟩
      have b34 : Below w.heap.size w w4 := by rw [← hw4]; exact B3.out.setCell (p := ⟨ub, 1, none⟩) (by have := O3.out.low; have := O3.out.ip; have := O3.out.pu; have := O3.out.uh; have := B1.out.size; show w.heap.size ≤ ub; omega) _
      have ki : Bk w4 ib 53 #[.string ⟨#[98, 64, 104]⟩, .string ⟨#[]⟩, .slice none 0 0, .int .i64 0, .bool false, .bool false, .string ⟨#[99, 64, 104]⟩, .string ⟨#[]⟩, .slice none 0 0, .int .i64 2, .bool false, .bool false] := by rw [← hw4]; exact O3.out.ki.far (p := ⟨ub, 1, none⟩) (by have := O3.out.ip; have := O3.out.pu; have := O3.out.uh; show ib ≠ ub; omega) _
      have kp : Bk w4 pb 9 #[.string ⟨#[100, 64, 104]⟩] := by rw [← hw4]; exact O3.out.kp.far (p := ⟨ub, 1, none⟩) (by have := O3.out.ip; have := O3.out.pu; have := O3.out.uh; show pb ≠ ub; omega) _
      have ku : Bk w4 ub 28 #[.string ⟨#[97]⟩, .string ⟨#[97, 10, 98]⟩, .slice (some ⟨ib, 0, none⟩) 2 2, .slice (some ⟨pb, 0, none⟩) 1 1] := by rw [← hw4]; exact O3.out.ku.put 1 _
      have kh : Bk w4 hb 47 #[.string ⟨#[104]⟩, .slice (some ⟨ub, 0, none⟩) 1 1] := by rw [← hw4]; exact O3.out.kh.far (p := ⟨ub, 1, none⟩) (by have := O3.out.ip; have := O3.out.pu; have := O3.out.uh; show hb ≠ ub; omega) _
      have kq : Bk w4 q 24 #[.slice (some ⟨hb, 0, none⟩) 1 1] := by rw [← hw4]; exact K3.out.far (p := ⟨ub, 1, none⟩) (by have := HQ.out; have := O3.out.ip; have := O3.out.pu; have := O3.out.uh; show q ≠ ub; omega) _
      have B4 := Lib.hid b34
      have KQ := Lib.hid kq
      have RH : Hid (ReadH w4 (.slice (some ⟨hb, 0, none⟩) 1 1) [⟨[104], [(uT [97] [97, 10, 98] [98, 64, 104] [99, 64, 104] false [[100, 64, 104]] ib pb 1)], (some ⟨ub, 0, none⟩, 1, 1)⟩]) := reads1 ki kp ku kh rfl rfl rfl rfl rfl rfl rfl rfl (uT_noG _ _ _ _ _ _ _ _ _)
      have HRG : Hid (rightS [⟨[104], [(uT [97] [97, 10, 98] [98, 64, 104] [99, 64, 104] false [[100, 64, 104]] ib pb 1)], (some ⟨ub, 0, none⟩, 1, 1)⟩] = false) := by unfold Hid; rw [se_host]; rw [uT_fit]; rw [se_nl]; simp
      have HSM : Hid (∀ h ∈ [(⟨[104], [(uT [97] [97, 10, 98] [98, 64, 104] [99, 64, 104] false [[100, 64, 104]] ib pb 1)], (some ⟨ub, 0, none⟩, 1, 1)⟩ : Hst)], SmH h) := all_one (smH_of (by decide) (by simp) (all_one (uT_sm _ _ _ _ _ _ _ _ _ (by decide) (by decide) (by decide) (by decide) (by decide) (by decide))))
      have HNU : Hid (NoU [(⟨[104], [(uT [97] [97, 10, 98] [98, 64, 104] [99, 64, 104] false [[100, 64, 104]] ib pb 1)], (some ⟨ub, 0, none⟩, 1, 1)⟩ : Hst)] Y.data.toList) := no_at HLA.out (fun h hh => by obtain rfl := List.mem_singleton.1 hh; exact ⟨104, rfl, by decide⟩)
      obtain ⟨LL, hLL⟩ : ∃ l, [(⟨[104], [(uT [97] [97, 10, 98] [98, 64, 104] [99, 64, 104] false [[100, 64, 104]] ib pb 1)], (some ⟨ub, 0, none⟩, 1, 1)⟩ : Hst)] = l := ⟨_, rfl⟩
      have HLE : Hid (LL.length ≤ 1000000) := by unfold Hid; rw [← hLL]; simp
      rw [hLL] at RH HRG HSM HNU
      clear b34 ki kp ku kh kq hLL
      have HFD := Lib.hid (sfind_any (.slice (some ⟨hb, 0, none⟩) 1 1) LL Y.data.toList w4 RH.out HLE.out HSM.out HYL.out)
      rw [bts_self] at HFD
      have v0 : w4.cell? ⟨q, 0, none⟩ = some (.slice (some ⟨hb, 0, none⟩) 1 1) := KQ.out.cell 0
      go_upto_region 33 with fail
      (try rw [hw4])
      clear hw4
      go_wp2_with fail
      (try rw [HY.out])
      refine HFD.out.mono ?_
      rintro e w5 ⟨b5, h5⟩
      rcases h5 with h5 | ⟨i, k, h, u, y, hf, _⟩
      rotate_left
      · exact absurd hf.is (HNU.out h (List.mem_of_getElem? hf.host) u (List.mem_of_getElem? hf.user))
      obtain ⟨_, rfl⟩ := h5
      have zU : zeroU = .agg #[.string ⟨#[]⟩, .string ⟨#[]⟩, .slice none 0 0, .slice none 0 0] := rfl
      rw [zU]
      have B5 : Hid (Below w.heap.size w w5) := B4.out.trans (b5.mono B4.out.size)
      have K5 := Lib.hid (KQ.out.below b5 KQ.out.lt)
      have RH5 := Lib.hid (RH.out.upon b5)
      clear b5 zU v0 HFD
      obtain ⟨W6, hW6⟩ : ∃ W, w5.alloc (.cells #[.string ⟨#[]⟩, .string ⟨#[]⟩, .slice none 0 0, .slice none 0 0] 28) = W := ⟨_, rfl⟩
      obtain ⟨p, hp⟩ : ∃ b, w5.heap.size = b := ⟨_, rfl⟩
      have K6 : Hid (Bk W6 p 28 #[.string ⟨#[]⟩, .string ⟨#[]⟩, .slice none 0 0, .slice none 0 0]) := by rw [← hW6, ← hp]; exact Bk.new _ _ _
      have b6 : Below w5.heap.size w5 W6 := by rw [← hW6]; exact (Below.refl _ _).alloc (Nat.le_refl _) _
      have HPW : Hid (w5.heap.size ≤ p) := by rw [← hp]; exact Nat.le_refl _
      have z0 : W6.cell? ⟨p, 0, none⟩ = some (.string ⟨#[]⟩) := K6.out.cell 0
      have zf0 : W6.frozen? ⟨p, 0, none⟩ = false := K6.out.free 0
      have z1 : W6.cell? ⟨p, 1, none⟩ = some (.string ⟨#[]⟩) := K6.out.cell 1
      have zf1 : W6.frozen? ⟨p, 1, none⟩ = false := K6.out.free 1
      have z2 : W6.cell? ⟨p, 2, none⟩ = some (.slice none 0 0) := K6.out.cell 2
      have zf2 : W6.frozen? ⟨p, 2, none⟩ = false := K6.out.free 2
      have z3 : W6.cell? ⟨p, 3, none⟩ = some (.slice none 0 0) := K6.out.cell 3
      have zf3 : W6.frozen? ⟨p, 3, none⟩ = false := K6.out.free 3
      have B57 := Lib.hid (laidS4_below b6 HPW.out (.string ⟨#[]⟩) (.string ⟨#[]⟩) (.slice none 0 0) (.slice none 0 0))
      obtain ⟨w7, hw7⟩ : ∃ z, laidS4 W6 p (.string ⟨#[]⟩) (.string ⟨#[]⟩) (.slice none 0 0) (.slice none 0 0) = z := ⟨_, rfl⟩
      rw [hw7] at B57
      have B7 : Hid (Below w.heap.size w w7) := B5.out.trans (B57.out.mono B5.out.size)
      have HRT := Lib.hid (sright_any _ LL w7 (HO.out.below B7.out) (HT.out.below B7.out) (RH5.out.upon B57.out) HLE.out HSM.out)
      rw [HRG.out] at HRT
      have v7 : w7.cell? ⟨q, 0, none⟩ = some (.slice (some ⟨hb, 0, none⟩) 1 1) := (K5.out.below B57.out K5.out.lt).cell 0
      clear b6
      go_upto_region 34 with fail
      (try rw [hw7])
      clear hW6 hw7 hp z0 zf0 z1 zf1 z2 zf2 z3 zf3
      go_wp2_with fail
      refine HRT.out.mono ?_
      rintro e w8 ⟨rfl, b8⟩
      have B8 := Lib.hid (B7.out.trans (b8.mono B7.out.size))
      clear b8 v7
      go_wp2_with fail
      go_ret
      exact ⟨rfl, B8.out⟩
    · have hk : (IntKind.u64.wrap what).tmod 14 = 6 := HK.out
      have n0 : w3.cell? ⟨ib, 0, none⟩ = some (.string ⟨#[98, 64, 104]⟩) := O3.out.ki.cell 0
      have nf0 : w3.frozen? ⟨ib, 0, none⟩ = false := O3.out.ki.free 0
      have l2 : w3.cell? ⟨ub, 2, none⟩ = some (.slice (some ⟨ib, 0, none⟩) 2 2) := O3.out.ku.cell 2
      obtain ⟨w4, hw4⟩ : ∃ z, w3.setCell ⟨ib, 0, none⟩ (.string ⟨#[100, 64, 104]⟩) = z := ⟨_, rfl⟩
      have b34 : Below w.heap.size w w4 := by rw [← hw4]; exact B3.out.setCell (p := ⟨ib, 0, none⟩) (by have := O3.out.low; have := O3.out.ip; have := O3.out.pu; have := O3.out.uh; have := B1.out.size; show w.heap.size ≤ ib; omega) _
      have ki : Bk w4 ib 53 #[.string ⟨#[100, 64, 104]⟩, .string ⟨#[]⟩, .slice none 0 0, .int .i64 0, .bool false, .bool false, .string ⟨#[99, 64, 104]⟩, .string ⟨#[]⟩, .slice none 0 0, .int .i64 2, .bool false, .bool false] := by rw [← hw4]; exact O3.out.ki.put 0 _
      have kp : Bk w4 pb 9 #[.string ⟨#[100, 64, 104]⟩] := by rw [← hw4]; exact O3.out.kp.far (p := ⟨ib, 0, none⟩) (by have := O3.out.ip; have := O3.out.pu; have := O3.out.uh; show pb ≠ ib; omega) _
      have ku : Bk w4 ub 28 #[.string ⟨#[97]⟩, .string ⟨#[112]⟩, .slice (some ⟨ib, 0, none⟩) 2 2, .slice (some ⟨pb, 0, none⟩) 1 1] := by rw [← hw4]; exact O3.out.ku.far (p := ⟨ib, 0, none⟩) (by have := O3.out.ip; have := O3.out.pu; have := O3.out.uh; show ub ≠ ib; omega) _
      have kh : Bk w4 hb 47 #[.string ⟨#[104]⟩, .slice (some ⟨ub, 0, none⟩) 1 1] := by rw [← hw4]; exact O3.out.kh.far (p := ⟨ib, 0, none⟩) (by have := O3.out.ip; have := O3.out.pu; have := O3.out.uh; show hb ≠ ib; omega) _
      have kq : Bk w4 q 24 #[.slice (some ⟨hb, 0, none⟩) 1 1] := by rw [← hw4]; exact K3.out.far (p := ⟨ib, 0, none⟩) (by have := HQ.out; have := O3.out.ip; have := O3.out.pu; have := O3.out.uh; show q ≠ ib; omega) _
      have B4 := Lib.hid b34
      have KQ := Lib.hid kq
      have RH : Hid (ReadH w4 (.slice (some ⟨hb, 0, none⟩) 1 1) [⟨[104], [(uT [97] [112] [100, 64, 104] [99, 64, 104] false [[100, 64, 104]] ib pb 1)], (some ⟨ub, 0, none⟩, 1, 1)⟩]) := reads1 ki kp ku kh rfl rfl rfl rfl rfl rfl rfl rfl (uT_noG _ _ _ _ _ _ _ _ _)
      have HRG : Hid (rightS [⟨[104], [(uT [97] [112] [100, 64, 104] [99, 64, 104] false [[100, 64, 104]] ib pb 1)], (some ⟨ub, 0, none⟩, 1, 1)⟩] = false) := by unfold Hid; rw [se_host]; rw [uT_fit]; rw [show Jd.lessL [100, 64, 104] [99, 64, 104] = false by decide +kernel]; simp
      have HSM : Hid (∀ h ∈ [(⟨[104], [(uT [97] [112] [100, 64, 104] [99, 64, 104] false [[100, 64, 104]] ib pb 1)], (some ⟨ub, 0, none⟩, 1, 1)⟩ : Hst)], SmH h) := all_one (smH_of (by decide) (by simp) (all_one (uT_sm _ _ _ _ _ _ _ _ _ (by decide) (by decide) (by decide) (by decide) (by decide) (by decide))))
      have HNU : Hid (NoU [(⟨[104], [(uT [97] [112] [100, 64, 104] [99, 64, 104] false [[100, 64, 104]] ib pb 1)], (some ⟨ub, 0, none⟩, 1, 1)⟩ : Hst)] Y.data.toList) := no_at HLA.out (fun h hh => by obtain rfl := List.mem_singleton.1 hh; exact ⟨104, rfl, by decide⟩)
      obtain ⟨LL, hLL⟩ : ∃ l, [(⟨[104], [(uT [97] [112] [100, 64, 104] [99, 64, 104] false [[100, 64, 104]] ib pb 1)], (some ⟨ub, 0, none⟩, 1, 1)⟩ : Hst)] = l := ⟨_, rfl⟩
      have HLE : Hid (LL.length ≤ 1000000) := by unfold Hid; rw [← hLL]; simp
      rw [hLL] at RH HRG HSM HNU
      clear b34 ki kp ku kh kq hLL
      have HFD := Lib.hid (sfind_any (.slice (some ⟨hb, 0, none⟩) 1 1) LL Y.data.toList w4 RH.out HLE.out HSM.out HYL.out)
      rw [bts_self] at HFD
      have v0 : w4.cell? ⟨q, 0, none⟩ = some (.slice (some ⟨hb, 0, none⟩) 1 1) := KQ.out.cell 0
      go_upto_region 33 with fail
      (try rw [hw4])
      clear hw4
      go_wp2_with fail
      (try rw [HY.out])
      refine HFD.out.mono ?_
      rintro e w5 ⟨b5, h5⟩
      rcases h5 with h5 | ⟨i, k, h, u, y, hf, _⟩
      rotate_left
      · exact absurd hf.is (HNU.out h (List.mem_of_getElem? hf.host) u (List.mem_of_getElem? hf.user))
      obtain ⟨_, rfl⟩ := h5
      have zU : zeroU = .agg #[.string ⟨#[]⟩, .string ⟨#[]⟩, .slice none 0 0, .slice none 0 0] := rfl
      rw [zU]
      have B5 : Hid (Below w.heap.size w w5) := B4.out.trans (b5.mono B4.out.size)
      have K5 := Lib.hid (KQ.out.below b5 KQ.out.lt)
      have RH5 := Lib.hid (RH.out.upon b5)
      clear b5 zU v0 HFD
      obtain ⟨W6, hW6⟩ : ∃ W, w5.alloc (.cells #[.string ⟨#[]⟩, .string ⟨#[]⟩, .slice none 0 0, .slice none 0 0] 28) = W := ⟨_, rfl⟩
      obtain ⟨p, hp⟩ : ∃ b, w5.heap.size = b := ⟨_, rfl⟩
      have K6 : Hid (Bk W6 p 28 #[.string ⟨#[]⟩, .string ⟨#[]⟩, .slice none 0 0, .slice none 0 0]) := by rw [← hW6, ← hp]; exact Bk.new _ _ _
      have b6 : Below w5.heap.size w5 W6 := by rw [← hW6]; exact (Below.refl _ _).alloc (Nat.le_refl _) _
      have HPW : Hid (w5.heap.size ≤ p) := by rw [← hp]; exact Nat.le_refl _
      have z0 : W6.cell? ⟨p, 0, none⟩ = some (.string ⟨#[]⟩) := K6.out.cell 0
      have zf0 : W6.frozen? ⟨p, 0, none⟩ = false := K6.out.free 0
      have z1 : W6.cell? ⟨p, 1, none⟩ = some (.string ⟨#[]⟩) := K6.out.cell 1
      have zf1 : W6.frozen? ⟨p, 1, none⟩ = false := K6.out.free 1
      have z2 : W6.cell? ⟨p, 2, none⟩ = some (.slice none 0 0) := K6.out.cell 2
      have zf2 : W6.frozen? ⟨p, 2, none⟩ = false := K6.out.free 2
      have z3 : W6.cell? ⟨p, 3, none⟩ = some (.slice none 0 0) := K6.out.cell 3
      have zf3 : W6.frozen? ⟨p, 3, none⟩ = false := K6.out.free 3
      have B57 := Lib.hid (laidS4_below b6 HPW.out (.string ⟨#[]⟩) (.string ⟨#[]⟩) (.slice none 0 0) (.slice none 0 0))
      obtain ⟨w7, hw7⟩ : ∃ z, laidS4 W6 p (.string ⟨#[]⟩) (.string ⟨#[]⟩) (.slice none 0 0) (.slice none 0 0) = z := ⟨_, rfl⟩
      rw [hw7] at B57
      have B7 : Hid (Below w.heap.size w w7) := B5.out.trans (B57.out.mono B5.out.size)
      have HRT := Lib.hid (sright_any _ LL w7 (HO.out.below B7.out) (HT.out.below B7.out) (RH5.out.upon B57.out) HLE.out HSM.out)
      rw [HRG.out] at HRT
      have v7 : w7.cell? ⟨q, 0, none⟩ = some (.slice (some ⟨hb, 0, none⟩) 1 1) := (K5.out.below B57.out K5.out.lt).cell 0
      clear b6
      go_upto_region 34 with fail
      (try rw [hw7])
      clear hW6 hw7 hp z0 zf0 z1 zf1 z2 zf2 z3 zf3
      go_wp2_with fail
      refine HRT.out.mono ?_
      rintro e w8 ⟨rfl, b8⟩
      have B8 := Lib.hid (B7.out.trans (b8.mono B7.out.size))
      clear b8 v7
      go_wp2_with fail
      go_ret
      exact ⟨rfl, B8.out⟩
    · have hk : (IntKind.u64.wrap what).tmod 14 = 7 := HK.out
      have n0 : w3.cell? ⟨ib, 6, none⟩ = some (.string ⟨#[99, 64, 104]⟩) := O3.out.ki.cell 6
      have nf0 : w3.frozen? ⟨ib, 6, none⟩ = false := O3.out.ki.free 6
      have l2 : w3.cell? ⟨ub, 2, none⟩ = some (.slice (some ⟨ib, 0, none⟩) 2 2) := O3.out.ku.cell 2
      obtain ⟨w4, hw4⟩ : ∃ z, w3.setCell ⟨ib, 6, none⟩ (.string ⟨#[98, 64, 104]⟩) = z := ⟨_, rfl⟩
      have b34 : Below w.heap.size w w4 := by rw [← hw4]; exact B3.out.setCell (p := ⟨ib, 6, none⟩) (by have := O3.out.low; have := O3.out.ip; have := O3.out.pu; have := O3.out.uh; have := B1.out.size; show w.heap.size ≤ ib; omega) _
      have ki : Bk w4 ib 53 #[.string ⟨#[98, 64, 104]⟩, .string ⟨#[]⟩, .slice none 0 0, .int .i64 0, .bool false, .bool false, .string ⟨#[98, 64, 104]⟩, .string ⟨#[]⟩, .slice none 0 0, .int .i64 2, .bool false, .bool false] := by rw [← hw4]; exact O3.out.ki.put 6 _
      have kp : Bk w4 pb 9 #[.string ⟨#[100, 64, 104]⟩] := by rw [← hw4]; exact O3.out.kp.far (p := ⟨ib, 6, none⟩) (by have := O3.out.ip; have := O3.out.pu; have := O3.out.uh; show pb ≠ ib; omega) _
      have ku : Bk w4 ub 28 #[.string ⟨#[97]⟩, .string ⟨#[112]⟩, .slice (some ⟨ib, 0, none⟩) 2 2, .slice (some ⟨pb, 0, none⟩) 1 1] := by rw [← hw4]; exact O3.out.ku.far (p := ⟨ib, 6, none⟩) (by have := O3.out.ip; have := O3.out.pu; have := O3.out.uh; show ub ≠ ib; omega) _
      have kh : Bk w4 hb 47 #[.string ⟨#[104]⟩, .slice (some ⟨ub, 0, none⟩) 1 1] := by rw [← hw4]; exact O3.out.kh.far (p := ⟨ib, 6, none⟩) (by have := O3.out.ip; have := O3.out.pu; have := O3.out.uh; show hb ≠ ib; omega) _
      have kq : Bk w4 q 24 #[.slice (some ⟨hb, 0, none⟩) 1 1] := by rw [← hw4]; exact K3.out.far (p := ⟨ib, 6, none⟩) (by have := HQ.out; have := O3.out.ip; have := O3.out.pu; have := O3.out.uh; show q ≠ ib; omega) _
      have B4 := Lib.hid b34
      have KQ := Lib.hid kq
      have RH : Hid (ReadH w4 (.slice (some ⟨hb, 0, none⟩) 1 1) [⟨[104], [(uT [97] [112] [98, 64, 104] [98, 64, 104] false [[100, 64, 104]] ib pb 1)], (some ⟨ub, 0, none⟩, 1, 1)⟩]) := reads1 ki kp ku kh rfl rfl rfl rfl rfl rfl rfl rfl (uT_noG _ _ _ _ _ _ _ _ _)
      have HRG : Hid (rightS [⟨[104], [(uT [97] [112] [98, 64, 104] [98, 64, 104] false [[100, 64, 104]] ib pb 1)], (some ⟨ub, 0, none⟩, 1, 1)⟩] = false) := by unfold Hid; rw [se_host]; rw [uT_fit]; rw [se_less_irr]; simp
      have HSM : Hid (∀ h ∈ [(⟨[104], [(uT [97] [112] [98, 64, 104] [98, 64, 104] false [[100, 64, 104]] ib pb 1)], (some ⟨ub, 0, none⟩, 1, 1)⟩ : Hst)], SmH h) := all_one (smH_of (by decide) (by simp) (all_one (uT_sm _ _ _ _ _ _ _ _ _ (by decide) (by decide) (by decide) (by decide) (by decide) (by decide))))
      have HNU : Hid (NoU [(⟨[104], [(uT [97] [112] [98, 64, 104] [98, 64, 104] false [[100, 64, 104]] ib pb 1)], (some ⟨ub, 0, none⟩, 1, 1)⟩ : Hst)] Y.data.toList) := no_at HLA.out (fun h hh => by obtain rfl := List.mem_singleton.1 hh; exact ⟨104, rfl, by decide⟩)
      obtain ⟨LL, hLL⟩ : ∃ l, [(⟨[104], [(uT [97] [112] [98, 64, 104] [98, 64, 104] false [[100, 64, 104]] ib pb 1)], (some ⟨ub, 0, none⟩, 1, 1)⟩ : Hst)] = l := ⟨_, rfl⟩
      have HLE : Hid (LL.length ≤ 1000000) := by unfold Hid; rw [← hLL]; simp
      rw [hLL] at RH HRG HSM HNU
      clear b34 ki kp ku kh kq hLL
      have HFD := Lib.hid (sfind_any (.slice (some ⟨hb, 0, none⟩) 1 1) LL Y.data.toList w4 RH.out HLE.out HSM.out HYL.out)
      rw [bts_self] at HFD
      have v0 : w4.cell? ⟨q, 0, none⟩ = some (.slice (some ⟨hb, 0, none⟩) 1 1) := KQ.out.cell 0
      go_upto_region 33 with fail
      (try rw [hw4])
      clear hw4
      go_wp2_with fail
      (try rw [HY.out])
      refine HFD.out.mono ?_
      rintro e w5 ⟨b5, h5⟩
      rcases h5 with h5 | ⟨i, k, h, u, y, hf, _⟩
      rotate_left
      · exact absurd hf.is (HNU.out h (List.mem_of_getElem? hf.host) u (List.mem_of_getElem? hf.user))
      obtain ⟨_, rfl⟩ := h5
      have zU : zeroU = .agg #[.string ⟨#[]⟩, .string ⟨#[]⟩, .slice none 0 0, .slice none 0 0] := rfl
      rw [zU]
      have B5 : Hid (Below w.heap.size w w5) := B4.out.trans (b5.mono B4.out.size)
      have K5 := Lib.hid (KQ.out.below b5 KQ.out.lt)
      have RH5 := Lib.hid (RH.out.upon b5)
      clear b5 zU v0 HFD
      obtain ⟨W6, hW6⟩ : ∃ W, w5.alloc (.cells #[.string ⟨#[]⟩, .string ⟨#[]⟩, .slice none 0 0, .slice none 0 0] 28) = W := ⟨_, rfl⟩
      obtain ⟨p, hp⟩ : ∃ b, w5.heap.size = b := ⟨_, rfl⟩
      have K6 : Hid (Bk W6 p 28 #[.string ⟨#[]⟩, .string ⟨#[]⟩, .slice none 0 0, .slice none 0 0]) := by rw [← hW6, ← hp]; exact Bk.new _ _ _
      have b6 : Below w5.heap.size w5 W6 := by rw [← hW6]; exact (Below.refl _ _).alloc (Nat.le_refl _) _
      have HPW : Hid (w5.heap.size ≤ p) := by rw [← hp]; exact Nat.le_refl _
      have z0 : W6.cell? ⟨p, 0, none⟩ = some (.string ⟨#[]⟩) := K6.out.cell 0
      have zf0 : W6.frozen? ⟨p, 0, none⟩ = false := K6.out.free 0
      have z1 : W6.cell? ⟨p, 1, none⟩ = some (.string ⟨#[]⟩) := K6.out.cell 1
      have zf1 : W6.frozen? ⟨p, 1, none⟩ = false := K6.out.free 1
      have z2 : W6.cell? ⟨p, 2, none⟩ = some (.slice none 0 0) := K6.out.cell 2
      have zf2 : W6.frozen? ⟨p, 2, none⟩ = false := K6.out.free 2
      have z3 : W6.cell? ⟨p, 3, none⟩ = some (.slice none 0 0) := K6.out.cell 3
      have zf3 : W6.frozen? ⟨p, 3, none⟩ = false := K6.out.free 3
      have B57 := Lib.hid (laidS4_below b6 HPW.out (.string ⟨#[]⟩) (.string ⟨#[]⟩) (.slice none 0 0) (.slice none 0 0))
      obtain ⟨w7, hw7⟩ : ∃ z, laidS4 W6 p (.string ⟨#[]⟩) (.string ⟨#[]⟩) (.slice none 0 0) (.slice none 0 0) = z := ⟨_, rfl⟩
      rw [hw7] at B57
      have B7 : Hid (Below w.heap.size w w7) := B5.out.trans (B57.out.mono B5.out.size)
      have HRT := Lib.hid (sright_any _ LL w7 (HO.out.below B7.out) (HT.out.below B7.out) (RH5.out.upon B57.out) HLE.out HSM.out)
      rw [HRG.out] at HRT
      have v7 : w7.cell? ⟨q, 0, none⟩ = some (.slice (some ⟨hb, 0, none⟩) 1 1) := (K5.out.below B57.out K5.out.lt).cell 0
      clear b6
      go_upto_region 34 with fail
      (try rw [hw7])
      clear hW6 hw7 hp z0 zf0 z1 zf1 z2 zf2 z3 zf3
      go_wp2_with fail
      refine HRT.out.mono ?_
      rintro e w8 ⟨rfl, b8⟩
      have B8 := Lib.hid (B7.out.trans (b8.mono B7.out.size))
      clear b8 v7
      go_wp2_with fail
      go_ret
      exact ⟨rfl, B8.out⟩
    · have hk : (IntKind.u64.wrap what).tmod 14 = 8 := HK.out
      have n0 : w3.cell? ⟨ib, 0, none⟩ = some (.string ⟨#[98, 64, 104]⟩) := O3.out.ki.cell 0
      have nf0 : w3.frozen? ⟨ib, 0, none⟩ = false := O3.out.ki.free 0
      have l2 : w3.cell? ⟨ub, 2, none⟩ = some (.slice (some ⟨ib, 0, none⟩) 2 2) := O3.out.ku.cell 2
      obtain ⟨w4, hw4⟩ : ∃ z, w3.setCell ⟨ib, 0, none⟩ (.string ⟨#[98, 64, 104, 47, 114]⟩) = z := ⟨_, rfl⟩
      have b34 : Below w.heap.size w w4 := by rw [← hw4]; exact B3.out.setCell (p := ⟨ib, 0, none⟩) (by have := O3.out.low; have := O3.out.ip; have := O3.out.pu; have := O3.out.uh; have := B1.out.size; show w.heap.size ≤ ib; omega) _
      have ki : Bk w4 ib 53 #[.string ⟨#[98, 64, 104, 47, 114]⟩, .string ⟨#[]⟩, .slice none 0 0, .int .i64 0, .bool false, .bool false, .string ⟨#[99, 64, 104]⟩, .string ⟨#[]⟩, .slice none 0 0, .int .i64 2, .bool false, .bool false] := by rw [← hw4]; exact O3.out.ki.put 0 _
      have kp : Bk w4 pb 9 #[.string ⟨#[100, 64, 104]⟩] := by rw [← hw4]; exact O3.out.kp.far (p := ⟨ib, 0, none⟩) (by have := O3.out.ip; have := O3.out.pu; have := O3.out.uh; show pb ≠ ib; omega) _
      have ku : Bk w4 ub 28 #[.string ⟨#[97]⟩, .string ⟨#[112]⟩, .slice (some ⟨ib, 0, none⟩) 2 2, .slice (some ⟨pb, 0, none⟩) 1 1] := by rw [← hw4]; exact O3.out.ku.far (p := ⟨ib, 0, none⟩) (by have := O3.out.ip; have := O3.out.pu; have := O3.out.uh; show ub ≠ ib; omega) _
      have kh : Bk w4 hb 47 #[.string ⟨#[104]⟩, .slice (some ⟨ub, 0, none⟩) 1 1] := by rw [← hw4]; exact O3.out.kh.far (p := ⟨ib, 0, none⟩) (by have := O3.out.ip; have := O3.out.pu; have := O3.out.uh; show hb ≠ ib; omega) _
      have kq : Bk w4 q 24 #[.slice (some ⟨hb, 0, none⟩) 1 1] := by rw [← hw4]; exact K3.out.far (p := ⟨ib, 0, none⟩) (by have := HQ.out; have := O3.out.ip; have := O3.out.pu; have := O3.out.uh; show q ≠ ib; omega) _
      have B4 := Lib.hid b34
      have KQ := Lib.hid kq
      have RH : Hid (ReadH w4 (.slice (some ⟨hb, 0, none⟩) 1 1) [⟨[104], [(uT [97] [112] [98, 64, 104, 47, 114] [99, 64, 104] false [[100, 64, 104]] ib pb 1)], (some ⟨ub, 0, none⟩, 1, 1)⟩]) := reads1 ki kp ku kh rfl rfl rfl rfl rfl rfl rfl rfl (uT_noG _ _ _ _ _ _ _ _ _)
      have HRG : Hid (rightS [⟨[104], [(uT [97] [112] [98, 64, 104, 47, 114] [99, 64, 104] false [[100, 64, 104]] ib pb 1)], (some ⟨ub, 0, none⟩, 1, 1)⟩] = false) := by unfold Hid; rw [se_host]; rw [uT_fit]; rw [se_r]; simp
      have HSM : Hid (∀ h ∈ [(⟨[104], [(uT [97] [112] [98, 64, 104, 47, 114] [99, 64, 104] false [[100, 64, 104]] ib pb 1)], (some ⟨ub, 0, none⟩, 1, 1)⟩ : Hst)], SmH h) := all_one (smH_of (by decide) (by simp) (all_one (uT_sm _ _ _ _ _ _ _ _ _ (by decide) (by decide) (by decide) (by decide) (by decide) (by decide))))
      have HNU : Hid (NoU [(⟨[104], [(uT [97] [112] [98, 64, 104, 47, 114] [99, 64, 104] false [[100, 64, 104]] ib pb 1)], (some ⟨ub, 0, none⟩, 1, 1)⟩ : Hst)] Y.data.toList) := no_at HLA.out (fun h hh => by obtain rfl := List.mem_singleton.1 hh; exact ⟨104, rfl, by decide⟩)
      obtain ⟨LL, hLL⟩ : ∃ l, [(⟨[104], [(uT [97] [112] [98, 64, 104, 47, 114] [99, 64, 104] false [[100, 64, 104]] ib pb 1)], (some ⟨ub, 0, none⟩, 1, 1)⟩ : Hst)] = l := ⟨_, rfl⟩
      have HLE : Hid (LL.length ≤ 1000000) := by unfold Hid; rw [← hLL]; simp
      rw [hLL] at RH HRG HSM HNU
      clear b34 ki kp ku kh kq hLL
      have HFD := Lib.hid (sfind_any (.slice (some ⟨hb, 0, none⟩) 1 1) LL Y.data.toList w4 RH.out HLE.out HSM.out HYL.out)
      rw [bts_self] at HFD
      have v0 : w4.cell? ⟨q, 0, none⟩ = some (.slice (some ⟨hb, 0, none⟩) 1 1) := KQ.out.cell 0
      go_upto_region 33 with fail
      (try rw [hw4])
      clear hw4
      go_wp2_with fail
      (try rw [HY.out])
      refine HFD.out.mono ?_
      rintro e w5 ⟨b5, h5⟩
      rcases h5 with h5 | ⟨i, k, h, u, y, hf, _⟩
      rotate_left
      · exact absurd hf.is (HNU.out h (List.mem_of_getElem? hf.host) u (List.mem_of_getElem? hf.user))
      obtain ⟨_, rfl⟩ := h5
      have zU : zeroU = .agg #[.string ⟨#[]⟩, .string ⟨#[]⟩, .slice none 0 0, .slice none 0 0] := rfl
      rw [zU]
      have B5 : Hid (Below w.heap.size w w5) := B4.out.trans (b5.mono B4.out.size)
      have K5 := Lib.hid (KQ.out.below b5 KQ.out.lt)
      have RH5 := Lib.hid (RH.out.upon b5)
      clear b5 zU v0 HFD
      obtain ⟨W6, hW6⟩ : ∃ W, w5.alloc (.cells #[.string ⟨#[]⟩, .string ⟨#[]⟩, .slice none 0 0, .slice none 0 0] 28) = W := ⟨_, rfl⟩
      obtain ⟨p, hp⟩ : ∃ b, w5.heap.size = b := ⟨_, rfl⟩
      have K6 : Hid (Bk W6 p 28 #[.string ⟨#[]⟩, .string ⟨#[]⟩, .slice none 0 0, .slice none 0 0]) := by rw [← hW6, ← hp]; exact Bk.new _ _ _
      have b6 : Below w5.heap.size w5 W6 := by rw [← hW6]; exact (Below.refl _ _).alloc (Nat.le_refl _) _
      have HPW : Hid (w5.heap.size ≤ p) := by rw [← hp]; exact Nat.le_refl _
      have z0 : W6.cell? ⟨p, 0, none⟩ = some (.string ⟨#[]⟩) := K6.out.cell 0
      have zf0 : W6.frozen? ⟨p, 0, none⟩ = false := K6.out.free 0
      have z1 : W6.cell? ⟨p, 1, none⟩ = some (.string ⟨#[]⟩) := K6.out.cell 1
      have zf1 : W6.frozen? ⟨p, 1, none⟩ = false := K6.out.free 1
      have z2 : W6.cell? ⟨p, 2, none⟩ = some (.slice none 0 0) := K6.out.cell 2
      have zf2 : W6.frozen? ⟨p, 2, none⟩ = false := K6.out.free 2
      have z3 : W6.cell? ⟨p, 3, none⟩ = some (.slice none 0 0) := K6.out.cell 3
      have zf3 : W6.frozen? ⟨p, 3, none⟩ = false := K6.out.free 3
      have B57 := Lib.hid (laidS4_below b6 HPW.out (.string ⟨#[]⟩) (.string ⟨#[]⟩) (.slice none 0 0) (.slice none 0 0))
      obtain ⟨w7, hw7⟩ : ∃ z, laidS4 W6 p (.string ⟨#[]⟩) (.string ⟨#[]⟩) (.slice none 0 0) (.slice none 0 0) = z := ⟨_, rfl⟩
      rw [hw7] at B57
      have B7 : Hid (Below w.heap.size w w7) := B5.out.trans (B57.out.mono B5.out.size)
      have HRT := Lib.hid (sright_any _ LL w7 (HO.out.below B7.out) (HT.out.below B7.out) (RH5.out.upon B57.out) HLE.out HSM.out)
      rw [HRG.out] at HRT
      have v7 : w7.cell? ⟨q, 0, none⟩ = some (.slice (some ⟨hb, 0, none⟩) 1 1) := (K5.out.below B57.out K5.out.lt).cell 0
      clear b6
      go_upto_region 34 with fail
      (try rw [hw7])
      clear hW6 hw7 hp z0 zf0 z1 zf1 z2 zf2 z3 zf3
      go_wp2_with fail
      refine HRT.out.mono ?_
      rintro e w8 ⟨rfl, b8⟩
      have B8 := Lib.hid (B7.out.trans (b8.mono B7.out.size))
      clear b8 v7
      go_wp2_with fail
      go_ret
      exact ⟨rfl, B8.out⟩
    · have hk : (IntKind.u64.wrap what).tmod 14 = 9 := HK.out
      obtain ⟨W3, hW3⟩ : ∃ W, w3.alloc (.cells #[.string ⟨#[99, 64, 104]⟩] 9) = W := ⟨_, rfl⟩
      obtain ⟨nb, hnb⟩ : ∃ b, w3.heap.size = b := ⟨_, rfl⟩
      have kn : Bk W3 nb 9 #[.string ⟨#[99, 64, 104]⟩] := by rw [← hW3, ← hnb]; exact Bk.new _ _ _
      have b33 : Below w3.heap.size w3 W3 := by rw [← hW3]; exact (Below.refl _ _).alloc (Nat.le_refl _) _
      have O33 := O3.out.below b33
      have n0 : W3.cell? ⟨ub, 3, none⟩ = some (.slice (some ⟨pb, 0, none⟩) 1 1) := O33.ku.cell 3
      have nf0 : W3.frozen? ⟨ub, 3, none⟩ = false := O33.ku.free 3
      obtain ⟨w4, hw4⟩ : ∃ z, W3.setCell ⟨ub, 3, none⟩ (.slice (some ⟨nb, 0, none⟩) 1 1) = z := ⟨_, rfl⟩
      have hnu : ub < nb := by rw [← hnb]; exact O3.out.ku.lt
      have b34 : Below w.heap.size w w4 := by rw [← hw4]; exact (B3.out.trans (b33.mono B3.out.size)).setCell (p := ⟨ub, 3, none⟩) (by have := O3.out.low; have := O3.out.ip; have := O3.out.pu; have := B1.out.size; show w.heap.size ≤ ub; omega) _
      have ki : Bk w4 ib 53 #[.string ⟨#[98, 64, 104]⟩, .string ⟨#[]⟩, .slice none 0 0, .int .i64 0, .bool false, .bool false, .string ⟨#[99, 64, 104]⟩, .string ⟨#[]⟩, .slice none 0 0, .int .i64 2, .bool false, .bool false] := by rw [← hw4]; exact O33.ki.far (p := ⟨ub, 3, none⟩) (by have := O3.out.ip; have := O3.out.pu; show ib ≠ ub; omega) _
      have kp : Bk w4 nb 9 #[.string ⟨#[99, 64, 104]⟩] := by rw [← hw4]; exact kn.far (p := ⟨ub, 3, none⟩) (by show nb ≠ ub; omega) _
      have ku : Bk w4 ub 28 #[.string ⟨#[97]⟩, .string ⟨#[112]⟩, .slice (some ⟨ib, 0, none⟩) 2 2, .slice (some ⟨nb, 0, none⟩) 1 1] := by rw [← hw4]; exact O33.ku.put 3 _
      have kh : Bk w4 hb 47 #[.string ⟨#[104]⟩, .slice (some ⟨ub, 0, none⟩) 1 1] := by rw [← hw4]; exact O33.kh.far (p := ⟨ub, 3, none⟩) (by have := O3.out.uh; show hb ≠ ub; omega) _
      have kq : Bk w4 q 24 #[.slice (some ⟨hb, 0, none⟩) 1 1] := by rw [← hw4]; exact (K3.out.below b33 K3.out.lt).far (p := ⟨ub, 3, none⟩) (by have := HQ.out; have := O3.out.uh; show q ≠ ub; omega) _
      have B4 := Lib.hid b34
      have KQ := Lib.hid kq
      have RH : Hid (ReadH w4 (.slice (some ⟨hb, 0, none⟩) 1 1) [(⟨[104], [(uT [97] [112] [98, 64, 104] [99, 64, 104] false [[99, 64, 104]] ib nb 1)], (some ⟨ub, 0, none⟩, 1, 1)⟩ : Hst)]) := reads1 ki kp ku kh rfl rfl rfl rfl rfl rfl rfl rfl (uT_noG _ _ _ _ _ _ _ _ _)
      have HRG : Hid (rightS [(⟨[104], [(uT [97] [112] [98, 64, 104] [99, 64, 104] false [[99, 64, 104]] ib nb 1)], (some ⟨ub, 0, none⟩, 1, 1)⟩ : Hst)] = false) := by unfold Hid; rw [se_host]; rw [uT_fit]; simp
      have HSM : Hid (∀ h ∈ [(⟨[104], [(uT [97] [112] [98, 64, 104] [99, 64, 104] false [[99, 64, 104]] ib nb 1)], (some ⟨ub, 0, none⟩, 1, 1)⟩ : Hst)], SmH h) := all_one (smH_of (by decide) (by simp) (all_one (uT_sm _ _ _ _ _ _ _ _ _ (by decide) (by decide) (by decide) (by decide) (by decide) (by decide))))
      have HNU : Hid (NoU [(⟨[104], [(uT [97] [112] [98, 64, 104] [99, 64, 104] false [[99, 64, 104]] ib nb 1)], (some ⟨ub, 0, none⟩, 1, 1)⟩ : Hst)] Y.data.toList) := no_at HLA.out (fun h hh => by obtain rfl := List.mem_singleton.1 hh; exact ⟨104, rfl, by decide⟩)
      obtain ⟨LL, hLL⟩ : ∃ l, [(⟨[104], [(uT [97] [112] [98, 64, 104] [99, 64, 104] false [[99, 64, 104]] ib nb 1)], (some ⟨ub, 0, none⟩, 1, 1)⟩ : Hst)] = l := ⟨_, rfl⟩
      have HLE : Hid (LL.length ≤ 1000000) := by unfold Hid; rw [← hLL]; simp
      rw [hLL] at RH HRG HSM HNU
      clear b34 ki kp ku kh kq hLL O33 b33 kn
      have HFD := Lib.hid (sfind_any (.slice (some ⟨hb, 0, none⟩) 1 1) LL Y.data.toList w4 RH.out HLE.out HSM.out HYL.out)
      rw [bts_self] at HFD
      have v0 : w4.cell? ⟨q, 0, none⟩ = some (.slice (some ⟨hb, 0, none⟩) 1 1) := KQ.out.cell 0
      go_upto_region 33 with fail
      (try rw [hw4])
      clear hw4
      go_wp2_with fail
      (try rw [HY.out])
      refine HFD.out.mono ?_
      rintro e w5 ⟨b5, h5⟩
      rcases h5 with h5 | ⟨i, k, h, u, y, hf, _⟩
      rotate_left
      · exact absurd hf.is (HNU.out h (List.mem_of_getElem? hf.host) u (List.mem_of_getElem? hf.user))
      obtain ⟨_, rfl⟩ := h5
      have zU : zeroU = .agg #[.string ⟨#[]⟩, .string ⟨#[]⟩, .slice none 0 0, .slice none 0 0] := rfl
      rw [zU]
      have B5 : Hid (Below w.heap.size w w5) := B4.out.trans (b5.mono B4.out.size)
      have K5 := Lib.hid (KQ.out.below b5 KQ.out.lt)
      have RH5 := Lib.hid (RH.out.upon b5)
      clear b5 zU v0 HFD
      obtain ⟨W6, hW6⟩ : ∃ W, w5.alloc (.cells #[.string ⟨#[]⟩, .string ⟨#[]⟩, .slice none 0 0, .slice none 0 0] 28) = W := ⟨_, rfl⟩
      obtain ⟨p, hp⟩ : ∃ b, w5.heap.size = b := ⟨_, rfl⟩
      have K6 : Hid (Bk W6 p 28 #[.string ⟨#[]⟩, .string ⟨#[]⟩, .slice none 0 0, .slice none 0 0]) := by rw [← hW6, ← hp]; exact Bk.new _ _ _
      have b6 : Below w5.heap.size w5 W6 := by rw [← hW6]; exact (Below.refl _ _).alloc (Nat.le_refl _) _
      have HPW : Hid (w5.heap.size ≤ p) := by rw [← hp]; exact Nat.le_refl _
      have z0 : W6.cell? ⟨p, 0, none⟩ = some (.string ⟨#[]⟩) := K6.out.cell 0
      have zf0 : W6.frozen? ⟨p, 0, none⟩ = false := K6.out.free 0
      have z1 : W6.cell? ⟨p, 1, none⟩ = some (.string ⟨#[]⟩) := K6.out.cell 1
      have zf1 : W6.frozen? ⟨p, 1, none⟩ = false := K6.out.free 1
      have z2 : W6.cell? ⟨p, 2, none⟩ = some (.slice none 0 0) := K6.out.cell 2
      have zf2 : W6.frozen? ⟨p, 2, none⟩ = false := K6.out.free 2
      have z3 : W6.cell? ⟨p, 3, none⟩ = some (.slice none 0 0) := K6.out.cell 3
      have zf3 : W6.frozen? ⟨p, 3, none⟩ = false := K6.out.free 3
      have B57 := Lib.hid (laidS4_below b6 HPW.out (.string ⟨#[]⟩) (.string ⟨#[]⟩) (.slice none 0 0) (.slice none 0 0))
      obtain ⟨w7, hw7⟩ : ∃ z, laidS4 W6 p (.string ⟨#[]⟩) (.string ⟨#[]⟩) (.slice none 0 0) (.slice none 0 0) = z := ⟨_, rfl⟩
      rw [hw7] at B57
      have B7 : Hid (Below w.heap.size w w7) := B5.out.trans (B57.out.mono B5.out.size)
      have HRT := Lib.hid (sright_any _ LL w7 (HO.out.below B7.out) (HT.out.below B7.out) (RH5.out.upon B57.out) HLE.out HSM.out)
      rw [HRG.out] at HRT
      have v7 : w7.cell? ⟨q, 0, none⟩ = some (.slice (some ⟨hb, 0, none⟩) 1 1) := (K5.out.below B57.out K5.out.lt).cell 0
      clear b6
      go_upto_region 34 with fail
      (try rw [hw7])
      clear hW6 hw7 hp z0 zf0 z1 zf1 z2 zf2 z3 zf3
      go_wp2_with fail
      refine HRT.out.mono ?_
      rintro e w8 ⟨rfl, b8⟩
      have B8 := Lib.hid (B7.out.trans (b8.mono B7.out.size))
      clear b8 v7
      go_wp2_with fail
      go_ret
      exact ⟨rfl, B8.out⟩
    · have hk : (IntKind.u64.wrap what).tmod 14 = 10 := HK.out
      obtain ⟨W3, hW3⟩ : ∃ W, w3.alloc (.cells #[.string ⟨#[101, 64, 104]⟩, .string ⟨#[100, 64, 104]⟩] 9) = W := ⟨_, rfl⟩
      obtain ⟨nb, hnb⟩ : ∃ b, w3.heap.size = b := ⟨_, rfl⟩
      have kn : Bk W3 nb 9 #[.string ⟨#[101, 64, 104]⟩, .string ⟨#[100, 64, 104]⟩] := by rw [← hW3, ← hnb]; exact Bk.new _ _ _
      have b33 : Below w3.heap.size w3 W3 := by rw [← hW3]; exact (Below.refl _ _).alloc (Nat.le_refl _) _
      have O33 := O3.out.below b33
      have n0 : W3.cell? ⟨ub, 3, none⟩ = some (.slice (some ⟨pb, 0, none⟩) 1 1) := O33.ku.cell 3
      have nf0 : W3.frozen? ⟨ub, 3, none⟩ = false := O33.ku.free 3
      obtain ⟨w4, hw4⟩ : ∃ z, W3.setCell ⟨ub, 3, none⟩ (.slice (some ⟨nb, 0, none⟩) 2 2) = z := ⟨_, rfl⟩
      have hnu : ub < nb := by rw [← hnb]; exact O3.out.ku.lt
      have b34 : Below w.heap.size w w4 := by rw [← hw4]; exact (B3.out.trans (b33.mono B3.out.size)).setCell (p := ⟨ub, 3, none⟩) (by have := O3.out.low; have := O3.out.ip; have := O3.out.pu; have := B1.out.size; show w.heap.size ≤ ub; omega) _
      have ki : Bk w4 ib 53 #[.string ⟨#[98, 64, 104]⟩, .string ⟨#[]⟩, .slice none 0 0, .int .i64 0, .bool false, .bool false, .string ⟨#[99, 64, 104]⟩, .string ⟨#[]⟩, .slice none 0 0, .int .i64 2, .bool false, .bool false] := by rw [← hw4]; exact O33.ki.far (p := ⟨ub, 3, none⟩) (by have := O3.out.ip; have := O3.out.pu; show ib ≠ ub; omega) _
      have kp : Bk w4 nb 9 #[.string ⟨#[101, 64, 104]⟩, .string ⟨#[100, 64, 104]⟩] := by rw [← hw4]; exact kn.far (p := ⟨ub, 3, none⟩) (by show nb ≠ ub; omega) _
      have ku : Bk w4 ub 28 #[.string ⟨#[97]⟩, .string ⟨#[112]⟩, .slice (some ⟨ib, 0, none⟩) 2 2, .slice (some ⟨nb, 0, none⟩) 2 2] := by rw [← hw4]; exact O33.ku.put 3 _
      have kh : Bk w4 hb 47 #[.string ⟨#[104]⟩, .slice (some ⟨ub, 0, none⟩) 1 1] := by rw [← hw4]; exact O33.kh.far (p := ⟨ub, 3, none⟩) (by have := O3.out.uh; show hb ≠ ub; omega) _
      have kq : Bk w4 q 24 #[.slice (some ⟨hb, 0, none⟩) 1 1] := by rw [← hw4]; exact (K3.out.below b33 K3.out.lt).far (p := ⟨ub, 3, none⟩) (by have := HQ.out; have := O3.out.uh; show q ≠ ub; omega) _
      have B4 := Lib.hid b34
      have KQ := Lib.hid kq
      have RH : Hid (ReadH w4 (.slice (some ⟨hb, 0, none⟩) 1 1) [(⟨[104], [(uT [97] [112] [98, 64, 104] [99, 64, 104] false [[101, 64, 104], [100, 64, 104]] ib nb 2)], (some ⟨ub, 0, none⟩, 1, 1)⟩ : Hst)]) := reads1 ki kp ku kh rfl rfl rfl rfl rfl rfl rfl rfl (uT_noG _ _ _ _ _ _ _ _ _)
      have HRG : Hid (rightS [(⟨[104], [(uT [97] [112] [98, 64, 104] [99, 64, 104] false [[101, 64, 104], [100, 64, 104]] ib nb 2)], (some ⟨ub, 0, none⟩, 1, 1)⟩ : Hst)] = false) := by unfold Hid; rw [se_host]; rw [uT_fit]; rw [rightK_two _ _ (by decide), show Jd.lessL [101, 64, 104] [100, 64, 104] = false by decide +kernel]; simp
      have HSM : Hid (∀ h ∈ [(⟨[104], [(uT [97] [112] [98, 64, 104] [99, 64, 104] false [[101, 64, 104], [100, 64, 104]] ib nb 2)], (some ⟨ub, 0, none⟩, 1, 1)⟩ : Hst)], SmH h) := all_one (smH_of (by decide) (by simp) (all_one (uT_sm _ _ _ _ _ _ _ _ _ (by decide) (by decide) (by decide) (by decide) (by decide) (by decide))))
      have HNU : Hid (NoU [(⟨[104], [(uT [97] [112] [98, 64, 104] [99, 64, 104] false [[101, 64, 104], [100, 64, 104]] ib nb 2)], (some ⟨ub, 0, none⟩, 1, 1)⟩ : Hst)] Y.data.toList) := no_at HLA.out (fun h hh => by obtain rfl := List.mem_singleton.1 hh; exact ⟨104, rfl, by decide⟩)
      obtain ⟨LL, hLL⟩ : ∃ l, [(⟨[104], [(uT [97] [112] [98, 64, 104] [99, 64, 104] false [[101, 64, 104], [100, 64, 104]] ib nb 2)], (some ⟨ub, 0, none⟩, 1, 1)⟩ : Hst)] = l := ⟨_, rfl⟩
      have HLE : Hid (LL.length ≤ 1000000) := by unfold Hid; rw [← hLL]; simp
      rw [hLL] at RH HRG HSM HNU
      clear b34 ki kp ku kh kq hLL O33 b33 kn
      have HFD := Lib.hid (sfind_any (.slice (some ⟨hb, 0, none⟩) 1 1) LL Y.data.toList w4 RH.out HLE.out HSM.out HYL.out)
      rw [bts_self] at HFD
      have v0 : w4.cell? ⟨q, 0, none⟩ = some (.slice (some ⟨hb, 0, none⟩) 1 1) := KQ.out.cell 0
      go_upto_region 33 with fail
      (try rw [hw4])
      clear hw4
      go_wp2_with fail
      (try rw [HY.out])
      refine HFD.out.mono ?_
      rintro e w5 ⟨b5, h5⟩
      rcases h5 with h5 | ⟨i, k, h, u, y, hf, _⟩
      rotate_left
      · exact absurd hf.is (HNU.out h (List.mem_of_getElem? hf.host) u (List.mem_of_getElem? hf.user))
      obtain ⟨_, rfl⟩ := h5
      have zU : zeroU = .agg #[.string ⟨#[]⟩, .string ⟨#[]⟩, .slice none 0 0, .slice none 0 0] := rfl
      rw [zU]
      have B5 : Hid (Below w.heap.size w w5) := B4.out.trans (b5.mono B4.out.size)
      have K5 := Lib.hid (KQ.out.below b5 KQ.out.lt)
      have RH5 := Lib.hid (RH.out.upon b5)
      clear b5 zU v0 HFD
      obtain ⟨W6, hW6⟩ : ∃ W, w5.alloc (.cells #[.string ⟨#[]⟩, .string ⟨#[]⟩, .slice none 0 0, .slice none 0 0] 28) = W := ⟨_, rfl⟩
      obtain ⟨p, hp⟩ : ∃ b, w5.heap.size = b := ⟨_, rfl⟩
      have K6 : Hid (Bk W6 p 28 #[.string ⟨#[]⟩, .string ⟨#[]⟩, .slice none 0 0, .slice none 0 0]) := by rw [← hW6, ← hp]; exact Bk.new _ _ _
      have b6 : Below w5.heap.size w5 W6 := by rw [← hW6]; exact (Below.refl _ _).alloc (Nat.le_refl _) _
      have HPW : Hid (w5.heap.size ≤ p) := by rw [← hp]; exact Nat.le_refl _
      have z0 : W6.cell? ⟨p, 0, none⟩ = some (.string ⟨#[]⟩) := K6.out.cell 0
      have zf0 : W6.frozen? ⟨p, 0, none⟩ = false := K6.out.free 0
      have z1 : W6.cell? ⟨p, 1, none⟩ = some (.string ⟨#[]⟩) := K6.out.cell 1
      have zf1 : W6.frozen? ⟨p, 1, none⟩ = false := K6.out.free 1
      have z2 : W6.cell? ⟨p, 2, none⟩ = some (.slice none 0 0) := K6.out.cell 2
      have zf2 : W6.frozen? ⟨p, 2, none⟩ = false := K6.out.free 2
      have z3 : W6.cell? ⟨p, 3, none⟩ = some (.slice none 0 0) := K6.out.cell 3
      have zf3 : W6.frozen? ⟨p, 3, none⟩ = false := K6.out.free 3
      have B57 := Lib.hid (laidS4_below b6 HPW.out (.string ⟨#[]⟩) (.string ⟨#[]⟩) (.slice none 0 0) (.slice none 0 0))
      obtain ⟨w7, hw7⟩ : ∃ z, laidS4 W6 p (.string ⟨#[]⟩) (.string ⟨#[]⟩) (.slice none 0 0) (.slice none 0 0) = z := ⟨_, rfl⟩
      rw [hw7] at B57
      have B7 : Hid (Below w.heap.size w w7) := B5.out.trans (B57.out.mono B5.out.size)
      have HRT := Lib.hid (sright_any _ LL w7 (HO.out.below B7.out) (HT.out.below B7.out) (RH5.out.upon B57.out) HLE.out HSM.out)
      rw [HRG.out] at HRT
      have v7 : w7.cell? ⟨q, 0, none⟩ = some (.slice (some ⟨hb, 0, none⟩) 1 1) := (K5.out.below B57.out K5.out.lt).cell 0
      clear b6
      go_upto_region 34 with fail
      (try rw [hw7])
      clear hW6 hw7 hp z0 zf0 z1 zf1 z2 zf2 z3 zf3
      go_wp2_with fail
      refine HRT.out.mono ?_
      rintro e w8 ⟨rfl, b8⟩
      have B8 := Lib.hid (B7.out.trans (b8.mono B7.out.size))
      clear b8 v7
      go_wp2_with fail
      go_ret
      exact ⟨rfl, B8.out⟩
    · have hk : (IntKind.u64.wrap what).tmod 14 = 11 := HK.out
      obtain ⟨W3, hW3⟩ : ∃ W, w3.alloc (.cells #[.string ⟨#[68, 64, 104]⟩] 9) = W := ⟨_, rfl⟩
      obtain ⟨nb, hnb⟩ : ∃ b, w3.heap.size = b := ⟨_, rfl⟩
      have kn : Bk W3 nb 9 #[.string ⟨#[68, 64, 104]⟩] := by rw [← hW3, ← hnb]; exact Bk.new _ _ _
      have b33 : Below w3.heap.size w3 W3 := by rw [← hW3]; exact (Below.refl _ _).alloc (Nat.le_refl _) _
      have O33 := O3.out.below b33
      have n0 : W3.cell? ⟨ub, 3, none⟩ = some (.slice (some ⟨pb, 0, none⟩) 1 1) := O33.ku.cell 3
      have nf0 : W3.frozen? ⟨ub, 3, none⟩ = false := O33.ku.free 3
      obtain ⟨w4, hw4⟩ : ∃ z, W3.setCell ⟨ub, 3, none⟩ (.slice (some ⟨nb, 0, none⟩) 1 1) = z := ⟨_, rfl⟩
      have hnu : ub < nb := by rw [← hnb]; exact O3.out.ku.lt
      have b34 : Below w.heap.size w w4 := by rw [← hw4]; exact (B3.out.trans (b33.mono B3.out.size)).setCell (p := ⟨ub, 3, none⟩) (by have := O3.out.low; have := O3.out.ip; have := O3.out.pu; have := B1.out.size; show w.heap.size ≤ ub; omega) _
      have ki : Bk w4 ib 53 #[.string ⟨#[98, 64, 104]⟩, .string ⟨#[]⟩, .slice none 0 0, .int .i64 0, .bool false, .bool false, .string ⟨#[99, 64, 104]⟩, .string ⟨#[]⟩, .slice none 0 0, .int .i64 2, .bool false, .bool false] := by rw [← hw4]; exact O33.ki.far (p := ⟨ub, 3, none⟩) (by have := O3.out.ip; have := O3.out.pu; show ib ≠ ub; omega) _
      have kp : Bk w4 nb 9 #[.string ⟨#[68, 64, 104]⟩] := by rw [← hw4]; exact kn.far (p := ⟨ub, 3, none⟩) (by show nb ≠ ub; omega) _
      have ku : Bk w4 ub 28 #[.string ⟨#[97]⟩, .string ⟨#[112]⟩, .slice (some ⟨ib, 0, none⟩) 2 2, .slice (some ⟨nb, 0, none⟩) 1 1] := by rw [← hw4]; exact O33.ku.put 3 _
      have kh : Bk w4 hb 47 #[.string ⟨#[104]⟩, .slice (some ⟨ub, 0, none⟩) 1 1] := by rw [← hw4]; exact O33.kh.far (p := ⟨ub, 3, none⟩) (by have := O3.out.uh; show hb ≠ ub; omega) _
      have kq : Bk w4 q 24 #[.slice (some ⟨hb, 0, none⟩) 1 1] := by rw [← hw4]; exact (K3.out.below b33 K3.out.lt).far (p := ⟨ub, 3, none⟩) (by have := HQ.out; have := O3.out.uh; show q ≠ ub; omega) _
      have B4 := Lib.hid b34
      have KQ := Lib.hid kq
      have RH : Hid (ReadH w4 (.slice (some ⟨hb, 0, none⟩) 1 1) [(⟨[104], [(uT [97] [112] [98, 64, 104] [99, 64, 104] false [[68, 64, 104]] ib nb 1)], (some ⟨ub, 0, none⟩, 1, 1)⟩ : Hst)]) := reads1 ki kp ku kh rfl rfl rfl rfl rfl rfl rfl rfl (uT_noG _ _ _ _ _ _ _ _ _)
      have HRG : Hid (rightS [(⟨[104], [(uT [97] [112] [98, 64, 104] [99, 64, 104] false [[68, 64, 104]] ib nb 1)], (some ⟨ub, 0, none⟩, 1, 1)⟩ : Hst)] = false) := by unfold Hid; rw [se_host]; rw [uT_fit]; rw [rightK_one _ (by decide), se_addr_D]; simp
      have HSM : Hid (∀ h ∈ [(⟨[104], [(uT [97] [112] [98, 64, 104] [99, 64, 104] false [[68, 64, 104]] ib nb 1)], (some ⟨ub, 0, none⟩, 1, 1)⟩ : Hst)], SmH h) := all_one (smH_of (by decide) (by simp) (all_one (uT_sm _ _ _ _ _ _ _ _ _ (by decide) (by decide) (by decide) (by decide) (by decide) (by decide))))
      have HNU : Hid (NoU [(⟨[104], [(uT [97] [112] [98, 64, 104] [99, 64, 104] false [[68, 64, 104]] ib nb 1)], (some ⟨ub, 0, none⟩, 1, 1)⟩ : Hst)] Y.data.toList) := no_at HLA.out (fun h hh => by obtain rfl := List.mem_singleton.1 hh; exact ⟨104, rfl, by decide⟩)
      obtain ⟨LL, hLL⟩ : ∃ l, [(⟨[104], [(uT [97] [112] [98, 64, 104] [99, 64, 104] false [[68, 64, 104]] ib nb 1)], (some ⟨ub, 0, none⟩, 1, 1)⟩ : Hst)] = l := ⟨_, rfl⟩
      have HLE : Hid (LL.length ≤ 1000000) := by unfold Hid; rw [← hLL]; simp
      rw [hLL] at RH HRG HSM HNU
      clear b34 ki kp ku kh kq hLL O33 b33 kn
      have HFD := Lib.hid (sfind_any (.slice (some ⟨hb, 0, none⟩) 1 1) LL Y.data.toList w4 RH.out HLE.out HSM.out HYL.out)
      rw [bts_self] at HFD
      have v0 : w4.cell? ⟨q, 0, none⟩ = some (.slice (some ⟨hb, 0, none⟩) 1 1) := KQ.out.cell 0
      go_upto_region 33 with fail
      (try rw [hw4])
      clear hw4
      go_wp2_with fail
      (try rw [HY.out])
      refine HFD.out.mono ?_
      rintro e w5 ⟨b5, h5⟩
      rcases h5 with h5 | ⟨i, k, h, u, y, hf, _⟩
      rotate_left
      · exact absurd hf.is (HNU.out h (List.mem_of_getElem? hf.host) u (List.mem_of_getElem? hf.user))
      obtain ⟨_, rfl⟩ := h5
      have zU : zeroU = .agg #[.string ⟨#[]⟩, .string ⟨#[]⟩, .slice none 0 0, .slice none 0 0] := rfl
      rw [zU]
      have B5 : Hid (Below w.heap.size w w5) := B4.out.trans (b5.mono B4.out.size)
      have K5 := Lib.hid (KQ.out.below b5 KQ.out.lt)
      have RH5 := Lib.hid (RH.out.upon b5)
      clear b5 zU v0 HFD
      obtain ⟨W6, hW6⟩ : ∃ W, w5.alloc (.cells #[.string ⟨#[]⟩, .string ⟨#[]⟩, .slice none 0 0, .slice none 0 0] 28) = W := ⟨_, rfl⟩
      obtain ⟨p, hp⟩ : ∃ b, w5.heap.size = b := ⟨_, rfl⟩
      have K6 : Hid (Bk W6 p 28 #[.string ⟨#[]⟩, .string ⟨#[]⟩, .slice none 0 0, .slice none 0 0]) := by rw [← hW6, ← hp]; exact Bk.new _ _ _
      have b6 : Below w5.heap.size w5 W6 := by rw [← hW6]; exact (Below.refl _ _).alloc (Nat.le_refl _) _
      have HPW : Hid (w5.heap.size ≤ p) := by rw [← hp]; exact Nat.le_refl _
      have z0 : W6.cell? ⟨p, 0, none⟩ = some (.string ⟨#[]⟩) := K6.out.cell 0
      have zf0 : W6.frozen? ⟨p, 0, none⟩ = false := K6.out.free 0
      have z1 : W6.cell? ⟨p, 1, none⟩ = some (.string ⟨#[]⟩) := K6.out.cell 1
      have zf1 : W6.frozen? ⟨p, 1, none⟩ = false := K6.out.free 1
      have z2 : W6.cell? ⟨p, 2, none⟩ = some (.slice none 0 0) := K6.out.cell 2
      have zf2 : W6.frozen? ⟨p, 2, none⟩ = false := K6.out.free 2
      have z3 : W6.cell? ⟨p, 3, none⟩ = some (.slice none 0 0) := K6.out.cell 3
      have zf3 : W6.frozen? ⟨p, 3, none⟩ = false := K6.out.free 3
      have B57 := Lib.hid (laidS4_below b6 HPW.out (.string ⟨#[]⟩) (.string ⟨#[]⟩) (.slice none 0 0) (.slice none 0 0))
      obtain ⟨w7, hw7⟩ : ∃ z, laidS4 W6 p (.string ⟨#[]⟩) (.string ⟨#[]⟩) (.slice none 0 0) (.slice none 0 0) = z := ⟨_, rfl⟩
      rw [hw7] at B57
      have B7 : Hid (Below w.heap.size w w7) := B5.out.trans (B57.out.mono B5.out.size)
      have HRT := Lib.hid (sright_any _ LL w7 (HO.out.below B7.out) (HT.out.below B7.out) (RH5.out.upon B57.out) HLE.out HSM.out)
      rw [HRG.out] at HRT
      have v7 : w7.cell? ⟨q, 0, none⟩ = some (.slice (some ⟨hb, 0, none⟩) 1 1) := (K5.out.below B57.out K5.out.lt).cell 0
      clear b6
      go_upto_region 34 with fail
      (try rw [hw7])
      clear hW6 hw7 hp z0 zf0 z1 zf1 z2 zf2 z3 zf3
      go_wp2_with fail
      refine HRT.out.mono ?_
      rintro e w8 ⟨rfl, b8⟩
      have B8 := Lib.hid (B7.out.trans (b8.mono B7.out.size))
      clear b8 v7
      go_wp2_with fail
      go_ret
      exact ⟨rfl, B8.out⟩
    · have hk : (IntKind.u64.wrap what).tmod 14 = 12 := HK.out
      have n0 : w3.cell? ⟨ub, 0, none⟩ = some (.string ⟨#[97]⟩) := O3.out.ku.cell 0
      have nf0 : w3.frozen? ⟨ub, 0, none⟩ = false := O3.out.ku.free 0
      obtain ⟨w4, hw4⟩ : ∃ z, w3.setCell ⟨ub, 0, none⟩ (.string ⟨#[]⟩) = z := ⟨_, rfl⟩
      have b34 : Below w.heap.size w w4 := by rw [← hw4]; exact B3.out.setCell (p := ⟨ub, 0, none⟩) (by have := O3.out.low; have := O3.out.ip; have := O3.out.pu; have := O3.out.uh; have := B1.out.size; show w.heap.size ≤ ub; omega) _
      have ki : Bk w4 ib 53 #[.string ⟨#[98, 64, 104]⟩, .string ⟨#[]⟩, .slice none 0 0, .int .i64 0, .bool false, .bool false, .string ⟨#[99, 64, 104]⟩, .string ⟨#[]⟩, .slice none 0 0, .int .i64 2, .bool false, .bool false] := by rw [← hw4]; exact O3.out.ki.far (p := ⟨ub, 0, none⟩) (by have := O3.out.ip; have := O3.out.pu; have := O3.out.uh; show ib ≠ ub; omega) _
      have kp : Bk w4 pb 9 #[.string ⟨#[100, 64, 104]⟩] := by rw [← hw4]; exact O3.out.kp.far (p := ⟨ub, 0, none⟩) (by have := O3.out.ip; have := O3.out.pu; have := O3.out.uh; show pb ≠ ub; omega) _
      have ku : Bk w4 ub 28 #[.string ⟨#[]⟩, .string ⟨#[112]⟩, .slice (some ⟨ib, 0, none⟩) 2 2, .slice (some ⟨pb, 0, none⟩) 1 1] := by rw [← hw4]; exact O3.out.ku.put 0 _
      have kh : Bk w4 hb 47 #[.string ⟨#[104]⟩, .slice (some ⟨ub, 0, none⟩) 1 1] := by rw [← hw4]; exact O3.out.kh.far (p := ⟨ub, 0, none⟩) (by have := O3.out.ip; have := O3.out.pu; have := O3.out.uh; show hb ≠ ub; omega) _
      have kq : Bk w4 q 24 #[.slice (some ⟨hb, 0, none⟩) 1 1] := by rw [← hw4]; exact K3.out.far (p := ⟨ub, 0, none⟩) (by have := HQ.out; have := O3.out.ip; have := O3.out.pu; have := O3.out.uh; show q ≠ ub; omega) _
      have B4 := Lib.hid b34
      have KQ := Lib.hid kq
      have RH : Hid (ReadH w4 (.slice (some ⟨hb, 0, none⟩) 1 1) [⟨[104], [(uT [] [112] [98, 64, 104] [99, 64, 104] false [[100, 64, 104]] ib pb 1)], (some ⟨ub, 0, none⟩, 1, 1)⟩]) := reads1 ki kp ku kh rfl rfl rfl rfl rfl rfl rfl rfl (uT_noG _ _ _ _ _ _ _ _ _)
      have HRG : Hid (rightS [⟨[104], [(uT [] [112] [98, 64, 104] [99, 64, 104] false [[100, 64, 104]] ib pb 1)], (some ⟨ub, 0, none⟩, 1, 1)⟩] = false) := by unfold Hid; rw [se_host]; rw [uT_fit]; rw [se_node_nil]; simp
      have HSM : Hid (∀ h ∈ [(⟨[104], [(uT [] [112] [98, 64, 104] [99, 64, 104] false [[100, 64, 104]] ib pb 1)], (some ⟨ub, 0, none⟩, 1, 1)⟩ : Hst)], SmH h) := all_one (smH_of (by decide) (by simp) (all_one (uT_sm _ _ _ _ _ _ _ _ _ (by decide) (by decide) (by decide) (by decide) (by decide) (by decide))))
      have HNU : Hid (NoU [(⟨[104], [(uT [] [112] [98, 64, 104] [99, 64, 104] false [[100, 64, 104]] ib pb 1)], (some ⟨ub, 0, none⟩, 1, 1)⟩ : Hst)] Y.data.toList) := no_at HLA.out (fun h hh => by obtain rfl := List.mem_singleton.1 hh; exact ⟨104, rfl, by decide⟩)
      obtain ⟨LL, hLL⟩ : ∃ l, [(⟨[104], [(uT [] [112] [98, 64, 104] [99, 64, 104] false [[100, 64, 104]] ib pb 1)], (some ⟨ub, 0, none⟩, 1, 1)⟩ : Hst)] = l := ⟨_, rfl⟩
      have HLE : Hid (LL.length ≤ 1000000) := by unfold Hid; rw [← hLL]; simp
      rw [hLL] at RH HRG HSM HNU
      clear b34 ki kp ku kh kq hLL
      have HFD := Lib.hid (sfind_any (.slice (some ⟨hb, 0, none⟩) 1 1) LL Y.data.toList w4 RH.out HLE.out HSM.out HYL.out)
      rw [bts_self] at HFD
      have v0 : w4.cell? ⟨q, 0, none⟩ = some (.slice (some ⟨hb, 0, none⟩) 1 1) := KQ.out.cell 0
      go_upto_region 33 with fail
      (try rw [hw4])
      clear hw4
      go_wp2_with fail
      (try rw [HY.out])
      refine HFD.out.mono ?_
      rintro e w5 ⟨b5, h5⟩
      rcases h5 with h5 | ⟨i, k, h, u, y, hf, _⟩
      rotate_left
      · exact absurd hf.is (HNU.out h (List.mem_of_getElem? hf.host) u (List.mem_of_getElem? hf.user))
      obtain ⟨_, rfl⟩ := h5
      have zU : zeroU = .agg #[.string ⟨#[]⟩, .string ⟨#[]⟩, .slice none 0 0, .slice none 0 0] := rfl
      rw [zU]
      have B5 : Hid (Below w.heap.size w w5) := B4.out.trans (b5.mono B4.out.size)
      have K5 := Lib.hid (KQ.out.below b5 KQ.out.lt)
      have RH5 := Lib.hid (RH.out.upon b5)
      clear b5 zU v0 HFD
      obtain ⟨W6, hW6⟩ : ∃ W, w5.alloc (.cells #[.string ⟨#[]⟩, .string ⟨#[]⟩, .slice none 0 0, .slice none 0 0] 28) = W := ⟨_, rfl⟩
      obtain ⟨p, hp⟩ : ∃ b, w5.heap.size = b := ⟨_, rfl⟩
      have K6 : Hid (Bk W6 p 28 #[.string ⟨#[]⟩, .string ⟨#[]⟩, .slice none 0 0, .slice none 0 0]) := by rw [← hW6, ← hp]; exact Bk.new _ _ _
      have b6 : Below w5.heap.size w5 W6 := by rw [← hW6]; exact (Below.refl _ _).alloc (Nat.le_refl _) _
      have HPW : Hid (w5.heap.size ≤ p) := by rw [← hp]; exact Nat.le_refl _
      have z0 : W6.cell? ⟨p, 0, none⟩ = some (.string ⟨#[]⟩) := K6.out.cell 0
      have zf0 : W6.frozen? ⟨p, 0, none⟩ = false := K6.out.free 0
      have z1 : W6.cell? ⟨p, 1, none⟩ = some (.string ⟨#[]⟩) := K6.out.cell 1
      have zf1 : W6.frozen? ⟨p, 1, none⟩ = false := K6.out.free 1
      have z2 : W6.cell? ⟨p, 2, none⟩ = some (.slice none 0 0) := K6.out.cell 2
      have zf2 : W6.frozen? ⟨p, 2, none⟩ = false := K6.out.free 2
      have z3 : W6.cell? ⟨p, 3, none⟩ = some (.slice none 0 0) := K6.out.cell 3
      have zf3 : W6.frozen? ⟨p, 3, none⟩ = false := K6.out.free 3
      have B57 := Lib.hid (laidS4_below b6 HPW.out (.string ⟨#[]⟩) (.string ⟨#[]⟩) (.slice none 0 0) (.slice none 0 0))
      obtain ⟨w7, hw7⟩ : ∃ z, laidS4 W6 p (.string ⟨#[]⟩) (.string ⟨#[]⟩) (.slice none 0 0) (.slice none 0 0) = z := ⟨_, rfl⟩
      rw [hw7] at B57
      have B7 : Hid (Below w.heap.size w w7) := B5.out.trans (B57.out.mono B5.out.size)
      have HRT := Lib.hid (sright_any _ LL w7 (HO.out.below B7.out) (HT.out.below B7.out) (RH5.out.upon B57.out) HLE.out HSM.out)
      rw [HRG.out] at HRT
      have v7 : w7.cell? ⟨q, 0, none⟩ = some (.slice (some ⟨hb, 0, none⟩) 1 1) := (K5.out.below B57.out K5.out.lt).cell 0
      clear b6
      go_upto_region 34 with fail
      (try rw [hw7])
      clear hW6 hw7 hp z0 zf0 z1 zf1 z2 zf2 z3 zf3
      go_wp2_with fail
      refine HRT.out.mono ?_
      rintro e w8 ⟨rfl, b8⟩
      have B8 := Lib.hid (B7.out.trans (b8.mono B7.out.size))
      clear b8 v7
      go_wp2_with fail
      go_ret
      exact ⟨rfl, B8.out⟩
    · have hk : (IntKind.u64.wrap what).tmod 14 = 13 := HK.out
      have n0 : w3.cell? ⟨ib, 11, none⟩ = some (.bool false) := O3.out.ki.cell 11
      have nf0 : w3.frozen? ⟨ib, 11, none⟩ = false := O3.out.ki.free 11
      have l2 : w3.cell? ⟨ub, 2, none⟩ = some (.slice (some ⟨ib, 0, none⟩) 2 2) := O3.out.ku.cell 2
      obtain ⟨w4, hw4⟩ : ∃ z, w3.setCell ⟨ib, 11, none⟩ (.bool true) = z := ⟨_, rfl⟩
      have b34 : Below w.heap.size w w4 := by rw [← hw4]; exact B3.out.setCell (p := ⟨ib, 11, none⟩) (by have := O3.out.low; have := O3.out.ip; have := O3.out.pu; have := O3.out.uh; have := B1.out.size; show w.heap.size ≤ ib; omega) _
      have ki : Bk w4 ib 53 #[.string ⟨#[98, 64, 104]⟩, .string ⟨#[]⟩, .slice none 0 0, .int .i64 0, .bool false, .bool false, .string ⟨#[99, 64, 104]⟩, .string ⟨#[]⟩, .slice none 0 0, .int .i64 2, .bool false, .bool true] := by rw [← hw4]; exact O3.out.ki.put 11 _
      have kp : Bk w4 pb 9 #[.string ⟨#[100, 64, 104]⟩] := by rw [← hw4]; exact O3.out.kp.far (p := ⟨ib, 11, none⟩) (by have := O3.out.ip; have := O3.out.pu; have := O3.out.uh; show pb ≠ ib; omega) _
      have ku : Bk w4 ub 28 #[.string ⟨#[97]⟩, .string ⟨#[112]⟩, .slice (some ⟨ib, 0, none⟩) 2 2, .slice (some ⟨pb, 0, none⟩) 1 1] := by rw [← hw4]; exact O3.out.ku.far (p := ⟨ib, 11, none⟩) (by have := O3.out.ip; have := O3.out.pu; have := O3.out.uh; show ub ≠ ib; omega) _
      have kh : Bk w4 hb 47 #[.string ⟨#[104]⟩, .slice (some ⟨ub, 0, none⟩) 1 1] := by rw [← hw4]; exact O3.out.kh.far (p := ⟨ib, 11, none⟩) (by have := O3.out.ip; have := O3.out.pu; have := O3.out.uh; show hb ≠ ib; omega) _
      have kq : Bk w4 q 24 #[.slice (some ⟨hb, 0, none⟩) 1 1] := by rw [← hw4]; exact K3.out.far (p := ⟨ib, 11, none⟩) (by have := HQ.out; have := O3.out.ip; have := O3.out.pu; have := O3.out.uh; show q ≠ ib; omega) _
      have B4 := Lib.hid b34
      have KQ := Lib.hid kq
      have RH : Hid (ReadH w4 (.slice (some ⟨hb, 0, none⟩) 1 1) [⟨[104], [(uT [97] [112] [98, 64, 104] [99, 64, 104] true [[100, 64, 104]] ib pb 1)], (some ⟨ub, 0, none⟩, 1, 1)⟩]) := reads1 ki kp ku kh rfl rfl rfl rfl rfl rfl rfl rfl (uT_noG _ _ _ _ _ _ _ _ _)
      have HRG : Hid (rightS [⟨[104], [(uT [97] [112] [98, 64, 104] [99, 64, 104] true [[100, 64, 104]] ib pb 1)], (some ⟨ub, 0, none⟩, 1, 1)⟩] = false) := by unfold Hid; rw [se_host]; rw [uT_fit]; simp
      have HSM : Hid (∀ h ∈ [(⟨[104], [(uT [97] [112] [98, 64, 104] [99, 64, 104] true [[100, 64, 104]] ib pb 1)], (some ⟨ub, 0, none⟩, 1, 1)⟩ : Hst)], SmH h) := all_one (smH_of (by decide) (by simp) (all_one (uT_sm _ _ _ _ _ _ _ _ _ (by decide) (by decide) (by decide) (by decide) (by decide) (by decide))))
      have HNU : Hid (NoU [(⟨[104], [(uT [97] [112] [98, 64, 104] [99, 64, 104] true [[100, 64, 104]] ib pb 1)], (some ⟨ub, 0, none⟩, 1, 1)⟩ : Hst)] Y.data.toList) := no_at HLA.out (fun h hh => by obtain rfl := List.mem_singleton.1 hh; exact ⟨104, rfl, by decide⟩)
      obtain ⟨LL, hLL⟩ : ∃ l, [(⟨[104], [(uT [97] [112] [98, 64, 104] [99, 64, 104] true [[100, 64, 104]] ib pb 1)], (some ⟨ub, 0, none⟩, 1, 1)⟩ : Hst)] = l := ⟨_, rfl⟩
      have HLE : Hid (LL.length ≤ 1000000) := by unfold Hid; rw [← hLL]; simp
      rw [hLL] at RH HRG HSM HNU
      clear b34 ki kp ku kh kq hLL
      have HFD := Lib.hid (sfind_any (.slice (some ⟨hb, 0, none⟩) 1 1) LL Y.data.toList w4 RH.out HLE.out HSM.out HYL.out)
      rw [bts_self] at HFD
      have v0 : w4.cell? ⟨q, 0, none⟩ = some (.slice (some ⟨hb, 0, none⟩) 1 1) := KQ.out.cell 0
      go_upto_region 33 with fail
      (try rw [hw4])
      clear hw4
      go_wp2_with fail
      (try rw [HY.out])
      refine HFD.out.mono ?_
      rintro e w5 ⟨b5, h5⟩
      rcases h5 with h5 | ⟨i, k, h, u, y, hf, _⟩
      rotate_left
      · exact absurd hf.is (HNU.out h (List.mem_of_getElem? hf.host) u (List.mem_of_getElem? hf.user))
      obtain ⟨_, rfl⟩ := h5
      have zU : zeroU = .agg #[.string ⟨#[]⟩, .string ⟨#[]⟩, .slice none 0 0, .slice none 0 0] := rfl
      rw [zU]
      have B5 : Hid (Below w.heap.size w w5) := B4.out.trans (b5.mono B4.out.size)
      have K5 := Lib.hid (KQ.out.below b5 KQ.out.lt)
      have RH5 := Lib.hid (RH.out.upon b5)
      clear b5 zU v0 HFD
      obtain ⟨W6, hW6⟩ : ∃ W, w5.alloc (.cells #[.string ⟨#[]⟩, .string ⟨#[]⟩, .slice none 0 0, .slice none 0 0] 28) = W := ⟨_, rfl⟩
      obtain ⟨p, hp⟩ : ∃ b, w5.heap.size = b := ⟨_, rfl⟩
      have K6 : Hid (Bk W6 p 28 #[.string ⟨#[]⟩, .string ⟨#[]⟩, .slice none 0 0, .slice none 0 0]) := by rw [← hW6, ← hp]; exact Bk.new _ _ _
      have b6 : Below w5.heap.size w5 W6 := by rw [← hW6]; exact (Below.refl _ _).alloc (Nat.le_refl _) _
      have HPW : Hid (w5.heap.size ≤ p) := by rw [← hp]; exact Nat.le_refl _
      have z0 : W6.cell? ⟨p, 0, none⟩ = some (.string ⟨#[]⟩) := K6.out.cell 0
      have zf0 : W6.frozen? ⟨p, 0, none⟩ = false := K6.out.free 0
      have z1 : W6.cell? ⟨p, 1, none⟩ = some (.string ⟨#[]⟩) := K6.out.cell 1
      have zf1 : W6.frozen? ⟨p, 1, none⟩ = false := K6.out.free 1
      have z2 : W6.cell? ⟨p, 2, none⟩ = some (.slice none 0 0) := K6.out.cell 2
      have zf2 : W6.frozen? ⟨p, 2, none⟩ = false := K6.out.free 2
      have z3 : W6.cell? ⟨p, 3, none⟩ = some (.slice none 0 0) := K6.out.cell 3
      have zf3 : W6.frozen? ⟨p, 3, none⟩ = false := K6.out.free 3
      have B57 := Lib.hid (laidS4_below b6 HPW.out (.string ⟨#[]⟩) (.string ⟨#[]⟩) (.slice none 0 0) (.slice none 0 0))
      obtain ⟨w7, hw7⟩ : ∃ z, laidS4 W6 p (.string ⟨#[]⟩) (.string ⟨#[]⟩) (.slice none 0 0) (.slice none 0 0) = z := ⟨_, rfl⟩
      rw [hw7] at B57
      have B7 : Hid (Below w.heap.size w w7) := B5.out.trans (B57.out.mono B5.out.size)
      have HRT := Lib.hid (sright_any _ LL w7 (HO.out.below B7.out) (HT.out.below B7.out) (RH5.out.upon B57.out) HLE.out HSM.out)
      rw [HRG.out] at HRT
      have v7 : w7.cell? ⟨q, 0, none⟩ = some (.slice (some ⟨hb, 0, none⟩) 1 1) := (K5.out.below B57.out K5.out.lt).cell 0
      clear b6
      go_upto_region 34 with fail
      (try rw [hw7])
      clear hW6 hw7 hp z0 zf0 z1 zf1 z2 zf2 z3 zf3
      go_wp2_with fail
      refine HRT.out.mono ?_
      rintro e w8 ⟨rfl, b8⟩
      have B8 := Lib.hid (B7.out.trans (b8.mono B7.out.size))
      clear b8 v7
      go_wp2_with fail
      go_ret
      exact ⟨rfl, B8.out⟩
  · have hXz : (50 : Int) < (X.size : Int) := by omega
    go_enter Tryz.func5, Tryz.ntmps5
    go_wp2_with fail
    refine (one_any _).mono ?_
    rintro e w1 ⟨ib, pb, ub, hb, rfl, o1, b1⟩
    have B1 := Lib.hid b1
    obtain ⟨W1, hW1⟩ : ∃ W, w1.alloc (.cells #[.slice none 0 0] 24) = W := ⟨_, rfl⟩
    obtain ⟨q, hq⟩ : ∃ b, w1.heap.size = b := ⟨_, rfl⟩
    have K1 : Hid (Bk W1 q 24 #[.slice none 0 0]) := by rw [← hW1, ← hq]; exact Bk.new _ _ _
    have b11 : Below w1.heap.size w1 W1 := by rw [← hW1]; exact (Below.refl _ _).alloc (Nat.le_refl _) _
    have HQW : Hid (w1.heap.size ≤ q) := by rw [← hq]; exact Nat.le_refl _
    have z0 : W1.cell? ⟨q, 0, none⟩ = some (.slice none 0 0) := K1.out.cell 0
    have zf0 : W1.frozen? ⟨q, 0, none⟩ = false := K1.out.free 0
    have B12 := Lib.hid (laidS1_below b11 HQW.out (.slice (some ⟨hb, 0, none⟩) 1 1))
    obtain ⟨w2, hw2⟩ : ∃ z, laidS1 W1 q (.slice (some ⟨hb, 0, none⟩) 1 1) = z := ⟨_, rfl⟩
    rw [hw2] at B12
    have B2 : Hid (Below w.heap.size w w2) := B1.out.trans (B12.out.mono B1.out.size)
    have HAW := Lib.hid (fun W (hW : Below w.heap.size w W) => seaw_any W (HO.out.below hW) (HT.out.below hW))
    clear o1 b1 b11
    go_upto_region 2 with fail
    (try rw [hw2])
    clear hW1 hw2 z0 zf0 hq
    go_wp2_with fail
    refine (HAW.out w2 B2.out).mono ?_
    rintro e w3 ⟨rfl, b3⟩
    have B3 : Hid (Below w.heap.size w w3) := B2.out.trans (b3.mono B2.out.size)
    clear b3
    go_wp2_with fail
    refine (HAW.out w3 B3.out).mono ?_
    rintro e w4 ⟨rfl, b4⟩
    have B4 : Hid (Below w.heap.size w w4) := B3.out.trans (b4.mono B3.out.size)
    clear b4
    go_wp2_with fail
    go_ret
    exact ⟨rfl, B4.out⟩
end Go.Proofs.YtbgaglcgennhiaaGreatDoor
