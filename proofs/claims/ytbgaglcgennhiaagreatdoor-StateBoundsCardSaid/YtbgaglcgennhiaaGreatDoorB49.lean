import Derived.Test.YtbgaglcgennhiaaGreatDoorB46
import Derived.Test.YtbgaglcgennhiaaGreatDoorB48
import Derived.Test.YtbgaglcgennhiaaGreatDoorB38
/- what is reached of it -/
namespace Go.Proofs.YtbgaglcgennhiaaGreatDoor
open Go.RowKit Go.Sort Tx Vc Ct
/-- the state that the laws turn, in four blocks of its own -/
structure OneS (B : Nat) (W : World) (ib pb ub hb : Nat) : Prop where
  ki : Bk W ib 53 #[.string ⟨#[98, 64, 104]⟩, .string ⟨#[]⟩, .slice none 0 0, .int .i64 0, .bool false, .bool false, .string ⟨#[99, 64, 104]⟩, .string ⟨#[]⟩, .slice none 0 0, .int .i64 2, .bool false, .bool false]
  kp : Bk W pb 9 #[.string ⟨#[100, 64, 104]⟩]
  ku : Bk W ub 28 #[.string ⟨#[97]⟩, .string ⟨#[112]⟩, .slice (some ⟨ib, 0, none⟩) 2 2, .slice (some ⟨pb, 0, none⟩) 1 1]
  kh : Bk W hb 47 #[.string ⟨#[104]⟩, .slice (some ⟨ub, 0, none⟩) 1 1]
  low : B ≤ ib
  ip : ib < pb
  pu : pb < ub
  uh : ub < hb
theorem OneS.below {B : Nat} {W W' : World} {ib pb ub hb : Nat} (h : OneS B W ib pb ub hb) (hb' : Below W.heap.size W W') : OneS B W' ib pb ub hb := ⟨h.ki.below hb' h.ki.lt, h.kp.below hb' h.kp.lt, h.ku.below hb' h.ku.lt, h.kh.below hb' h.kh.lt, h.low, h.ip, h.pu, h.uh⟩
set_option maxHeartbeats 4000000 in
theorem one_any (w : World) : Calls Tryz.prog 28 #[] w fun e w' => ∃ ib pb ub hb, e = .returned (.agg #[.slice (some ⟨hb, 0, none⟩) 1 1]) ∧ OneS w.heap.size w' ib pb ub hb ∧ Below w.heap.size w w' := by
  obtain ⟨W0, hW0⟩ : ∃ W, w.alloc (.cells #[.slice none 0 0] 24) = W := ⟨_, rfl⟩
  obtain ⟨rb, hrb⟩ : ∃ b, w.heap.size = b := ⟨_, rfl⟩
  have K0 : Bk W0 rb 24 #[.slice none 0 0] := by rw [← hW0, ← hrb]; exact Bk.new _ _ _
  have z0 : W0.heap.size = rb + 1 := by rw [← hW0, World.size_alloc, hrb]
  have B0 : Below rb w W0 := by rw [← hW0, ← hrb]; exact (Below.refl _ _).alloc (Nat.le_refl _) _
  obtain ⟨ib, hib⟩ : ∃ b, rb + 1 = b := ⟨_, rfl⟩
  obtain ⟨pb, hpb⟩ : ∃ b, ib + 1 = b := ⟨_, rfl⟩
  obtain ⟨ub, hub⟩ : ∃ b, pb + 1 = b := ⟨_, rfl⟩
  obtain ⟨hb, hhb⟩ : ∃ b, ub + 1 = b := ⟨_, rfl⟩
  obtain ⟨W1, hW1⟩ : ∃ W, W0.alloc (.cells #[.string ⟨#[98, 64, 104]⟩, .string ⟨#[]⟩, .slice none 0 0, .int .i64 0, .bool false, .bool false, .string ⟨#[99, 64, 104]⟩, .string ⟨#[]⟩, .slice none 0 0, .int .i64 2, .bool false, .bool false] 53) = W := ⟨_, rfl⟩
  have s0 : W0.heap.size = ib := by rw [z0, hib]
  have K1 : Bk W1 ib 53 #[.string ⟨#[98, 64, 104]⟩, .string ⟨#[]⟩, .slice none 0 0, .int .i64 0, .bool false, .bool false, .string ⟨#[99, 64, 104]⟩, .string ⟨#[]⟩, .slice none 0 0, .int .i64 2, .bool false, .bool false] := by rw [← hW1, ← s0]; exact Bk.new _ _ _
  have z1 : W1.heap.size = ib + 1 := by rw [← hW1, World.size_alloc, s0]
  have B1 : Below rb w W1 := by rw [← hW1]; exact B0.alloc (by omega) _
  obtain ⟨W2, hW2⟩ : ∃ W, W1.alloc (.cells #[.string ⟨#[100, 64, 104]⟩] 9) = W := ⟨_, rfl⟩
  have s1 : W1.heap.size = pb := by rw [z1, hpb]
  have K2 : Bk W2 pb 9 #[.string ⟨#[100, 64, 104]⟩] := by rw [← hW2, ← s1]; exact Bk.new _ _ _
  have z2 : W2.heap.size = pb + 1 := by rw [← hW2, World.size_alloc, s1]
  have B2 : Below rb w W2 := by rw [← hW2]; exact B1.alloc (by omega) _
  obtain ⟨W3, hW3⟩ : ∃ W, W2.alloc (.cells #[.string ⟨#[97]⟩, .string ⟨#[112]⟩, .slice (some ⟨ib, 0, none⟩) 2 2, .slice (some ⟨pb, 0, none⟩) 1 1] 28) = W := ⟨_, rfl⟩
  have s2 : W2.heap.size = ub := by rw [z2, hub]
  have K3 : Bk W3 ub 28 #[.string ⟨#[97]⟩, .string ⟨#[112]⟩, .slice (some ⟨ib, 0, none⟩) 2 2, .slice (some ⟨pb, 0, none⟩) 1 1] := by rw [← hW3, ← s2]; exact Bk.new _ _ _
  have z3 : W3.heap.size = ub + 1 := by rw [← hW3, World.size_alloc, s2]
  have B3 : Below rb w W3 := by rw [← hW3]; exact B2.alloc (by omega) _
  obtain ⟨W4, hW4⟩ : ∃ W, W3.alloc (.cells #[.string ⟨#[104]⟩, .slice (some ⟨ub, 0, none⟩) 1 1] 47) = W := ⟨_, rfl⟩
  have s3 : W3.heap.size = hb := by rw [z3, hhb]
  have K4 : Bk W4 hb 47 #[.string ⟨#[104]⟩, .slice (some ⟨ub, 0, none⟩) 1 1] := by rw [← hW4, ← s3]; exact Bk.new _ _ _
  have z4 : W4.heap.size = hb + 1 := by rw [← hW4, World.size_alloc, s3]
  have B4 : Below rb w W4 := by rw [← hW4]; exact B3.alloc (by omega) _
  have k0 : Bk W4 rb 24 #[.slice none 0 0] := by rw [← hW4, ← hW3, ← hW2, ← hW1]; exact (((K0.alloc _).alloc _).alloc _).alloc _
  have k1 : Bk W4 ib 53 #[.string ⟨#[98, 64, 104]⟩, .string ⟨#[]⟩, .slice none 0 0, .int .i64 0, .bool false, .bool false, .string ⟨#[99, 64, 104]⟩, .string ⟨#[]⟩, .slice none 0 0, .int .i64 2, .bool false, .bool false] := by rw [← hW4, ← hW3, ← hW2]; exact ((K1.alloc _).alloc _).alloc _
  have k2 : Bk W4 pb 9 #[.string ⟨#[100, 64, 104]⟩] := by rw [← hW4, ← hW3]; exact (K2.alloc _).alloc _
  have k3 : Bk W4 ub 28 #[.string ⟨#[97]⟩, .string ⟨#[112]⟩, .slice (some ⟨ib, 0, none⟩) 2 2, .slice (some ⟨pb, 0, none⟩) 1 1] := by rw [← hW4]; exact K3.alloc _
  have c0 : W4.cell? ⟨rb, 0, none⟩ = some (.slice none 0 0) := k0.cell 0
  have f0 : W4.frozen? ⟨rb, 0, none⟩ = false := k0.free 0
  have R5 := Lib.hid (laidS1_bk k0 (.slice (some ⟨hb, 0, none⟩) 1 1))
  have B5 : Hid (Below w.heap.size w (laidS1 W4 rb (.slice (some ⟨hb, 0, none⟩) 1 1))) := laidS1_below (by rw [hrb]; exact B4) (by omega) _
  have O5 : Hid (OneS w.heap.size (laidS1 W4 rb (.slice (some ⟨hb, 0, none⟩) 1 1)) ib pb ub hb) :=
    ⟨k1.far (p := ⟨rb, 0, none⟩) (by show ib ≠ rb; omega) _, k2.far (p := ⟨rb, 0, none⟩) (by show pb ≠ rb; omega) _, k3.far (p := ⟨rb, 0, none⟩) (by show ub ≠ rb; omega) _, K4.far (p := ⟨rb, 0, none⟩) (by show hb ≠ rb; omega) _, by omega, by omega, by omega, by omega⟩
  obtain ⟨w5, hw5⟩ : ∃ z, laidS1 W4 rb (.slice (some ⟨hb, 0, none⟩) 1 1) = z := ⟨_, rfl⟩
  rw [hw5] at R5 B5 O5
  clear k0 k1 k2 k3 K0 K1 K2 K3 K4 B0 B1 B2 B3 B4
  go_enter Tryz.func28, Tryz.ntmps28
  go_wp2_with fail
  (try rw [hw5])
  have j0 : w5.cell? ⟨rb, 0, none⟩ = some (.slice (some ⟨hb, 0, none⟩) 1 1) := R5.out.cell 0
  refine bodyPost_ret (v := .agg #[.slice (some ⟨hb, 0, none⟩) 1 1]) (by simp [results, Tryz.results28, go_sem, j0]) rfl ?_
  exact ⟨ib, pb, ub, hb, rfl, O5.out, B5.out⟩
/-- the one user, host -/
def uOne (ib pb : Nat) : Usr := oneU [97] [112] [98, 64, 104] [99, 64, 104] false [[100, 64, 104]] (none, 0, 0) (none, 0, 0) (some ⟨ib, 0, none⟩, 2, 2) (some ⟨pb, 0, none⟩, 1, 1)
def hOne (ib pb ub : Nat) : Hst := ⟨[104], [uOne ib pb], (some ⟨ub, 0, none⟩, 1, 1)⟩
theorem noG_two (a b : Itm) (ha : a.groups = []) (hb : b.groups = []) : NoG [(a, none, 0, 0), (b, none, 0, 0)] := fun p hp => by
  rcases List.mem_cons.1 hp with rfl | hp
  · exact ⟨ha, rfl⟩
  · obtain rfl := List.mem_singleton.1 hp
    exact ⟨hb, rfl⟩
theorem OneS.reads {B : Nat} {W : World} {ib pb ub hb : Nat} (h : OneS B W ib pb ub hb) : ReadH W (.slice (some ⟨hb, 0, none⟩) 1 1) [hOne ib pb ub] := by
  have rI : RowB encIS 6 53 W ib (uOne ib pb).items := rowB_bk h.ki rfl (fun _ => rfl)
  have rP : RowB encT 1 9 W pb (uOne ib pb).pend := rowB_bk h.kp rfl (fun _ => rfl)
  have rU : RowB encU 4 28 W ub [uOne ib pb] := rowB_bk h.ku rfl (fun _ => rfl)
  have rH : RowB encH 2 47 W hb [hOne ib pb ub] := rowB_bk h.kh rfl (fun _ => rfl)
  refine ⟨rH.row rH.lt 1 1 rfl, fun x hx => ?_⟩
  obtain rfl := List.mem_singleton.1 hx
  refine ⟨rU.row rU.lt 1 1 rfl, fun u hu => ?_⟩
  obtain rfl := List.mem_singleton.1 hu
  exact ⟨readI_bare (rI.row rI.lt 2 2 rfl) (noG_two _ _ rfl rfl), readT_row (rP.row rP.lt 1 1 rfl)⟩
theorem smI_se (j : List UInt8) (s : Int) (a b : Bool) (hj : j.length ≤ 1000) : SmI (seI j s a b) := ⟨Nat.le_trans hj (by decide), Nat.zero_le _, Nat.zero_le _, fun g hg => absurd hg (by simp [seI])⟩
theorem smU_one (n pw j0 j1 : List UInt8) (app : Bool) (ps : List (List UInt8)) (q0 q1 iv pv : Slc) (h1 : n.length ≤ 1000) (h2 : pw.length ≤ 1000) (h3 : j0.length ≤ 1000) (h4 : j1.length ≤ 1000) (h5 : ps.length ≤ 1000) (h6 : ∀ t ∈ ps, t.length ≤ 1000) : SmU (oneU n pw j0 j1 app ps q0 q1 iv pv) := by
  refine ⟨Nat.le_trans h1 (by decide), Nat.le_trans h2 (by decide), by simp [oneU], fun p hp => ?_, Nat.le_trans h5 (by decide), fun t ht => Nat.le_trans (h6 t ht) (by decide)⟩
  have hp2 : p ∈ [(seI j0 0 false false, q0), (seI j1 2 false app, q1)] := hp
  rcases List.mem_cons.1 hp2 with rfl | hp2
  · exact smI_se _ _ _ _ h3
  · obtain rfl := List.mem_singleton.1 hp2
    exact smI_se _ _ _ _ h4
theorem smH_one (ib pb ub : Nat) : ∀ h ∈ [hOne ib pb ub], SmH h := fun h hh => by
  obtain rfl := List.mem_singleton.1 hh
  refine ⟨by simp [hOne], by simp [hOne], fun u hu => ?_⟩
  have hu2 : u ∈ [uOne ib pb] := hu
  obtain rfl := List.mem_singleton.1 hu2
  exact smU_one _ _ _ _ _ _ _ _ _ _ (by decide) (by decide) (by decide) (by decide) (by decide) (fun t ht => by obtain rfl := List.mem_singleton.1 ht; decide)
theorem first_one {ib pb ub i k : Nat} {s : List UInt8} {h : Hst} {u : Usr} (hf : FirstU [hOne ib pb ub] s i k h u) : i = 0 ∧ k = 0 ∧ h = hOne ib pb ub ∧ u = uOne ib pb := by
  have hi := (List.getElem?_eq_some_iff.1 hf.host).1
  obtain rfl : i = 0 := by simpa using hi
  obtain rfl : hOne ib pb ub = h := by simpa using hf.host
  have hk := (List.getElem?_eq_some_iff.1 hf.user).1
  obtain rfl : k = 0 := by simpa [hOne] using hk
  exact ⟨rfl, rfl, rfl, by simpa [hOne] using hf.user.symm⟩
theorem not_no {ib pb ub : Nat} : ¬ NoU [hOne ib pb ub] [97, 64, 104] := fun h => h _ List.mem_cons_self _ List.mem_cons_self rfl
theorem one_list {α : Type} {l : List α} (h : l.length = 1) : ∃ x, l = [x] := List.length_eq_one_iff.1 h
/-- what awake sees of what was put -/
theorem put_one {ib pb ub : Nat} {u : Usr} {l' : List Hst} (hu : u = ⟨[], [113], [], (none, 0, 0), [], (none, 0, 0)⟩) (h : l'.map plH = putP [hOne ib pb ub] 0 0 (hOne ib pb ub) (uOne ib pb) u) : ∃ h' u', l' = [h'] ∧ h'.users = [u'] ∧ u'.name = [97] ∧ u'.pw = [113] := by
  subst hu
  have hl : l'.length = 1 := by
    have := congrArg List.length h
    simpa [putP] using this
  obtain ⟨h', rfl⟩ := one_list hl
  have h2 : plH h' = ([104], [([97], [113], [], [])]) := by
    have : [plH h'] = [([104], [([97], [113], [], [])])] := h
    exact (List.cons.inj this).1
  have h3 : h'.users.map plU = [([97], [113], [], [])] := congrArg Prod.snd h2
  have hl2 : h'.users.length = 1 := by
    have := congrArg List.length h3
    simpa using this
  obtain ⟨u', hu'⟩ := one_list hl2
  rw [hu'] at h3
  have h4 : plU u' = ([97], [113], [], []) := (List.cons.inj h3).1
  exact ⟨h', u', rfl, hu', congrArg Prod.fst h4, congrArg (fun z => z.2.1) h4⟩
set_option maxHeartbeats 8000000 in
set_option maxRecDepth 100000 in
theorem seaw_any (w : World) (hO : Okw w) (hT : Tabs w) : Calls Tryz.prog 11 #[] w fun e w' => e = .returned (.bool true) ∧ Below w.heap.size w w' := by
  have HO := Lib.hid hO
  have HT := Lib.hid hT
  clear hO hT
  go_enter Tryz.func11, Tryz.ntmps11
  go_wp2_with fail
  refine (one_any _).mono ?_
  rintro e w1 ⟨ib, pb, ub, hb, rfl, o1, b1⟩
  have B1 := Lib.hid b1
  have HF1 := Lib.hid (sfind_any (.slice (some ⟨hb, 0, none⟩) 1 1) [hOne ib pb ub] [97, 64, 104] w1 o1.reads (by simp) (smH_one ib pb ub) (by simp))
  clear b1 o1
  go_wp2_with fail
  refine HF1.out.mono ?_
  rintro e w2 ⟨b2, h2⟩
  have B2 := Lib.hid (B1.out.trans (b2.mono B1.out.size))
  clear b2
  rcases h2 with ⟨hno, _⟩ | ⟨i, k, h, u, y, hf, rfl, hpl, _⟩
  · exact absurd hno not_no
  obtain ⟨_, _, _, rfl⟩ := first_one hf
  clear hf
  have hpw : y.pw = [112] := congrArg (fun z => z.2.1) hpl
  clear hpl
  obtain ⟨yj, ym, yis, ⟨A2, n2, c2⟩, yps, ⟨D2, m2, d2⟩⟩ := y
  have hpw2 : ym = [112] := hpw
  subst hpw2
  obtain ⟨YJ, hYJ⟩ : ∃ J, bts yj = J := ⟨_, rfl⟩
  have eY : (encU (⟨yj, [112], yis, ⟨A2, n2, c2⟩, yps, ⟨D2, m2, d2⟩⟩ : Usr)).toArray = #[.string YJ, .string ⟨#[112]⟩, .slice A2 n2 c2, .slice D2 m2 d2] := by rw [← hYJ]; rfl
  rw [eY]
  clear eY hYJ hpw
  obtain ⟨W3, hW3⟩ : ∃ W, w2.alloc (.cells #[.string ⟨#[]⟩, .string ⟨#[]⟩, .slice none 0 0, .slice none 0 0] 28) = W := ⟨_, rfl⟩
  obtain ⟨p, hp⟩ : ∃ b, w2.heap.size = b := ⟨_, rfl⟩
  have K3 : Hid (Bk W3 p 28 #[.string ⟨#[]⟩, .string ⟨#[]⟩, .slice none 0 0, .slice none 0 0]) := by rw [← hW3, ← hp]; exact Bk.new _ _ _
  have b3 : Below w2.heap.size w2 W3 := by rw [← hW3]; exact (Below.refl _ _).alloc (Nat.le_refl _) _
  have HPW : Hid (w2.heap.size ≤ p) := by rw [← hp]; exact Nat.le_refl _
  have z0 : W3.cell? ⟨p, 0, none⟩ = some (.string ⟨#[]⟩) := K3.out.cell 0
  have zf0 : W3.frozen? ⟨p, 0, none⟩ = false := K3.out.free 0
  have z1 : W3.cell? ⟨p, 1, none⟩ = some (.string ⟨#[]⟩) := K3.out.cell 1
  have zf1 : W3.frozen? ⟨p, 1, none⟩ = false := K3.out.free 1
  have z2 : W3.cell? ⟨p, 2, none⟩ = some (.slice none 0 0) := K3.out.cell 2
  have zf2 : W3.frozen? ⟨p, 2, none⟩ = false := K3.out.free 2
  have z3 : W3.cell? ⟨p, 3, none⟩ = some (.slice none 0 0) := K3.out.cell 3
  have zf3 : W3.frozen? ⟨p, 3, none⟩ = false := K3.out.free 3
  have K4 := Lib.hid (laidS4_bk K3.out (.string YJ) (.string ⟨#[112]⟩) (.slice A2 n2 c2) (.slice D2 m2 d2))
  have B34 := Lib.hid (laidS4_below b3 HPW.out (.string YJ) (.string ⟨#[112]⟩) (.slice A2 n2 c2) (.slice D2 m2 d2))
  obtain ⟨w4, hw4⟩ : ∃ z, laidS4 W3 p (.string YJ) (.string ⟨#[112]⟩) (.slice A2 n2 c2) (.slice D2 m2 d2) = z := ⟨_, rfl⟩
  rw [hw4] at K4 B34
  have B4 : Hid (Below w.heap.size w w4) := B2.out.trans (B34.out.mono B2.out.size)
  clear b3
  go_upto_region 2 with fail
  (try rw [hw4])
  clear hW3 hw4 z0 zf0 z1 zf1 z2 zf2 z3 zf3 hp
  go_wp2_with fail
  refine (one_any _).mono ?_
  rintro e w5 ⟨ib2, pb2, ub2, hb2, rfl, o5, b5⟩
  have B5 : Hid (Below w.heap.size w w5) := B4.out.trans (b5.mono B4.out.size)
  have K5 := Lib.hid (K4.out.below b5 K4.out.lt)
  have HP5 := Lib.hid (sput_any (.slice (some ⟨hb2, 0, none⟩) 1 1) [hOne ib2 pb2 ub2] [97, 64, 104] ⟨[], [113], [], (none, 0, 0), [], (none, 0, 0)⟩ w5 o5.reads (by simp) (smH_one ib2 pb2 ub2) (by simp)
    ⟨readI_bare ⟨none, 0, rfl, fun h => absurd h (by simp)⟩ (fun p hp => absurd hp (by simp)), readT_nil w5 _ 0⟩ ⟨by simp, by simp, by simp, fun p hp => absurd hp (by simp), by simp, fun p hp => absurd hp (by simp)⟩)
  have eU : (encU (⟨[], [113], [], (none, 0, 0), [], (none, 0, 0)⟩ : Usr)).toArray = #[.string ⟨#[]⟩, .string ⟨#[113]⟩, .slice none 0 0, .slice none 0 0] := rfl
  rw [eU] at HP5
  clear b5 o5 eU
  go_wp2_with fail
  refine HP5.out.mono ?_
  rintro e w6 ⟨b6, A, n, c, l', hr6, h6⟩
  have B6 : Hid (Below w.heap.size w w6) := B5.out.trans (b6.mono B5.out.size)
  have K6 := Lib.hid (K5.out.below b6 K5.out.lt)
  clear b6
  rcases h6 with ⟨hno, _⟩ | ⟨i, k, h, u, hf, rfl, hpl⟩
  · exact absurd hno not_no
  obtain ⟨rfl, rfl, rfl, rfl⟩ := first_one hf
  obtain ⟨h', u', rfl, hus, hn1, hn2⟩ := put_one rfl hpl
  obtain ⟨⟨AA, cap, hv, hcA⟩, hU6⟩ := hr6
  have hv2 : Value.slice A n c = .slice AA 1 cap := hv
  injection hv2 with v1 v2 v3
  subst v1 v2 v3
  obtain ⟨gb, go, rfl, hgb, hgc⟩ := hcA (by simp)
  have hcell1 := hgc 0 h' rfl 1 _ rfl
  have hU7 := hU6 h' List.mem_cons_self
  obtain ⟨⟨AU, capU, hvU, hcU⟩, _⟩ := hU7
  rw [hus] at hvU hcU
  obtain ⟨xb, xo, rfl, hxb, hxc⟩ := hcU (by simp)
  have hx0 := hxc 0 u' rfl 0 _ rfl
  have hx1 := hxc 0 u' rfl 1 _ rfl
  rw [hvU] at hcell1
  have hg1 : Hid (w6.cell? ⟨gb, go + 1, none⟩ = some (.slice (some ⟨xb, xo, none⟩) 1 capU)) := by
    have e : go + 0 * 2 + 1 = go + 1 := by omega
    rw [e] at hcell1
    exact hcell1
  have hg2 : Hid (w6.cell? ⟨xb, xo, none⟩ = some (.string ⟨#[97]⟩)) := by
    have e : xo + 0 * 4 + 0 = xo := by omega
    rw [e, hn1] at hx0
    exact hx0
  have hg3 : Hid (w6.cell? ⟨xb, xo + 1, none⟩ = some (.string ⟨#[113]⟩)) := by
    have e : xo + 0 * 4 + 1 = xo + 1 := by omega
    rw [e, hn2] at hx1
    exact hx1
  have HLT : Hid (gb < w6.heap.size ∧ xb < w6.heap.size) := ⟨hgb, hxb⟩
  clear hf hpl hv hcA hU6 hgc hcell1 hvU hcU hxc hx0 hx1 hus hn1 hn2 hgb hxb HF1 HP5
  obtain ⟨W7, hW7⟩ : ∃ W, w6.alloc (.cells #[.slice none 0 0] 24) = W := ⟨_, rfl⟩
  obtain ⟨q, hq⟩ : ∃ b, w6.heap.size = b := ⟨_, rfl⟩
  have K7 : Hid (Bk W7 q 24 #[.slice none 0 0]) := by rw [← hW7, ← hq]; exact Bk.new _ _ _
  have b7 : Below w6.heap.size w6 W7 := by rw [← hW7]; exact (Below.refl _ _).alloc (Nat.le_refl _) _
  have HQW : Hid (w6.heap.size ≤ q) := by rw [← hq]; exact Nat.le_refl _
  have z0 : W7.cell? ⟨q, 0, none⟩ = some (.slice none 0 0) := K7.out.cell 0
  have zf0 : W7.frozen? ⟨q, 0, none⟩ = false := K7.out.free 0
  have K8 := Lib.hid (laidS1_bk K7.out (.slice (some ⟨gb, go, none⟩) 1 c))
  have B68 := Lib.hid (laidS1_below b7 HQW.out (.slice (some ⟨gb, go, none⟩) 1 c))
  obtain ⟨w8, hw8⟩ : ∃ z, laidS1 W7 q (.slice (some ⟨gb, go, none⟩) 1 c) = z := ⟨_, rfl⟩
  rw [hw8] at K8 B68
  have B8 : Hid (Below w.heap.size w w8) := B6.out.trans (B68.out.mono B6.out.size)
  have KU8 := Lib.hid (K6.out.below B68.out K6.out.lt)
  clear b7
  go_upto_region 3 with fail
  (try rw [hw8])
  clear hW7 hw8 z0 zf0 hq
  go_wp2_with fail
  refine (one_any _).mono ?_
  rintro e w9 ⟨ib3, pb3, ub3, hb3, rfl, o9, b9⟩
  have B9 : Hid (Below w.heap.size w w9) := B8.out.trans (b9.mono B8.out.size)
  have HR9 := Lib.hid (sright_any (.slice (some ⟨hb3, 0, none⟩) 1 1) [hOne ib3 pb3 ub3] w9 (HO.out.below B9.out) (HT.out.below B9.out) o9.reads (by simp) (smH_one ib3 pb3 ub3))
  have hro : rightS [hOne ib3 pb3 ub3] = true := se_one_right _ _ _ _ _
  rw [hro] at HR9
  have HB89 := Lib.hid b9
  clear b9 o9 hro
  go_wp2_with fail
  refine HR9.out.mono ?_
  rintro e w10 ⟨rfl, b10⟩
  have B10 : Hid (Below w.heap.size w w10) := B9.out.trans (b10.mono B9.out.size)
  have B810 : Below w8.heap.size w8 w10 := HB89.out.trans (b10.mono HB89.out.size)
  have B610 : Below w6.heap.size w6 w10 := B68.out.trans (B810.mono B68.out.size)
  have e1 : w10.cell? ⟨p, 1, none⟩ = some (.string ⟨#[112]⟩) := (KU8.out.below B810 KU8.out.lt).cell 1
  have e2 : w10.cell? ⟨q, 0, none⟩ = some (.slice (some ⟨gb, go, none⟩) 1 c) := (K8.out.below B810 K8.out.lt).cell 0
  have e3 : w10.cell? ⟨gb, go + 1, none⟩ = some (.slice (some ⟨xb, xo, none⟩) 1 capU) := by rw [B610.cell (p := ⟨gb, go + 1, none⟩) HLT.out.1]; exact hg1.out
  have e4 : w10.cell? ⟨xb, xo, none⟩ = some (.string ⟨#[97]⟩) := by rw [B610.cell (p := ⟨xb, xo, none⟩) HLT.out.2]; exact hg2.out
  have e5 : w10.cell? ⟨xb, xo + 1, none⟩ = some (.string ⟨#[113]⟩) := by rw [B610.cell (p := ⟨xb, xo + 1, none⟩) HLT.out.2]; exact hg3.out
  clear b10 B810 B610
  go_wp2_with fail
  go_ret
  exact ⟨rfl, B10.out⟩
end Go.Proofs.YtbgaglcgennhiaaGreatDoor
