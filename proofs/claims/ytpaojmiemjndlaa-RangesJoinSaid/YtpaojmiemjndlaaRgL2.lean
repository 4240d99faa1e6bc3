/-
  RangesJoin.
-/
import Derived.Test.YtpaojmiemjndlaaRgA
import Derived.Test.YtpaojmiemjndlaaReadD
import Derived.Test.YtpaojmiemjndlaaUint
namespace Go.Proofs.Ytpaojmiemjndlaa
open Go.RowKit Rg

/-- What spread makes: right ranges of small numbers. -/
def Small (l : List R) : Prop := rightB l = true ∧ l.length ≤ 30 ∧ ∀ r ∈ l, 0 ≤ r.1 ∧ r.1 ≤ 300 ∧ 0 ≤ r.2 ∧ r.2 ≤ 300
theorem Small.fits {l : List R} (h : Small l) : Fits l := fun r hr => by
  have := h.2.2 r hr
  unfold Fit
  omega

set_option maxHeartbeats 4000000 in
theorem spread_any (v : Value) (n : Nat) (w : World) (hv : ReadsZ w v n) (hn : n ≤ 9223372036854775807) :
    Calls Try.prog 17 #[v] w fun e w' => ∃ u l, e = .returned u ∧ OwnR w.heap.size w' u l ∧ Small l ∧ Below w.heap.size w w' := by
  obtain ⟨A, cap, rfl, hx⟩ := hv
  have HX := Lib.hid hx
  clear hx
  go_enter Try.func17, Try.ntmps17
  go_wp2_with fail
  go_loopw [3, 4, 5] (fun vo at_ i wr => ∃ (k j : Nat) (t : Int) (z : Value) (l : List R), vo = z ∧ at_ = .int .i64 t ∧ i = .int .i64 j ∧ j = k * 2 ∧ k ≤ 30 ∧ 0 ≤ t ∧ t ≤ 10 * k ∧ Below w.heap.size w wr ∧ Hid (OwnR w.heap.size wr z l) ∧ Hid (rightB l = true) ∧ Hid (l.length = k) ∧ Hid (∀ r ∈ l, 0 ≤ r.1 ∧ r.1 ≤ 300 ∧ 0 ≤ r.2 ∧ r.2 ≤ t)) (fun _ _ i _ => 60 - (intOf i).toNat)
  case atStart => exact ⟨0, 0, 0, _, [], rfl, rfl, rfl, rfl, by omega, by omega, by omega, Below.refl _ _, OwnR.nil _ _, rfl, rfl, fun r hr => by simp at hr⟩
  case round =>
    obtain ⟨k, j, t, z, l, hz, rfl, rfl, hj, hk, ht0, ht1, bw, ho, hr, hlen, hsm⟩ := hrel
    have hz2 := hz.symm
    clear hz
    subst hz2
    have hsw := bw.size
    by_cases hgo : j + 1 < n ∧ j < 60
    · obtain ⟨h1, h2⟩ := hgo
      have hjn : j < n := by omega
      obtain ⟨ad, rfl, hlb, hc⟩ := HX.out (by omega)
      obtain ⟨c, hc0⟩ := hc j hjn
      obtain ⟨d, hd0⟩ := hc (j + 1) h1
      rw [← bw.cell (p := ad.add j) (by rw [addBlock]; exact hlb)] at hc0
      rw [← bw.cell (p := ad.add (j + 1)) (by rw [addBlock]; exact hlb)] at hd0
      obtain ⟨p, hp, hpb⟩ := uintMod c 5 (by omega) (by omega)
      obtain ⟨q, hq, hqb⟩ := uintMod d 6 (by omega) (by omega)
      obtain ⟨P, hP⟩ : ∃ P : Int, (p : Int) = P := ⟨_, rfl⟩
      obtain ⟨Q, hQ⟩ : ∃ Q : Int, (q : Int) = Q := ⟨_, rfl⟩
      have hP0 : 0 ≤ P := by omega
      have hQ0 : 0 ≤ Q := by omega
      rw [hP] at hp hpb
      rw [hQ] at hq hqb
      clear hP hQ
      obtain ⟨O, co, rfl⟩ := ho.out.slice
      rw [hlen.out] at ho ⊢
      obtain ⟨L, hL⟩ : ∃ L, t + P + 1 = L := ⟨_, rfl⟩
      obtain ⟨H, hH⟩ : ∃ H, L + Q = H := ⟨_, rfl⟩
      obtain ⟨m, hm, hmj⟩ : ∃ m : Nat, (j : Int) + 1 = (m : Int) ∧ j + 1 = m := ⟨j + 1, by omega, rfl⟩
      rw [hmj] at hd0 h1
      have hk60 : k + 1 ≤ 30 := by omega
      have htb : t ≤ 300 := by omega
      have hr2 : Hid (rightB (l ++ [(L, H)]) = true) := Lib.hid (rightB_snoc hr.out (by show L ≤ H; omega) (fun r hr => by have := (hsm.out r hr).2.2.2; show r.2 < L; omega))
      have hsm2 : Hid (∀ r ∈ l ++ [(L, H)], 0 ≤ r.1 ∧ r.1 ≤ 300 ∧ 0 ≤ r.2 ∧ r.2 ≤ H) := Lib.hid (fun r hr => by
        rcases List.mem_append.1 hr with hr | hr
        · have := hsm.out r hr
          omega
        · obtain rfl := List.mem_singleton.1 hr
          refine ⟨?_, ?_, ?_, ?_⟩
          · show 0 ≤ L; omega
          · show L ≤ 300; omega
          · show 0 ≤ H; omega
          · show H ≤ H; omega)
      have hlen2 : Hid ((l ++ [(L, H)]).length = k + 1) := Lib.hid (by rw [List.length_append, hlen.out]; rfl)
      have hH2 : Hid (0 ≤ H ∧ H ≤ 10 * (k + 1 : Nat)) := Lib.hid (by omega)
      have hj2 : Hid (j + 2 = (k + 1) * 2) := Lib.hid (by omega)
      have HLN : Hid (l.length ≤ 1000000000000) := Lib.hid (by have := hlen.out; omega)
      have hjb : decide ((j : Int) < 60) = true := decide_eq_true (by omega)
      clear hj hmj hc
      go_wp2_with (at_builtin; refine push_rng rfl _ _ rfl w.heap.size (.slice O k co) l L H wr rfl ho.out rfl HLN.out hsw ?_)
      intro v2 w2 o2 b2
      have o2' := Lib.hid o2
      have b3 := bw.trans b2
      clear o2 b2
      go_wp2_with fail
      go_roundw
      case rel => exact ⟨k + 1, j + 2, H, _, l ++ [(L, H)], rfl, rfl, by go_num, hj2.out, hk60, hH2.out.1, hH2.out.2, b3, o2', hr2, hlen2, hsm2⟩
      case measure => simp [intOf]; omega
    · have hS : Hid (Small l) := Lib.hid ⟨hr.out, by have := hlen.out; omega, fun r hr => by
        have := hsm.out r hr
        have h2 : (k : Int) ≤ 30 := by omega
        omega⟩
      obtain ⟨O, co, rfl⟩ := ho.out.slice
      by_cases hj1 : j + 1 < n
      · have hjb : decide ((j : Int) < 60) = false := decide_eq_false (by omega)
        have hjp : ¬ (j < 60) := by omega
        clear hj
        go_wp2_with fail
        go_ret
        exact ⟨_, _, rfl, ho.out, hS.out, bw⟩
      · have hjc : j ≤ 60 := by omega
        have hj2 : ¬ ((j : Int) + 1 < n) := by omega
        clear hj
        go_wp2_with fail
        go_ret
        exact ⟨_, rfl, _, ho.out, hS.out, bw⟩

theorem join_in {a b : List R} (ha : rightB a = true) (hb : rightB b = true) (c : Int) : inL (joinL a b) c = (inL a c || inL b c) := by
  rcases joinL_is a b with ⟨_, _, _, h⟩ | ⟨h, _⟩
  · exact h c
  · exact absurd ⟨ha, hb⟩ h
theorem canon_next {l : List R} (h : Canon l) {m : Nat} {p q : R} (hp : l[m]? = some p) (hq : l[m + 1]? = some q) : p.2 + 1 < q.1 := by
  have h1 := List.getElem?_eq_some_iff.1 hp
  have h2 := List.getElem?_eq_some_iff.1 hq
  obtain ⟨h3, rfl⟩ := h1
  obtain ⟨h4, rfl⟩ := h2
  exact (List.pairwise_iff_getElem.1 h.2) m (m + 1) h3 h4 (by omega)

set_option maxHeartbeats 8000000 in
set_option maxRecDepth 100000 in
theorem rangesJoin_any (vx vy : Value) (n m : Nat) (w : World) (hx : ReadsZ w vx n) (hy : ReadsZ w vy m) (hn : n ≤ 9223372036854775807) (hm : m ≤ 9223372036854775807) : Calls Try.prog 4 #[vx, vy] w (Holds w) := by
  have HSX := Lib.hid (spread_any vx n w hx hn)
  have HSY := Lib.hid (fun W (h : Below w.heap.size w W) => spread_any vy m W (by
    obtain ⟨A, cap, e, h2⟩ := hy
    refine ⟨A, cap, e, fun h0 => ?_⟩
    obtain ⟨ad, e2, h3, h4⟩ := h2 h0
    refine ⟨ad, e2, Nat.lt_of_lt_of_le h3 h.size, fun i hi => ?_⟩
    obtain ⟨z, hz⟩ := h4 i hi
    exact ⟨z, by rw [h.cell (by rw [addBlock]; exact h3)]; exact hz⟩) hm)
  have HAW := Lib.hid awake_any
  obtain ⟨A, cap, rfl, _⟩ := hx
  obtain ⟨A', cap', rfl, _⟩ := hy
  go_enter Try.func4, Try.ntmps4
  go_wp2_with fail
  refine HSX.out.mono ?_
  rintro e w1 ⟨ua, a, rfl, oa, sa, b1⟩
  have OA := Lib.hid oa
  have SA := Lib.hid sa
  clear oa sa
  go_wp2_with fail
  refine (HSY.out w1 b1).mono ?_
  rintro e w2 ⟨ub, b, rfl, ob, sb, c⟩
  have b2 := b1.trans (c.mono b1.size)
  have OA2 : Hid (OwnR w.heap.size w2 ua a) := OA.out.below c
  have OB2 : Hid (OwnR w1.heap.size w2 ub b) := ob
  have SB := Lib.hid sb
  clear ob sb c OA HSX HSY b1
  have HJ := Lib.hid (fun W (h : Below w2.heap.size w2 W) => join_any ua ub a b W (OA2.out.below h).reads (OB2.out.below h).reads SA.out.fits SB.out.fits (by have := SA.out.2.1; omega) (by have := SB.out.2.1; omega))
  have HJ' := Lib.hid (fun W (h : Below w2.heap.size w2 W) => join_any ub ua b a W (OB2.out.below h).reads (OA2.out.below h).reads SB.out.fits SA.out.fits (by have := SB.out.2.1; omega) (by have := SA.out.2.1; omega))
  rw [joinL_symm b a] at HJ'
  have HIN := Lib.hid (fun c => join_in SA.out.1 SB.out.1 c)
  have HIA := Lib.hid (fun c W (h : Below w2.heap.size w2 W) => in_any ua a c W (OA2.out.below h).reads (by have := SA.out.2.1; omega))
  have HIB := Lib.hid (fun c W (h : Below w2.heap.size w2 W) => in_any ub b c W (OB2.out.below h).reads (by have := SB.out.2.1; omega))
  obtain ⟨J, hJ⟩ : ∃ J, joinL a b = J := ⟨_, rfl⟩
  have HC : Hid (Canon J) := by rw [← hJ]; exact joinL_canon a b
  have HF : Hid (Fits J) := by rw [← hJ]; exact joinL_fits SA.out.fits SB.out.fits
  have HR1 : rightB J = true := by rw [← hJ]; exact joinL_right a b
  have HLJ : Hid (J.length ≤ 60) := by rw [← hJ]; exact Nat.le_trans (joinL_length a b) (by have := SA.out.2.1; have := SB.out.2.1; omega)
  rw [hJ] at HJ HJ' HIN
  have hs2 := b2.size
  have B2 := Lib.hid b2
  clear hJ OA2 OB2 SA SB
  go_wp2_with fail
  refine (HJ.out w2 (Below.refl _ _)).mono ?_
  rintro e w3 ⟨uj, rfl, oj, b3⟩
  have OJ := Lib.hid oj
  have HRJ := Lib.hid (fun W (h : Below w3.heap.size w3 W) => right_any uj J W (OJ.out.below h).reads (by have := HLJ.out; omega))
  rw [HR1] at HRJ
  have HIJ := Lib.hid (fun c W (h : Below w3.heap.size w3 W) => in_any uj J c W (OJ.out.below h).reads (by have := HLJ.out; omega))
  have HPJ := Lib.hid (fun (B : Nat) v W (h : Below w3.heap.size w3 W) (o : OwnR B W v J) => plainR_any uj v J J W (OJ.out.below h).reads o.reads (by have := HLJ.out; omega) (by have := HLJ.out; omega))
  rw [decide_eq_true rfl] at HPJ
  clear oj HR1 HJ
  have hs3 := b3.size
  go_wp2_with fail
  refine (HAW.out w3).mono ?_
  rintro e w4 ⟨rfl, b4⟩
  have k4 := b3.trans (b4.mono hs3)
  go_wp2_with fail
  refine (HRJ.out w4 b4).mono ?_
  rintro e w5 ⟨rfl, c⟩
  have b5 := b4.trans (c.mono b4.size)
  have k5 := k4.trans (c.mono k4.size)
  clear c b4 k4
  go_wp2_with fail
  refine (HJ'.out w5 k5).mono ?_
  rintro e w6 ⟨vj, rfl, o6, c⟩
  have b6 := b5.trans (c.mono b5.size)
  have k6 := k5.trans (c.mono k5.size)
  have O6 := Lib.hid o6
  clear c b5 k5 o6
  go_wp2_with fail
  refine (HPJ.out _ vj w6 b6 O6.out).mono ?_
  rintro e w7 ⟨rfl, c⟩
  have b7 := b6.trans (c.mono b6.size)
  have k7 := k6.trans (c.mono k6.size)
  have HRD : Hid (ReadR w3.heap.size w7 uj J) := OJ.out.reads.below b7
  obtain ⟨Aj, cj, rfl⟩ := OJ.out.slice
  clear c b6 k6 O6 HJ' HPJ HRJ HAW
  have hLJ := HLJ.out
  have B7 : Hid (Below w.heap.size w w7) := B2.out.trans (k7.mono hs2)
  have K7 := Lib.hid k7
  have B37 := Lib.hid b7
  clear b7 k7 b2 b3
  go_wp2_with fail
  go_loopw [8] (fun i wr => ∃ (k d : Nat), 1 ≤ k ∧ k ≤ J.length + 1 ∧ i = .int .i64 k ∧ wr = w7.drewN d) (fun i _ => J.length + 1 - (intOf i).toNat)
  case atStart => exact ⟨1, 0, by omega, by omega, rfl, rfl⟩
  case round =>
    obtain ⟨k, d, hk1, hk2, rfl, rfl⟩ := hrel
    by_cases hlt : k < J.length
    · obtain ⟨m, hkm⟩ : ∃ m, k = m + 1 := ⟨k - 1, by omega⟩
      have hm : (k : Int) - 1 = (m : Int) := by omega
      have hml : m < J.length := by omega
      obtain ⟨A2, c2, e2, _, hx⟩ := HRD.out
      injection e2 with e3 e4 e5
      subst e3
      clear e4 e5
      obtain ⟨ad, rfl, hlb, hc⟩ := hx (by omega)
      obtain ⟨⟨q1, q2⟩, hq⟩ : ∃ r, J[k]? = some r := ⟨_, List.getElem?_eq_getElem hlt⟩
      obtain ⟨⟨p1, p2⟩, hp⟩ : ∃ r, J[m]? = some r := ⟨_, List.getElem?_eq_getElem hml⟩
      have c0 := (hc k _ hq).1
      have d1 := (hc m _ hp).2
      simp only at c0 d1
      have hq2 := hq
      rw [hkm] at hq2
      have hnx : p2 + 1 < q1 := canon_next HC.out hp hq2
      have hfq := (HF.out _ (List.mem_of_getElem? hq)).1
      have hfp := (HF.out _ (List.mem_of_getElem? hp)).2
      have hw : wrap64 (p2 + 1) = p2 + 1 := by
        unfold Fit at hfq hfp
        simp only at hfq hfp
        unfold wrap64
        omega
      have hb1 : (q1 == p2 + 1) = false := by simp; omega
      have hb2 : decide (q1 = p2 + 1) = false := by simp; omega
      have hkk : k + 1 ≤ J.length + 1 := by omega
      clear hq hp hq2 hnx hfq hfp hx hc hkm
      go_wp2_with fail
      go_big_quiet (fail)
      go_wp2_with fail
      go_roundw
      case rel => exact ⟨k + 1, _, by omega, hkk, by go_num, rfl⟩
      case measure => simp [intOf]; omega
    · have B8 : Hid (Below w.heap.size w (w7.drewN d)) := drewN_below B7.out d
      have K8 : Hid (Below w2.heap.size w2 (w7.drewN d)) := drewN_below K7.out d
      have B38 : Hid (Below w3.heap.size w3 (w7.drewN d)) := drewN_below B37.out d
      go_wp2_with fail
      go_loopw [9] (fun i wr => ∃ (c : Nat), c ≤ 400 ∧ i = .int .i64 c ∧ Below w.heap.size w wr ∧ Below w2.heap.size w2 wr ∧ Below w3.heap.size w3 wr) (fun i _ => 400 - (intOf i).toNat)
      case atStart => exact ⟨0, by omega, rfl, B8.out, K8.out, B38.out⟩
      case round =>
        obtain ⟨c, hc, rfl, bw, k2, k3⟩ := hrel
        by_cases hcl : c < 400
        · have hj := HIN.out (c : Int)
          have hsw := bw.size
          go_wp2_with fail
          refine (HIJ.out c wr k3).mono ?_
          rintro e v1 ⟨rfl, x1⟩
          have y1 := bw.trans (x1.mono hsw)
          have y2 := k2.trans (x1.mono k2.size)
          have y3 := k3.trans (x1.mono k3.size)
          clear x1
          cases hA : inL a c with
          | true =>
            rw [hA, Bool.true_or] at hj
            have HA1 := Lib.hid (HIA.out c v1 y2)
            rw [hA] at HA1
            clear hA
            go_wp2_with fail
            refine HA1.out.mono ?_
            rintro e v2 ⟨rfl, x2⟩
            have z1 := y1.trans (x2.mono y1.size)
            have z2 := y2.trans (x2.mono y2.size)
            have z3 := y3.trans (x2.mono y3.size)
            clear x2
            go_wp2_with fail
            go_roundw
            case rel => exact ⟨c + 1, by omega, by go_num, z1, z2, z3⟩
            case measure => simp [intOf]; omega
          | false =>
            rw [hA, Bool.false_or] at hj
            have HA1 := Lib.hid (HIA.out c v1 y2)
            rw [hA] at HA1
            obtain ⟨IB, hIB⟩ : ∃ IB, inL b c = IB := ⟨_, rfl⟩
            have HB1 := Lib.hid (fun W (h : Below w2.heap.size w2 W) => HIB.out c W h)
            rw [hIB] at HB1 hj
            have hq1 : (IB != IB) = false := by cases IB <;> rfl
            have hq2 : (IB == IB) = true := by cases IB <;> rfl
            clear hA hIB
            go_wp2_with fail
            refine HA1.out.mono ?_
            rintro e v2 ⟨rfl, x2⟩
            have z1 := y1.trans (x2.mono y1.size)
            have z2 := y2.trans (x2.mono y2.size)
            have z3 := y3.trans (x2.mono y3.size)
            clear x2
            go_wp2_with fail
            refine (HB1.out v2 z2).mono ?_
            rintro e v3 ⟨rfl, x3⟩
            have t1 := z1.trans (x3.mono z1.size)
            have t2 := z2.trans (x3.mono z2.size)
            have t3 := z3.trans (x3.mono z3.size)
            clear x3
            go_wp2_with fail
            go_roundw
            case rel => exact ⟨c + 1, by omega, by go_num, t1, t2, t3⟩
            case measure => simp [intOf]; omega
        · have hce : c = 400 := by omega
          subst hce
          go_wp2_with fail
          go_ret
          exact ⟨rfl, bw⟩
end Go.Proofs.Ytpaojmiemjndlaa
