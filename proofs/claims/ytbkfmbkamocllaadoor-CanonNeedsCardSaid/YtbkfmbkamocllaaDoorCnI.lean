/-
  slices.Index at numbers; package canon: nested.
-/
import Derived.Test.YtbkfmbkamocllaaDoorCnM
import Derived.Deep.Slices
namespace Go.Proofs.YtbkfmbkamocllaaDoor
open Go.RowKit Tk Tr Cn

theorem posV_hit {p : Int} {x : List Nat} {k : Nat} (h : k < x.length) (hp : ((x.getD k 0 : Nat) : Int) = p) (hno : ∀ j, j < k → ((x.getD j 0 : Nat) : Int) ≠ p) : posV p x = (k : Int) := by
  have hk : x[k]? = some (x.getD k 0) := by rw [List.getD_eq_getElem?_getD, List.getElem?_eq_getElem h]; rfl
  have := posI_some hk hp (fun j b hj hb => by
    have := hno j hj
    rwa [List.getD_eq_getElem?_getD, hb] at this)
  unfold posV
  rw [this]
theorem posV_miss {p : Int} {x : List Nat} (hno : ∀ j, j < x.length → ((x.getD j 0 : Nat) : Int) ≠ p) : posV p x = -1 := by
  have : posI p x = none := by
    rw [posI_none]
    intro a ha
    obtain ⟨j, hj, rfl⟩ := List.getElem_of_mem ha
    have := hno j hj
    rwa [List.getD_eq_getElem?_getD, List.getElem?_eq_getElem hj] at this
  unfold posV
  rw [this]
set_option maxHeartbeats 1000000 in
theorem index_any (v : Value) (x : List Nat) (p : Int) (w : World) (hv : Reads w.heap.size w v x) (hl : x.length ≤ 1000000) :
    Calls Tryd.prog 29 #[v, .int .i64 p] w fun e w' => e = .returned (.int .i64 (posV p x)) ∧ w' = w := by
  obtain ⟨A, cap, rfl, hx⟩ := hv
  have HX := Lib.hid hx
  have HH := Lib.hid (fun (k : Nat) (h : k < x.length) h2 h3 => posV_hit (p := p) h h2 h3)
  have HM := Lib.hid (fun h => posV_miss (p := p) (x := x) h)
  clear hx
  go_enter Tryd.func29, Tryd.ntmps29
  go_wp2_with fail
  go_loop [8] (fun i => ∃ (k : Nat), k ≤ x.length ∧ i = .int .i64 k ∧ Hid (∀ j, j < k → ((x.getD j 0 : Nat) : Int) ≠ p)) (fun i => x.length - (intOf i).toNat)
  case atStart => exact ⟨0, Nat.zero_le _, rfl, Lib.hid (fun j h => absurd h (Nat.not_lt_zero _))⟩
  case round =>
    obtain ⟨k, hk, rfl, hno⟩ := hrel
    by_cases hlt : k < x.length
    · obtain ⟨ad, rfl, hlb, hc⟩ := HX.out (by omega)
      have c0 := hc k hlt
      obtain ⟨c, hcx⟩ : ∃ c, x.getD k 0 = c := ⟨_, rfl⟩
      rw [hcx] at c0
      have HC := Lib.hid hcx
      obtain ⟨z, hz⟩ : ∃ z : Int, ((c : Nat) : Int) = z := ⟨_, rfl⟩
      rw [hz] at c0
      have HZ := Lib.hid hz
      clear hc hcx hz
      by_cases hq : p = z
      · have hf := Lib.hid (HH.out k hlt (by rw [HC.out, HZ.out]; exact hq.symm) hno.out)
        have gq : (p == z) = true := by simpa using hq
        clear hq
        go_wp2_with fail
        go_ret
        exact ⟨by rw [hf.out]; rfl, rfl⟩
      · have hno2 : Hid (∀ j, j < k + 1 → ((x.getD j 0 : Nat) : Int) ≠ p) := Lib.hid (fun j hj => by
          rcases Nat.lt_or_ge j k with h | h
          · exact hno.out j h
          · obtain rfl : j = k := by omega
            rw [HC.out, HZ.out]
            exact fun e => hq e.symm)
        have gq : (p == z) = false := by simpa using hq
        clear hq
        go_wp2_with fail
        go_round
        case rel => exact ⟨k + 1, by omega, by go_num, hno2⟩
        case measure => simp [intOf]; omega
    · have hke : k = x.length := by omega
      have hf := Lib.hid (HM.out (fun j hj => hno.out j (by omega)))
      clear hke
      go_wp2_with fail
      go_ret
      exact ⟨by rw [hf.out]; rfl, rfl⟩
theorem nest_none {ns : List Nd} {o : List Nat} {i : Nat} {x : Nd} {l : List Nd} (h : posI x.1 o = none) : nestF ns o i (x :: l) = false := by unfold nestF; rw [h]
theorem nest_bad {ns : List Nd} {o : List Nat} {i k : Nat} {x : Nd} {l : List Nd} (h : posI x.1 o = some k) (h2 : k + 1 = 12 ∨ textAt ns x.1.toNat ≠ []) : nestF ns o i (x :: l) = false := by unfold nestF; rw [h]; simp only; rw [if_pos h2]
theorem nest_good {ns : List Nd} {o : List Nat} {i k : Nat} {x : Nd} {l : List Nd} (h : posI x.1 o = some k) (h2 : ¬(k + 1 = 12 ∨ textAt ns x.1.toNat ≠ [])) : nestF ns o i (x :: l) = nestF ns (o.take (k + 1) ++ [i + 1]) (i + 1) l := by rw [nestF, h]; simp only; rw [if_neg h2]
theorem posV_none {p : Int} {o : List Nat} (h : posI p o = none) : posV p o = -1 := by unfold posV; rw [h]
theorem posV_some {p : Int} {o : List Nat} {k : Nat} (h : posI p o = some k) : posV p o = k := by unfold posV; rw [h]
set_option maxHeartbeats 4000000 in
set_option maxRecDepth 100000 in
theorem nested_any (v : Value) (ns : List Nd) (w : World) (hv : ReadM w v ns) (h0 : 0 < ns.length) (hl : ns.length ≤ 1000000) :
    Calls Tryd.prog 15 #[v] w fun e w' => e = .returned (.bool (nestB ns)) ∧ Below w.heap.size w w' := by
  obtain ⟨A, cap, rfl, hcap, hmax, hx⟩ := hv
  obtain ⟨ad, rfl, hlb, hc⟩ := hx h0
  have HX := Lib.hid hc
  obtain ⟨n, hn⟩ : ∃ n, ns.length = n + 1 := ⟨ns.length - 1, by omega⟩
  have HN := Lib.hid hn
  obtain ⟨x0, hx0⟩ : ∃ x, ns[0]? = some x := ⟨_, List.getElem?_eq_getElem (by omega)⟩
  obtain ⟨u0, hat0, -⟩ := hc 0 x0 hx0
  have HA0 := Lib.hid hat0
  obtain ⟨Y, hY⟩ : ∃ Y, w.heap.size = Y := ⟨_, rfl⟩
  obtain ⟨W1, hW1⟩ : ∃ W1, w.alloc (.cells #[.int .i64 0] 3) = W1 := ⟨_, rfl⟩
  have HB1 : Hid (Below w.heap.size w W1) := by rw [← hW1]; exact (Below.refl _ _).alloc (Nat.le_refl _) _
  have HO1 : Hid (Owned w.heap.size W1 (.slice (some ⟨Y, 0, none⟩) 1 1) [0]) := by rw [← hW1, ← hY]; exact Owned.one w 0 0 rfl
  have HNB : Hid (nestB ns = (nestF ns [0] 0 (ns.drop 1) && decide (par ns 0 = -1))) := rfl
  have HP0 : Hid (par ns 0 = x0.1) := par_some hx0
  obtain ⟨ad6, h6⟩ : ∃ a, ad.add 6 = a := ⟨_, rfl⟩
  have HAD : Hid (∀ k, ad6.add (k * 6) = ad.add ((k + 1) * 6)) := fun k => by rw [← h6, Go.Deep.add_add]; congr 1; omega
  have HW1 := Lib.hid hW1
  have HYE := Lib.hid hY
  rw [hn] at hcap h0 hl ⊢
  obtain ⟨z0, hz0⟩ : ∃ z : Int, x0.1 = z := ⟨_, rfl⟩
  rw [hz0] at HP0
  have HX0 := HA0.out.1
  rw [Nat.zero_mul] at HX0
  have hadz : ad.add 0 = ad := by unfold Addr.add; rw [if_pos rfl]
  rw [hadz, hz0] at HX0
  clear hx hc hat0 hx0 hn hz0 hW1 hY hadz
  by_cases hcc : cap = 1
  · obtain rfl : n = 0 := by omega
    subst hcc
    go_enter Tryd.func15, Tryd.ntmps15
    go_upto_region 2 with fail
    rw [HW1.out, HYE.out]
    have HDN : Hid (ns.drop 1 = []) := by unfold Hid; rw [List.drop_eq_nil_of_le (by have := HN.out; omega)]
    have HR : Hid (nestB ns = decide (z0 = -1)) := by unfold Hid; rw [HNB.out, HDN.out, HP0.out]; rfl
    rw [← HB1.out.cell hlb] at HX0
    go_wp2_with fail
    go_loopw [11] (fun c wr => c = .int .i64 0 ∧ wr = W1) (fun _ _ => 0)
    case atStart => exact ⟨rfl, rfl⟩
    case round =>
      obtain ⟨rfl, rfl⟩ := hrel
      by_cases hz : z0 = -1
      · have gz : (z0 == -1) = true := by simpa using hz
        have HR2 : Hid (nestB ns = true) := by unfold Hid; rw [HR.out]; exact decide_eq_true hz
        clear hz
        go_wp2_with fail
        go_ret
        exact ⟨by rw [HR2.out]; rfl, HB1.out⟩
      · have gz : (z0 == -1) = false := by simpa using hz
        have HR2 : Hid (nestB ns = false) := by unfold Hid; rw [HR.out]; exact decide_eq_false hz
        clear hz
        go_wp2_with fail
        go_ret
        exact ⟨by rw [HR2.out]; rfl, HB1.out⟩
  · go_enter Tryd.func15, Tryd.ntmps15
    go_upto_region 2 with fail
    rw [HW1.out, HYE.out]
    go_wp2_with fail
    go_loopw [3, 11] (fun ov c wr => ∃ (k : Nat) (nw : Value) (o : List Nat), k ≤ n ∧ c = .int .i64 k ∧ ov = nw ∧ Hid (Owned w.heap.size wr nw o) ∧ Hid (Below w.heap.size w wr) ∧ Hid (0 < o.length ∧ o.length ≤ 12 ∧ ∀ p ∈ o, p ≤ k) ∧ Hid (nestF ns [0] 0 (ns.drop 1) = nestF ns o k (ns.drop (k + 1)))) (fun _ c _ => n - (intOf c).toNat)
    case atStart => exact ⟨0, _, _, Nat.zero_le _, rfl, rfl, HO1.out, HB1.out, ⟨by decide, by decide, fun p hp => by simp at hp; omega⟩, rfl⟩
    case round =>
      obtain ⟨k, nw, o, hk, rfl, hnv, ho, hb, hop, hst⟩ := hrel
      have hnv2 := hnv.symm
      clear hnv
      subst hnv2
      obtain ⟨KA, kcap, hnf⟩ := ho.out.slice
      subst hnf
      obtain ⟨kn, hkn⟩ : ∃ kn, o.length = kn := ⟨_, rfl⟩
      have HKN := Lib.hid hkn
      have hknb : kn ≤ 12 := by rw [← hkn]; exact hop.out.2.1
      rw [hkn] at ho ⊢
      clear hkn
      by_cases hlt : k < n
      · obtain ⟨x, hx⟩ : ∃ x, ns[k + 1]? = some x := ⟨_, List.getElem?_eq_getElem (by have := HN.out; omega)⟩
        obtain ⟨u, hat, hua⟩ := HX.out (k + 1) x hx
        rw [← HAD.out k] at hat
        have hblk : (ad6.add (k * 6)).block < w.heap.size := by rw [HAD.out k, addBlock]; exact hlb
        obtain ⟨k0, k1, k2, k3, k4, k5⟩ := hat.of (w' := wr) (hb.out.block _ hblk)
        obtain ⟨UA, ucap, rfl, -⟩ := hua
        have HDR : Hid (ns.drop (k + 1) = x :: ns.drop (k + 1 + 1)) := by
          unfold Hid
          obtain ⟨h1, h2⟩ := List.getElem?_eq_some_iff.1 hx
          rw [List.drop_eq_getElem_cons h1, h2]
        obtain ⟨un, hun⟩ : ∃ un, x.2.2.2.2.1.length = un := ⟨_, rfl⟩
        rw [hun] at k4
        obtain ⟨a0, h0'⟩ : ∃ a : Int, x.1 = a := ⟨_, rfl⟩
        obtain ⟨a1, h1⟩ : ∃ a : Int, x.2.1 = a := ⟨_, rfl⟩
        obtain ⟨a2, h2⟩ : ∃ a, bts x.2.2.1 = a := ⟨_, rfl⟩
        obtain ⟨a3, h3⟩ : ∃ a, bts x.2.2.2.1 = a := ⟨_, rfl⟩
        obtain ⟨a5, h5⟩ : ∃ a, bts x.2.2.2.2.2 = a := ⟨_, rfl⟩
        rw [h0'] at k0
        rw [h1] at k1
        rw [h2] at k2
        rw [h3] at k3
        rw [h5] at k5
        have HX1 := Lib.hid h0'
        obtain ⟨Y4, hY4⟩ : ∃ Y, wr.heap.size = Y := ⟨_, rfl⟩
        obtain ⟨W4, hW4⟩ : ∃ W, wr.alloc (.cells #[.int .i64 a0, .int .i64 a1, .string a2, .string a3, .slice UA un ucap, .string a5] 32) = W := ⟨_, rfl⟩
        have hw4 : Below wr.heap.size wr W4 := by rw [← hW4]; exact (Below.refl _ _).alloc (Nat.le_refl _) _
        have y0 : W4.cell? ⟨Y4, 0, none⟩ = some (.int .i64 a0) := by rw [← hW4, ← hY4]; exact (Bk.new _ _ _).cell 0
        have O4 := Lib.hid (ho.out.below hw4)
        have B4 : Hid (Below w.heap.size w W4) := hb.out.trans (hw4.mono hb.out.size)
        have HIX := Lib.hid (index_any (.slice KA kn kcap) o a0 W4 O4.out.reads (by have := HKN.out; omega))
        have HW4 := Lib.hid hW4
        have HY4 := Lib.hid hY4
        clear hx hat hun h0' h1 h2 h3 h5 hW4 hY4 hw4 ho hb hblk
        go_upto_region 5 with fail
        rw [HW4.out, HY4.out]
        clear k0 k1 k2 k3 k4 k5
        cases hp : posI a0 o with
        | none =>
          have HPV := Lib.hid (posV_none hp)
          have HF := Lib.hid (nest_none (ns := ns) (o := o) (i := k) (x := x) (l := ns.drop (k + 1 + 1)) (by rw [HX1.out]; exact hp))
          have HR : Hid (nestB ns = false) := by unfold Hid; rw [HNB.out, hst.out, HDR.out, HF.out]; rfl
          clear hp
          go_wp2_with (go_at_call 29; refine HIX.out.mono ?_; rintro e w5 ⟨rfl, rfl⟩; rw [HPV.out])
          go_ret
          exact ⟨by rw [HR.out]; rfl, B4.out⟩
        | some q =>
          have HPV := Lib.hid (posV_some hp)
          obtain ⟨p, hpo, hpa⟩ := posI_get hp
          have hpk := hop.out.2.2 p (List.mem_of_getElem? hpo)
          have hqn : q < kn := by rw [← HKN.out]; exact (List.getElem?_eq_some_iff.1 hpo).1
          have hpt : x.1.toNat = p := by rw [HX1.out]; omega
          obtain ⟨xp, hxp⟩ : ∃ y, ns[p]? = some y := ⟨_, List.getElem?_eq_getElem (by have := HN.out; omega)⟩
          obtain ⟨up, hatp, hup⟩ := HX.out p xp hxp
          obtain ⟨-, -, -, -, -, e5⟩ := hatp.of (w' := W4) (B4.out.block _ (by rw [addBlock]; exact hlb))
          have htx : textAt ns p = xp.2.2.2.2.2 := text_some hxp
          have hpn : p < n + 1 := by omega
          subst hpa
          have hq0 : decide ((q : Int) < 0) = false := decide_eq_false (by omega)
          have hqb : (q : Int) ≤ 12 := by omega
          have hks : k + 1 ≤ n := hlt
          by_cases hq12 : q + 1 = 12
          · have HF := Lib.hid (nest_bad (ns := ns) (o := o) (i := k) (x := x) (l := ns.drop (k + 1 + 1)) (by rw [HX1.out]; exact hp) (.inl hq12))
            have HR : Hid (nestB ns = false) := by unfold Hid; rw [HNB.out, hst.out, HDR.out, HF.out]; rfl
            have g12 : ((q : Int) + 1 == 12) = true := by simp; omega
            clear hp hpo hpt hxp hatp hup htx hq12
            go_wp2_with (go_at_call 29; refine HIX.out.mono ?_; rintro e w5 ⟨rfl, rfl⟩; rw [HPV.out])
            go_ret
            exact ⟨by rw [HR.out]; rfl, B4.out⟩
          · have g12 : ((q : Int) + 1 == 12) = false := by simp; omega
            by_cases hte : xp.2.2.2.2.2 = []
            · have HF := Lib.hid (nest_good (ns := ns) (o := o) (i := k) (x := x) (l := ns.drop (k + 1 + 1)) (by rw [HX1.out]; exact hp) (by rw [hpt, htx, hte]; simp; omega))
              have gte : (bts xp.2.2.2.2.2).toList.isEmpty = true := by rw [bts_empty]; exact decide_eq_true hte
              obtain ⟨t5, ht5⟩ : ∃ a, bts xp.2.2.2.2.2 = a := ⟨_, rfl⟩
              rw [ht5] at gte e5
              have hcut := O4.out.cut (j := q + 1) (by have := HKN.out; omega) hop.out.1
              obtain ⟨hcut1, hcut2, hcut3⟩ := hcut
              have hq11 : q + 1 < 12 := by omega
              clear hp hpo hpt hxp hatp hup htx hq12 hte ht5
              have hkl : (o.take (q + 1)).length ≤ 2000000000 := by rw [List.length_take]; omega
              have hzz := B4.out.size
              have hkz : (k : Int) + 1 = ((k + 1 : Nat) : Int) := by omega
              have HKZ := Lib.hid hkz
              have HC1 := Lib.hid hcut1
              have HKL := Lib.hid hkl
              have HPU : Hid (0 < (o.take (q + 1) ++ [k + 1]).length ∧ (o.take (q + 1) ++ [k + 1]).length ≤ 12 ∧ ∀ p ∈ o.take (q + 1) ++ [k + 1], p ≤ k + 1) := by
                refine ⟨by rw [List.length_append]; simp, by rw [List.length_append, List.length_take, List.length_singleton]; omega, fun r hr => ?_⟩
                rcases List.mem_append.1 hr with hr | hr
                · have := hop.out.2.2 r (List.mem_of_mem_take hr); omega
                · rw [List.mem_singleton] at hr; omega
              have HS2 : Hid (nestF ns [0] 0 (ns.drop 1) = nestF ns (o.take (q + 1) ++ [k + 1]) (k + 1) (ns.drop (k + 1 + 1))) := by unfold Hid; rw [hst.out, HDR.out, HF.out]
              clear hkz hcut1 hkl
              go_wp2_with (first | (go_at_call 29; refine HIX.out.mono ?_; rintro e w5 ⟨rfl, rfl⟩; rw [HPV.out]) | (at_builtin; refine push_int rfl _ _ rfl w.heap.size (.slice KA (q + 1) kcap) (o.take (q + 1)) (k + 1) _ HKZ.out _ rfl HC1.out rfl HKL.out hzz ?_))
              intro v9 w9 o9 b9 k9
              have O9 := Lib.hid o9
              have B9 : Hid (Below w.heap.size w w9) := B4.out.trans b9
              clear o9 b9 k9 hzz
              go_wp2_with fail
              go_roundw
              case rel => exact ⟨k + 1, _, _, by omega, by go_num, rfl, O9, B9, HPU, HS2⟩
              case measure => simp [intOf]; omega
            · have HF := Lib.hid (nest_bad (ns := ns) (o := o) (i := k) (x := x) (l := ns.drop (k + 1 + 1)) (by rw [HX1.out]; exact hp) (.inr (by rw [hpt, htx]; exact hte)))
              have HR : Hid (nestB ns = false) := by unfold Hid; rw [HNB.out, hst.out, HDR.out, HF.out]; rfl
              have gte : (bts xp.2.2.2.2.2).toList.isEmpty = false := by rw [bts_empty]; exact decide_eq_false hte
              obtain ⟨t5, ht5⟩ : ∃ a, bts xp.2.2.2.2.2 = a := ⟨_, rfl⟩
              rw [ht5] at gte e5
              clear hp hpo hpt hxp hatp hup htx hq12 hte ht5
              go_wp2_with (go_at_call 29; refine HIX.out.mono ?_; rintro e w5 ⟨rfl, rfl⟩; rw [HPV.out])
              go_ret
              exact ⟨by rw [HR.out]; rfl, B4.out⟩
      · have HDN : Hid (ns.drop (k + 1) = []) := by unfold Hid; rw [List.drop_eq_nil_of_le (by have := HN.out; omega)]
        have HR : Hid (nestB ns = decide (z0 = -1)) := by unfold Hid; rw [HNB.out, hst.out, HDN.out, HP0.out]; rfl
        rw [← hb.out.cell hlb] at HX0
        by_cases hz : z0 = -1
        · have gz : (z0 == -1) = true := by simpa using hz
          have HR2 : Hid (nestB ns = true) := by unfold Hid; rw [HR.out]; exact decide_eq_true hz
          clear hz
          go_wp2_with fail
          go_ret
          exact ⟨by rw [HR2.out]; rfl, hb.out⟩
        · have gz : (z0 == -1) = false := by simpa using hz
          have HR2 : Hid (nestB ns = false) := by unfold Hid; rw [HR.out]; exact decide_eq_false hz
          clear hz
          go_wp2_with fail
          go_ret
          exact ⟨by rw [HR2.out]; rfl, hb.out⟩
end Go.Proofs.YtbkfmbkamocllaaDoor
