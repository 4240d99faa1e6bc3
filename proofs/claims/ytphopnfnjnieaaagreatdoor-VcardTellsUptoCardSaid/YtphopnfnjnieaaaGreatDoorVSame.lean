/-
  cardexhelp at properties, and at cards of them, that can be read: Prop, Props, Same.
-/
import Derived.Test.YtphopnfnjnieaaaGreatDoorVEqA
namespace Go.Proofs.YtphopnfnjnieaaaGreatDoor
open Go.RowKit Vc

set_option maxHeartbeats 4000000 in
set_option maxRecDepth 100000 in
theorem propEq_any (t u : Pr) (v v' : Value) (w : World) (hv : ReadA w v t.2.2.1) (hv' : ReadA w v' u.2.2.1) (hl : t.2.2.1.length ≤ 1000000000) (hl' : u.2.2.1.length ≤ 1000000000) :
    Calls Tryz.prog 27 #[agP t v, agP u v'] w fun e w' => e = .returned (.bool (decide (t = u))) ∧ Below w.heap.size w w' := by
  have HP := Lib.hid (fun (W : World) (h : Below w.heap.size w W) => plainAR_any v v' _ _ W (hv.below h) (hv'.below h) (by omega) (by omega))
  rw [pr_split t u]
  obtain ⟨A, cap, rfl, _⟩ := hv
  obtain ⟨A', cap', rfl, _⟩ := hv'
  unfold agP
  obtain ⟨n, hn⟩ : ∃ n, t.2.2.1.length = n := ⟨_, rfl⟩
  obtain ⟨n', hn'⟩ : ∃ n, u.2.2.1.length = n := ⟨_, rfl⟩
  obtain ⟨a0, h0⟩ : ∃ a, bts t.1 = a := ⟨_, rfl⟩
  obtain ⟨a1, h1⟩ : ∃ a, bts t.2.1 = a := ⟨_, rfl⟩
  obtain ⟨a3, h3⟩ : ∃ a, bts t.2.2.2 = a := ⟨_, rfl⟩
  obtain ⟨b0, k0⟩ : ∃ a, bts u.1 = a := ⟨_, rfl⟩
  obtain ⟨b1, k1⟩ : ∃ a, bts u.2.1 = a := ⟨_, rfl⟩
  obtain ⟨b3, k3⟩ : ∃ a, bts u.2.2.2 = a := ⟨_, rfl⟩
  obtain ⟨d, hd⟩ : ∃ d, decide (t.2.2.1 = u.2.2.1) = d := ⟨_, rfl⟩
  rw [hn, hn', hd] at HP
  rw [hn, hn', h0, h1, h3, k0, k1, k3, hd]
  clear hn hn' h0 h1 h3 k0 k1 k3 hd hl hl'
  have hcs : ∃ e0 e1 e3 : Bool, (a0.toList == b0.toList) = e0 ∧ (a1.toList == b1.toList) = e1 ∧ (a3.toList == b3.toList) = e3 := ⟨_, _, _, rfl, rfl, rfl⟩
  obtain ⟨e0, e1, e3, g0, g1, g3⟩ := hcs
  rw [g0, g1, g3]
  have hB2 : Hid (Below w.heap.size w ((w.alloc (.cells #[.string a0, .string a1, .slice A n cap, .string a3] 41)).alloc (.cells #[.string b0, .string b1, .slice A' n' cap', .string b3] 41))) := ((Below.refl _ w).alloc (Nat.le_refl _) _).alloc (by simp) _
  have hc2 : e0 = false ∨ (e0 = true ∧ (e1 = false ∨ (e1 = true ∧ (e3 = false ∨ e3 = true)))) := by cases e0 <;> cases e1 <;> cases e3 <;> simp
  rcases hc2 with rfl | ⟨rfl, rfl | ⟨rfl, rfl | rfl⟩⟩
  case' inr.inr.inr =>
    go_enter Tryz.func27, Tryz.ntmps27
    go_wp2_with (go_at_call 52; refine (HP.out _ hB2.out).mono ?_; rintro e w3 ⟨rfl, b3⟩)
    go_ret
    exact ⟨rfl, hB2.out.trans (b3.mono hB2.out.size)⟩
  all_goals
    go_enter Tryz.func27, Tryz.ntmps27
    go_wp2_with fail
    go_ret
    exact ⟨by simp, hB2.out⟩
/-- No property has more parameters than so many. -/
def Few (ps : List Pr) : Prop := ∀ t ∈ ps, t.2.2.1.length ≤ 1000000000
set_option maxHeartbeats 4000000 in
set_option maxRecDepth 100000 in
theorem samePr_any (v u : Value) (x y : List Pr) (w : World) (hx : ReadP w v x) (hy : ReadP w u y) (hl : x.length ≤ 1000000000) (hm : y.length ≤ 1000000000) (hal : Few x) (hbl : Few y) :
    Calls Tryz.prog 26 #[v, u, .func (.func 27) #[] #[]] w fun e w' => e = .returned (.bool (decide (x = y))) ∧ Below w.heap.size w w' := by
  obtain ⟨A, cap, rfl, hx2⟩ := hx
  obtain ⟨A', cap', rfl, hy2⟩ := hy
  by_cases hne : x.length = y.length
  · have HNE := Lib.hid hne
    have HX := Lib.hid hx2
    have HY := Lib.hid hy2
    have HAL := Lib.hid hal
    have HBL := Lib.hid hbl
    have hbne : (((x.length : Nat) : Int) != ((y.length : Nat) : Int)) = false := by simp [hne]
    have HPL := Lib.hid propEq_any
    clear hne hx2 hy2 hal hbl
    go_enter Tryz.func26, Tryz.ntmps26
    go_wp2_with fail
    go_loopw [7] (fun i wr => ∃ (k : Nat), k ≤ x.length ∧ i = .int .i64 k ∧ Hid (x.take k = y.take k) ∧ Below w.heap.size w wr) (fun i _ => x.length - (intOf i).toNat)
    case atStart => exact ⟨0, Nat.zero_le _, rfl, Lib.hid (by simp), Below.refl _ _⟩
    case round =>
      obtain ⟨k, hk, rfl, hte, hbw⟩ := hrel
      have hsw := hbw.size
      by_cases hlt : k < x.length
      · have hlty : k < y.length := by rw [← HNE.out]; exact hlt
        obtain ⟨g, rfl, hlb, hc⟩ := HX.out (by omega)
        obtain ⟨g', rfl, hlb', hd⟩ := HY.out (by omega)
        obtain ⟨p, hp⟩ : ∃ p, x[k]? = some p := ⟨_, List.getElem?_eq_getElem hlt⟩
        obtain ⟨q, hq⟩ : ∃ q, y[k]? = some q := ⟨_, List.getElem?_eq_getElem hlty⟩
        obtain ⟨pv, hpat, rp⟩ := hc k p hp
        obtain ⟨qv, hqat, rq⟩ := hd k q hq
        obtain ⟨c0, c1, c2, c3⟩ := hpat.of (w' := wr) (hbw.block _ (by rw [addBlock]; exact hlb))
        obtain ⟨d0, d1, d2, d3⟩ := hqat.of (w' := wr) (hbw.block _ (by rw [addBlock]; exact hlb'))
        have rp2 := rp.below hbw
        have rq2 := rq.below hbw
        have HPQ := Lib.hid (fun (W : World) (h : Below wr.heap.size wr W) => HPL.out p q pv qv W (rp2.below h) (rq2.below h) (HAL.out p (List.mem_of_getElem? hp)) (HBL.out q (List.mem_of_getElem? hq)))
        obtain ⟨P, cp, rfl, _⟩ := rp
        obtain ⟨R, cr, rfl, _⟩ := rq
        have HP := Lib.hid hp
        have HQ := Lib.hid hq
        unfold agP at HPQ
        obtain ⟨np, hnp⟩ : ∃ n, p.2.2.1.length = n := ⟨_, rfl⟩
        obtain ⟨nq0, hnq⟩ : ∃ n, q.2.2.1.length = n := ⟨_, rfl⟩
        obtain ⟨a0, h0⟩ : ∃ a, bts p.1 = a := ⟨_, rfl⟩
        obtain ⟨a1, h1⟩ : ∃ a, bts p.2.1 = a := ⟨_, rfl⟩
        obtain ⟨a3, h3⟩ : ∃ a, bts p.2.2.2 = a := ⟨_, rfl⟩
        obtain ⟨b0, k0⟩ : ∃ a, bts q.1 = a := ⟨_, rfl⟩
        obtain ⟨b1, k1⟩ : ∃ a, bts q.2.1 = a := ⟨_, rfl⟩
        obtain ⟨b3, k3⟩ : ∃ a, bts q.2.2.2 = a := ⟨_, rfl⟩
        rw [h0, h1, h3, k0, k1, k3, hnp, hnq] at HPQ
        rw [h0] at c0
        rw [h1] at c1
        rw [hnp] at c2
        rw [h3] at c3
        rw [k0] at d0
        rw [k1] at d1
        rw [hnq] at d2
        rw [k3] at d3
        clear hp hq hc hd rp2 rq2 hpat hqat h0 h1 h3 k0 k1 k3 hnp hnq
        go_wp2_with fail
        go_region_with ((go_at_call 27; refine (HPQ.out _ ?_).mono ?_; exact ⟨rfl, rfl, rfl, Nat.le_refl _, fun _ _ => rfl⟩; rintro e w2 ⟨rfl, b2⟩))
        all_goals
          by_cases hpq : p = q
          · have hd : decide (p = q) = true := decide_eq_true hpq
            have b3 : Below w.heap.size w w2 := hbw.drew.trans (b2.mono hsw)
            have hts := Lib.hid (take_succ_same HP.out HQ.out hte.out hpq)
            simp only [hd]
            clear b2 c0 c1 c2 c3 d0 d1 d2 d3 hpq
            go_wp2_with fail
            go_roundw
            case rel => exact ⟨k + 1, by omega, by go_num, hts, b3⟩
            case measure => simp [intOf]; omega
          · have hd : decide (p = q) = false := decide_eq_false hpq
            have hq2 : decide (x = y) = false := by
              refine decide_eq_false (fun e => ?_)
              subst e
              exact hpq (Option.some.inj (HP.out.symm.trans HQ.out))
            have b3 : Below w.heap.size w w2 := hbw.drew.trans (b2.mono hsw)
            simp only [hd]
            clear b2 c0 c1 c2 c3 d0 d1 d2 d3 hpq
            go_wp2_with fail
            go_ret
            exact ⟨ret_bool hq2.symm, b3⟩
      · have hke : k = x.length := by omega
        have hxy : decide (x = y) = true := by
          have h1 := hte.out
          rw [hke, List.take_length, HNE.out, List.take_length] at h1
          exact decide_eq_true h1
        clear hke
        go_wp2_with fail
        go_ret
        exact ⟨ret_bool hxy.symm, hbw⟩
  · have hbne : (((x.length : Nat) : Int) != ((y.length : Nat) : Int)) = true := by simp; omega
    have hq : decide (x = y) = false := decide_eq_false (fun e => hne (congrArg List.length e))
    rw [hq]
    clear hq hne hx2 hy2 hal hbl
    go_enter Tryz.func26, Tryz.ntmps26
    go_wp2_with fail
    go_ret
    exact ⟨rfl, Below.refl _ _⟩
set_option maxHeartbeats 400000 in
theorem props_any (v u : Value) (x y : List Pr) (w : World) (hx : ReadP w v x) (hy : ReadP w u y) (hl : x.length ≤ 1000000000) (hm : y.length ≤ 1000000000) (hal : Few x) (hbl : Few y) :
    Calls Tryz.prog 13 #[v, u] w fun e w' => e = .returned (.bool (decide (x = y))) ∧ Below w.heap.size w w' := by
  have HS := Lib.hid (samePr_any v u x y w hx hy hl hm hal hbl)
  clear hx hy hl hm hal hbl
  go_enter Tryz.func13, Tryz.ntmps13
  go_wp2_with (go_at_call 26; refine HS.out.mono ?_; rintro e w2 ⟨rfl, hb⟩)
  go_ret
  exact ⟨rfl, hb⟩
/-- No card has more properties than so many, nor they more parameters. -/
def Fews (cs : List (List Pr)) : Prop := ∀ c ∈ cs, c.length ≤ 1000000000 ∧ Few c
set_option maxHeartbeats 4000000 in
set_option maxRecDepth 100000 in
theorem sameV_any (v u : Value) (x y : List (List Pr)) (w : World) (hx : ReadV w v x) (hy : ReadV w u y) (hl : x.length ≤ 1000000000) (hm : y.length ≤ 1000000000) (hal : Fews x) (hbl : Fews y) :
    Calls Tryz.prog 12 #[v, u, .func (.func 13) #[] #[]] w fun e w' => e = .returned (.bool (decide (x = y))) ∧ Below w.heap.size w w' := by
  obtain ⟨A, cap, rfl, hx2⟩ := hx
  obtain ⟨A', cap', rfl, hy2⟩ := hy
  by_cases hne : x.length = y.length
  · have HNE := Lib.hid hne
    have HX := Lib.hid hx2
    have HY := Lib.hid hy2
    have HAL := Lib.hid hal
    have HBL := Lib.hid hbl
    have hbne : (((x.length : Nat) : Int) != ((y.length : Nat) : Int)) = false := by simp [hne]
    have HPL := Lib.hid props_any
    clear hne hx2 hy2 hal hbl
    go_enter Tryz.func12, Tryz.ntmps12
    go_wp2_with fail
    go_loopw [7] (fun i wr => ∃ (k : Nat), k ≤ x.length ∧ i = .int .i64 k ∧ Hid (x.take k = y.take k) ∧ Below w.heap.size w wr) (fun i _ => x.length - (intOf i).toNat)
    case atStart => exact ⟨0, Nat.zero_le _, rfl, Lib.hid (by simp), Below.refl _ _⟩
    case round =>
      obtain ⟨k, hk, rfl, hte, hbw⟩ := hrel
      have hsw := hbw.size
      by_cases hlt : k < x.length
      · have hlty : k < y.length := by rw [← HNE.out]; exact hlt
        obtain ⟨g, rfl, hlb, hc⟩ := HX.out (by omega)
        obtain ⟨g', rfl, hlb', hd⟩ := HY.out (by omega)
        obtain ⟨p, hp⟩ : ∃ p, x[k]? = some p := ⟨_, List.getElem?_eq_getElem hlt⟩
        obtain ⟨q, hq⟩ : ∃ q, y[k]? = some q := ⟨_, List.getElem?_eq_getElem hlty⟩
        obtain ⟨pv, c0, rp⟩ := hc k p hp
        obtain ⟨qv, d0, rq⟩ := hd k q hq
        rw [← hbw.cell (p := g.add k) (by rw [addBlock]; exact hlb)] at c0
        rw [← hbw.cell (p := g'.add k) (by rw [addBlock]; exact hlb')] at d0
        have rp2 := rp.below hbw
        have rq2 := rq.below hbw
        have HPQ := Lib.hid (fun (W : World) (h : Below wr.heap.size wr W) => HPL.out pv qv p q W (rp2.below h) (rq2.below h) (HAL.out p (List.mem_of_getElem? hp)).1 (HBL.out q (List.mem_of_getElem? hq)).1 (HAL.out p (List.mem_of_getElem? hp)).2 (HBL.out q (List.mem_of_getElem? hq)).2)
        obtain ⟨P, cp, rfl⟩ := rp.slice
        obtain ⟨R, cr, rfl⟩ := rq.slice
        have HP := Lib.hid hp
        have HQ := Lib.hid hq
        obtain ⟨np, hnp⟩ : ∃ n, p.length = n := ⟨_, rfl⟩
        obtain ⟨nq0, hnq⟩ : ∃ n, q.length = n := ⟨_, rfl⟩
        rw [hnp, hnq] at HPQ
        rw [hnp] at c0
        rw [hnq] at d0
        clear hp hq hc hd rp2 rq2 rp rq hnp hnq
        go_wp2_with fail
        go_region_with ((go_at_call 13; refine (HPQ.out _ ?_).mono ?_; exact ⟨rfl, rfl, rfl, Nat.le_refl _, fun _ _ => rfl⟩; rintro e w2 ⟨rfl, b2⟩))
        all_goals
          by_cases hpq : p = q
          · have hd : decide (p = q) = true := decide_eq_true hpq
            have b3 : Below w.heap.size w w2 := hbw.drew.trans (b2.mono hsw)
            have hts := Lib.hid (take_succ_same HP.out HQ.out hte.out hpq)
            simp only [hd]
            clear b2 c0 d0 hpq
            go_wp2_with fail
            go_roundw
            case rel => exact ⟨k + 1, by omega, by go_num, hts, b3⟩
            case measure => simp [intOf]; omega
          · have hd : decide (p = q) = false := decide_eq_false hpq
            have hq2 : decide (x = y) = false := by
              refine decide_eq_false (fun e => ?_)
              subst e
              exact hpq (Option.some.inj (HP.out.symm.trans HQ.out))
            have b3 : Below w.heap.size w w2 := hbw.drew.trans (b2.mono hsw)
            simp only [hd]
            clear b2 c0 d0 hpq
            go_wp2_with fail
            go_ret
            exact ⟨ret_bool hq2.symm, b3⟩
      · have hke : k = x.length := by omega
        have hxy : decide (x = y) = true := by
          have h1 := hte.out
          rw [hke, List.take_length, HNE.out, List.take_length] at h1
          exact decide_eq_true h1
        clear hke
        go_wp2_with fail
        go_ret
        exact ⟨ret_bool hxy.symm, hbw⟩
  · have hbne : (((x.length : Nat) : Int) != ((y.length : Nat) : Int)) = true := by simp; omega
    have hq : decide (x = y) = false := decide_eq_false (fun e => hne (congrArg List.length e))
    rw [hq]
    clear hq hne hx2 hy2 hal hbl
    go_enter Tryz.func12, Tryz.ntmps12
    go_wp2_with fail
    go_ret
    exact ⟨rfl, Below.refl _ _⟩
end Go.Proofs.YtphopnfnjnieaaaGreatDoor
