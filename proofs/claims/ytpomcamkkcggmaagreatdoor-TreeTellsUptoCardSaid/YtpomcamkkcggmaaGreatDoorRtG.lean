/-
  cardexhelp at nodes: Node, Same.
-/
import Derived.Test.YtpomcamkkcggmaaGreatDoorTrY
namespace Go.Proofs.YtpomcamkkcggmaaGreatDoor
open Go.RowKit Tk Tr

instance decNd : DecidableEq Nd := @instDecidableEqProd _ _ _ (@instDecidableEqProd _ _ _ (@instDecidableEqProd _ _ _ (@instDecidableEqProd _ _ _ (@instDecidableEqProd _ _ _ _))))
theorem nd_split (t u : Nd) : decide (t = u) = ((t.1 == u.1) && ((t.2.1 == u.2.1) && (((bts t.2.2.1).toList == (bts u.2.2.1).toList) && (((bts t.2.2.2.1).toList == (bts u.2.2.2.1).toList) && (((bts t.2.2.2.2.2).toList == (bts u.2.2.2.2.2).toList) && decide (t.2.2.2.2.1 = u.2.2.2.2.1)))))) := by
  obtain ⟨a, b, c, d, e, f⟩ := t
  obtain ⟨a', b', c', d', e', f'⟩ := u
  simp only
  rw [bts_eqb, bts_eqb, bts_eqb, Bool.eq_iff_iff]
  simp only [decide_eq_true_eq, Bool.and_eq_true, beq_iff_eq, Prod.mk.injEq]
  constructor
  · rintro ⟨rfl, rfl, rfl, rfl, rfl, rfl⟩
    exact ⟨rfl, rfl, rfl, rfl, rfl, rfl⟩
  · rintro ⟨rfl, rfl, rfl, rfl, rfl, rfl⟩
    exact ⟨rfl, rfl, rfl, rfl, rfl, rfl⟩
set_option maxHeartbeats 4000000 in
set_option maxRecDepth 100000 in
theorem nodeEq_any (t u : Nd) (v v' : Value) (w : World) (hv : RowA w v t.2.2.2.2.1) (hv' : RowA w v' u.2.2.2.2.1) (hl : t.2.2.2.2.1.length ≤ 1000000000) (hl' : u.2.2.2.2.1.length ≤ 1000000000) :
    Calls Tryz.prog 15 #[agN t v, agN u v'] w fun e w' => e = .returned (.bool (decide (t = u))) ∧ Below w.heap.size w w' := by
  have HP := Lib.hid (fun (W : World) (h : Below w.heap.size w W) => plainA_any v v' _ _ W (hv.keep (KeepA.below h)) (hv'.keep (KeepA.below h)) (by omega) (by omega))
  rw [nd_split t u]
  obtain ⟨A, cap, rfl, _⟩ := hv
  obtain ⟨A', cap', rfl, _⟩ := hv'
  unfold agN
  obtain ⟨n, hn⟩ : ∃ n, t.2.2.2.2.1.length = n := ⟨_, rfl⟩
  obtain ⟨n', hn'⟩ : ∃ n, u.2.2.2.2.1.length = n := ⟨_, rfl⟩
  obtain ⟨a0, h0⟩ : ∃ a : Int, t.1 = a := ⟨_, rfl⟩
  obtain ⟨a1, h1⟩ : ∃ a : Int, t.2.1 = a := ⟨_, rfl⟩
  obtain ⟨a2, h2⟩ : ∃ a, bts t.2.2.1 = a := ⟨_, rfl⟩
  obtain ⟨a3, h3⟩ : ∃ a, bts t.2.2.2.1 = a := ⟨_, rfl⟩
  obtain ⟨a5, h5⟩ : ∃ a, bts t.2.2.2.2.2 = a := ⟨_, rfl⟩
  obtain ⟨b0, k0⟩ : ∃ a : Int, u.1 = a := ⟨_, rfl⟩
  obtain ⟨b1, k1⟩ : ∃ a : Int, u.2.1 = a := ⟨_, rfl⟩
  obtain ⟨b2, k2⟩ : ∃ a, bts u.2.2.1 = a := ⟨_, rfl⟩
  obtain ⟨b3, k3⟩ : ∃ a, bts u.2.2.2.1 = a := ⟨_, rfl⟩
  obtain ⟨b5, k5⟩ : ∃ a, bts u.2.2.2.2.2 = a := ⟨_, rfl⟩
  obtain ⟨d, hd⟩ : ∃ d, decide (t.2.2.2.2.1 = u.2.2.2.2.1) = d := ⟨_, rfl⟩
  rw [hn, hn', hd] at HP
  rw [hn, hn', h0, h1, h2, h3, h5, k0, k1, k2, k3, k5, hd]
  clear hn hn' h0 h1 h2 h3 h5 k0 k1 k2 k3 k5 hd hl hl'
  have hcs : ∃ e0 e1 e2 e3 e5 : Bool, (a0 == b0) = e0 ∧ (a1 == b1) = e1 ∧ (a2.toList == b2.toList) = e2 ∧ (a3.toList == b3.toList) = e3 ∧ (a5.toList == b5.toList) = e5 := ⟨_, _, _, _, _, rfl, rfl, rfl, rfl, rfl⟩
  obtain ⟨e0, e1, e2, e3, e5, g0, g1, g2, g3, g5⟩ := hcs
  rw [g0, g1, g2, g3, g5]
  have hB2 : Hid (Below w.heap.size w ((w.alloc (.cells #[.int .i64 a0, .int .i64 a1, .string a2, .string a3, .slice A n cap, .string a5] 34)).alloc (.cells #[.int .i64 b0, .int .i64 b1, .string b2, .string b3, .slice A' n' cap', .string b5] 34))) := ((Below.refl _ w).alloc (Nat.le_refl _) _).alloc (by simp) _
  have hc2 : e0 = false ∨ (e0 = true ∧ (e1 = false ∨ (e1 = true ∧ (e2 = false ∨ (e2 = true ∧ (e3 = false ∨ (e3 = true ∧ (e5 = false ∨ e5 = true)))))))) := by cases e0 <;> cases e1 <;> cases e2 <;> cases e3 <;> cases e5 <;> simp
  rcases hc2 with rfl | ⟨rfl, rfl | ⟨rfl, rfl | ⟨rfl, rfl | ⟨rfl, rfl | rfl⟩⟩⟩⟩
  case' inr.inr.inr.inr.inr =>
    go_enter Tryz.func15, Tryz.ntmps15
    go_wp2_with (go_at_call 28; refine (HP.out _ hB2.out).mono ?_; rintro e w3 ⟨rfl, b3⟩)
    go_ret
    exact ⟨rfl, hB2.out.trans (b3.mono hB2.out.size)⟩
  all_goals
    go_enter Tryz.func15, Tryz.ntmps15
    go_wp2_with fail
    go_ret
    exact ⟨by simp, hB2.out⟩
set_option maxHeartbeats 4000000 in
set_option maxRecDepth 100000 in
theorem sameN_any (B : Nat) (v u : Value) (x y : List Nd) (w : World) (hx : OwnN B w v x) (hy : OwnN B w u y) (hl : x.length ≤ 1000000000) (hm : y.length ≤ 1000000000) (hal : ∀ t ∈ x, t.2.2.2.2.1.length ≤ 1000000000) (hbl : ∀ t ∈ y, t.2.2.2.2.1.length ≤ 1000000000) :
    Calls Tryz.prog 14 #[v, u, .func (.func 15) #[] #[]] w fun e w' => e = .returned (.bool (decide (x = y))) ∧ Below w.heap.size w w' := by
  have hx2 : 0 < x.length → _ := fun h0 => hx.at h0
  have hy2 : 0 < y.length → _ := fun h0 => hy.at h0
  obtain ⟨A, cap, rfl⟩ := hx.slice
  obtain ⟨A', cap', rfl⟩ := hy.slice
  clear hx hy
  by_cases hne : x.length = y.length
  · have HNE := Lib.hid hne
    have HX := Lib.hid hx2
    have HY := Lib.hid hy2
    have HAL := Lib.hid hal
    have HBL := Lib.hid hbl
    have hbne : (((x.length : Nat) : Int) != ((y.length : Nat) : Int)) = false := by simp [hne]
    have HPL := Lib.hid nodeEq_any
    clear hne hx2 hy2 hal hbl
    go_enter Tryz.func14, Tryz.ntmps14
    go_wp2_with fail
    go_loopw [7] (fun i wr => ∃ (k : Nat), k ≤ x.length ∧ i = .int .i64 k ∧ Hid (x.take k = y.take k) ∧ Below w.heap.size w wr) (fun i _ => x.length - (intOf i).toNat)
    case atStart => exact ⟨0, Nat.zero_le _, rfl, Lib.hid (by simp), Below.refl _ _⟩
    case round =>
      obtain ⟨k, hk, rfl, hte, hbw⟩ := hrel
      have hsw := hbw.size
      by_cases hlt : k < x.length
      · have hlty : k < y.length := by rw [← HNE.out]; exact hlt
        obtain ⟨g, c9, e1, hlb, hc⟩ := HX.out (by omega)
        injection e1 with e1 e3 e2
        clear e3
        subst e1 e2
        obtain ⟨g', c9', e1, hlb', hd⟩ := HY.out (by omega)
        injection e1 with e1 e3 e2
        clear e3
        subst e1 e2
        obtain ⟨p, hp⟩ : ∃ p, x[k]? = some p := ⟨_, List.getElem?_eq_getElem hlt⟩
        obtain ⟨q, hq⟩ : ∃ q, y[k]? = some q := ⟨_, List.getElem?_eq_getElem hlty⟩
        obtain ⟨pv, rp, c0, c1, c2, c3, c4, c5⟩ := hc k p hp
        obtain ⟨qv, rq, d0, d1, d2, d3, d4, d5⟩ := hd k q hq
        rw [← hbw.cell (p := ⟨g, k * 6, none⟩) hlb] at c0
        rw [← hbw.cell (p := ⟨g, k * 6 + 1, none⟩) hlb] at c1
        rw [← hbw.cell (p := ⟨g, k * 6 + 2, none⟩) hlb] at c2
        rw [← hbw.cell (p := ⟨g, k * 6 + 3, none⟩) hlb] at c3
        rw [← hbw.cell (p := ⟨g, k * 6 + 4, none⟩) hlb] at c4
        rw [← hbw.cell (p := ⟨g, k * 6 + 5, none⟩) hlb] at c5
        rw [← hbw.cell (p := ⟨g', k * 6, none⟩) hlb'] at d0
        rw [← hbw.cell (p := ⟨g', k * 6 + 1, none⟩) hlb'] at d1
        rw [← hbw.cell (p := ⟨g', k * 6 + 2, none⟩) hlb'] at d2
        rw [← hbw.cell (p := ⟨g', k * 6 + 3, none⟩) hlb'] at d3
        rw [← hbw.cell (p := ⟨g', k * 6 + 4, none⟩) hlb'] at d4
        rw [← hbw.cell (p := ⟨g', k * 6 + 5, none⟩) hlb'] at d5
        have rp2 := rp.keep (KeepA.below hbw)
        have rq2 := rq.keep (KeepA.below hbw)
        have HPQ := Lib.hid (fun (W : World) (h : Below wr.heap.size wr W) => HPL.out p q pv qv W (rp2.keep (KeepA.below h)) (rq2.keep (KeepA.below h)) (HAL.out p (List.mem_of_getElem? hp)) (HBL.out q (List.mem_of_getElem? hq)))
        obtain ⟨P, cp, rfl, _⟩ := rp
        obtain ⟨R, cr, rfl, _⟩ := rq
        have HP := Lib.hid hp
        have HQ := Lib.hid hq
        unfold agN at HPQ
        obtain ⟨np, hnp⟩ : ∃ n, p.2.2.2.2.1.length = n := ⟨_, rfl⟩
        obtain ⟨nq0, hnq⟩ : ∃ n, q.2.2.2.2.1.length = n := ⟨_, rfl⟩
        obtain ⟨a0, h0⟩ : ∃ a : Int, p.1 = a := ⟨_, rfl⟩
        obtain ⟨a1, h1⟩ : ∃ a : Int, p.2.1 = a := ⟨_, rfl⟩
        obtain ⟨a2, h2⟩ : ∃ a, bts p.2.2.1 = a := ⟨_, rfl⟩
        obtain ⟨a3, h3⟩ : ∃ a, bts p.2.2.2.1 = a := ⟨_, rfl⟩
        obtain ⟨a5, h5⟩ : ∃ a, bts p.2.2.2.2.2 = a := ⟨_, rfl⟩
        obtain ⟨b0, k0⟩ : ∃ a : Int, q.1 = a := ⟨_, rfl⟩
        obtain ⟨b1, k1⟩ : ∃ a : Int, q.2.1 = a := ⟨_, rfl⟩
        obtain ⟨b2, k2⟩ : ∃ a, bts q.2.2.1 = a := ⟨_, rfl⟩
        obtain ⟨b3, k3⟩ : ∃ a, bts q.2.2.2.1 = a := ⟨_, rfl⟩
        obtain ⟨b5, k5⟩ : ∃ a, bts q.2.2.2.2.2 = a := ⟨_, rfl⟩
        rw [h0, h1, h2, h3, h5, k0, k1, k2, k3, k5, hnp, hnq] at HPQ
        rw [h0] at c0
        rw [h1] at c1
        rw [h2] at c2
        rw [h3] at c3
        rw [hnp] at c4
        rw [h5] at c5
        rw [k0] at d0
        rw [k1] at d1
        rw [k2] at d2
        rw [k3] at d3
        rw [hnq] at d4
        rw [k5] at d5
        clear hp hq hc hd rp2 rq2 h0 h1 h2 h3 h5 k0 k1 k2 k3 k5 hnp hnq
        go_wp2_with fail
        go_region_with ((go_at_call 15; refine (HPQ.out _ ?_).mono ?_; exact ⟨rfl, rfl, rfl, Nat.le_refl _, fun _ _ => rfl⟩; rintro e w2 ⟨rfl, b2⟩))
        all_goals
          by_cases hpq : p = q
          · have hd : decide (p = q) = true := decide_eq_true hpq
            have b3 : Below w.heap.size w w2 := hbw.drew.trans (b2.mono hsw)
            have hts := Lib.hid (take_succ_same HP.out HQ.out hte.out hpq)
            simp only [hd]
            clear b2 c0 c1 c2 c3 c4 c5 d0 d1 d2 d3 d4 d5 hpq
            go_wp2_with fail
            go_roundw
            case rel => exact ⟨k + 1, by omega, by go_num, hts, b3⟩
            case measure => simp [intOf]; omega
          · have hd : decide (p = q) = false := decide_eq_false hpq
            have hq2 : decide (x = y) = false := by
              refine decide_eq_false (fun e => ?_)
              subst e
              exact hpq (Option.some.inj (HP.out.symm.trans HQ.out))
            have b3 : Below w.heap.size w w2 := hbw.drew.trans (b2.mono hsw)
            simp only [hd]
            clear b2 c0 c1 c2 c3 c4 c5 d0 d1 d2 d3 d4 d5 hpq
            go_wp2_with fail
            go_ret
            exact ⟨ret_bool hq2.symm, b3⟩
      · have hke : k = x.length := by omega
        have hxy : decide (x = y) = true := by
          have h1 := hte.out
          rw [hke, List.take_length, HNE.out, List.take_length] at h1
          exact decide_eq_true h1
        clear hke
        go_wp2_with fail
        go_ret
        exact ⟨ret_bool hxy.symm, hbw⟩
  · have hbne : (((x.length : Nat) : Int) != ((y.length : Nat) : Int)) = true := by simp; omega
    have hq : decide (x = y) = false := decide_eq_false (fun e => hne (congrArg List.length e))
    rw [hq]
    clear hq hne hx2 hy2 hal hbl
    go_enter Tryz.func14, Tryz.ntmps14
    go_wp2_with fail
    go_ret
    exact ⟨rfl, Below.refl _ _⟩
end Go.Proofs.YtpomcamkkcggmaaGreatDoor
