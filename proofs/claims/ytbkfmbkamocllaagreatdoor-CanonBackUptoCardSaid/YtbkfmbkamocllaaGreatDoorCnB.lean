/- Texts laid together: SmR CnB -/
import Derived.Test.YtbkfmbkamocllaaGreatDoorTkS
import Derived.Test.YtbkfmbkamocllaaGreatDoorCnW
import Derived.Test.YtbkfmbkamocllaaGreatDoorCanB
import Derived.Test.YtbkfmbkamocllaaGreatDoorCnF
import Derived.Test.YtbkfmbkamocllaaGreatDoorTrO
/-
  cardexhelp at attributes and nodes that can be read, wherever they lie: Same, Plain, Node.
-/
namespace Go.Proofs.YtbkfmbkamocllaaGreatDoor
open Go.RowKit Tk Tr Cn

set_option maxHeartbeats 2000000 in
theorem sameAR_any (v u : Value) (x y : List Att) (w : World) (hx : ReadA w v x) (hy : ReadA w u y) (hl : x.length ≤ 140737488355328) (hm : y.length ≤ 140737488355328) :
    Calls Tryz.prog 34 #[v, u, .func (.func 35) #[] #[]] w fun e w' => e = .returned (.bool (decide (x = y))) ∧ Below w.heap.size w w' := by
  obtain ⟨A, cap, rfl, hx2⟩ := hx
  obtain ⟨A', cap', rfl, hy2⟩ := hy
  by_cases hne : x.length = y.length
  · have HNE := Lib.hid hne
    have HX := Lib.hid hx2
    have HY := Lib.hid hy2
    have hbne : (((x.length : Nat) : Int) != ((y.length : Nat) : Int)) = false := by simp [hne]
    have HPL := Lib.hid plainOneA
    clear hne hx2 hy2
    go_enter Tryz.func34, Tryz.ntmps34
    go_wp2_with fail
    go_loopw [7] (fun i wr => ∃ (k : Nat), k ≤ x.length ∧ i = .int .i64 k ∧ Hid (x.take k = y.take k) ∧ Below w.heap.size w wr) (fun i _ => x.length - (intOf i).toNat)
    case atStart => exact ⟨0, Nat.zero_le _, rfl, Lib.hid (by simp), Below.refl _ _⟩
    case round =>
      obtain ⟨k, hk, rfl, hte, hbw⟩ := hrel
      have hsw := hbw.size
      by_cases hlt : k < x.length
      · have hlty : k < y.length := by rw [← HNE.out]; exact hlt
        obtain ⟨g, rfl, hlb, hc⟩ := HX.out (by omega)
        obtain ⟨g', rfl, hlb', hd⟩ := HY.out (by omega)
        obtain ⟨p, hp⟩ : ∃ p, x[k]? = some p := ⟨_, List.getElem?_eq_getElem hlt⟩
        obtain ⟨q, hq⟩ : ∃ q, y[k]? = some q := ⟨_, List.getElem?_eq_getElem hlty⟩
        obtain ⟨c0, c1⟩ := hc k p hp
        obtain ⟨d0, d1⟩ := hd k q hq
        rw [← hbw.cell (p := g.add (k * 2)) (by rw [addBlock]; exact hlb)] at c0
        rw [← hbw.cell (p := ⟨(g.add (k * 2)).block, (g.add (k * 2)).off + 1, none⟩) (by show (g.add (k * 2)).block < _; rw [addBlock]; exact hlb)] at c1
        rw [← hbw.cell (p := g'.add (k * 2)) (by rw [addBlock]; exact hlb')] at d0
        rw [← hbw.cell (p := ⟨(g'.add (k * 2)).block, (g'.add (k * 2)).off + 1, none⟩) (by show (g'.add (k * 2)).block < _; rw [addBlock]; exact hlb')] at d1
        have HP := Lib.hid hp
        have HQ := Lib.hid hq
        clear hp hq hc hd
        go_wp2_with fail
        go_region_with ((go_at_call 35; refine (HPL.out p q _).mono ?_; rintro e w2 ⟨rfl, b2⟩))
        all_goals
          by_cases hpq : p = q
          · have hd : decide (p = q) = true := decide_eq_true hpq
            have b3 : Below w.heap.size w w2 := hbw.drew.trans (b2.mono hsw)
            have hts := Lib.hid (take_succ_same HP.out HQ.out hte.out hpq)
            simp only [hd]
            clear b2
            go_wp2_with fail
            go_roundw
            case rel => exact ⟨k + 1, by omega, by go_num, hts, b3⟩
            case measure => simp [intOf]; omega
          · have hd : decide (p = q) = false := decide_eq_false hpq
            have hq2 : decide (x = y) = false := by
              refine decide_eq_false (fun e => ?_)
              subst e
              exact hpq (Option.some.inj (HP.out.symm.trans HQ.out))
            have b3 : Below w.heap.size w w2 := hbw.drew.trans (b2.mono hsw)
            simp only [hd]
            clear b2
            go_wp2_with fail
            go_ret
            exact ⟨ret_bool hq2.symm, b3⟩
      · have hke : k = x.length := by omega
        have hxy : decide (x = y) = true := by
          have h1 := hte.out
          rw [hke, List.take_length, HNE.out, List.take_length] at h1
          exact decide_eq_true h1
        clear hke
        go_wp2_with fail
        go_ret
        exact ⟨ret_bool hxy.symm, hbw⟩
  · have hbne : (((x.length : Nat) : Int) != ((y.length : Nat) : Int)) = true := by simp; omega
    have hq : decide (x = y) = false := decide_eq_false (fun e => hne (congrArg List.length e))
    rw [hq]
    clear hq hne hx2 hy2
    go_enter Tryz.func34, Tryz.ntmps34
    go_wp2_with fail
    go_ret
    exact ⟨rfl, Below.refl _ _⟩
set_option maxHeartbeats 400000 in
theorem plainAR_any (v u : Value) (x y : List Att) (w : World) (hx : ReadA w v x) (hy : ReadA w u y) (hl : x.length ≤ 140737488355328) (hm : y.length ≤ 140737488355328) :
    Calls Tryz.prog 14 #[v, u] w fun e w' => e = .returned (.bool (decide (x = y))) ∧ Below w.heap.size w w' := by
  have HS := Lib.hid (sameAR_any v u x y w hx hy hl hm)
  clear hx hy hl hm
  go_enter Tryz.func14, Tryz.ntmps14
  go_wp2_with (go_at_call 34; refine HS.out.mono ?_; rintro e w2 ⟨rfl, hb⟩)
  go_ret
  exact ⟨rfl, hb⟩
theorem nd_splitR (t u : Nd) : decide (t = u) = ((t.1 == u.1) && ((t.2.1 == u.2.1) && (((bts t.2.2.1).toList == (bts u.2.2.1).toList) && (((bts t.2.2.2.1).toList == (bts u.2.2.2.1).toList) && (((bts t.2.2.2.2.2).toList == (bts u.2.2.2.2.2).toList) && decide (t.2.2.2.2.1 = u.2.2.2.2.1)))))) := by
  obtain ⟨a, b, c, d, e, f⟩ := t
  obtain ⟨a', b', c', d', e', f'⟩ := u
  simp only
  rw [bts_eqb, bts_eqb, bts_eqb, Bool.eq_iff_iff]
  simp only [decide_eq_true_eq, Bool.and_eq_true, beq_iff_eq, Prod.mk.injEq]
  constructor
  · rintro ⟨rfl, rfl, rfl, rfl, rfl, rfl⟩
    exact ⟨rfl, rfl, rfl, rfl, rfl, rfl⟩
  · rintro ⟨rfl, rfl, rfl, rfl, rfl, rfl⟩
    exact ⟨rfl, rfl, rfl, rfl, rfl, rfl⟩
set_option maxHeartbeats 4000000 in
set_option maxRecDepth 100000 in
theorem nodeEqR_any (t u : Nd) (v v' : Value) (w : World) (hv : ReadA w v t.2.2.2.2.1) (hv' : ReadA w v' u.2.2.2.2.1) (hl : t.2.2.2.2.1.length ≤ 1000000000) (hl' : u.2.2.2.2.1.length ≤ 1000000000) :
    Calls Tryz.prog 9 #[agC t v, agC u v'] w fun e w' => e = .returned (.bool (decide (t = u))) ∧ Below w.heap.size w w' := by
  have HP := Lib.hid (fun (W : World) (h : Below w.heap.size w W) => plainAR_any v v' _ _ W (hv.below h) (hv'.below h) (by omega) (by omega))
  rw [nd_splitR t u]
  obtain ⟨A, cap, rfl, _⟩ := hv
  obtain ⟨A', cap', rfl, _⟩ := hv'
  unfold agC
  obtain ⟨n, hn⟩ : ∃ n, t.2.2.2.2.1.length = n := ⟨_, rfl⟩
  obtain ⟨n', hn'⟩ : ∃ n, u.2.2.2.2.1.length = n := ⟨_, rfl⟩
  obtain ⟨a0, h0⟩ : ∃ a : Int, t.1 = a := ⟨_, rfl⟩
  obtain ⟨a1, h1⟩ : ∃ a : Int, t.2.1 = a := ⟨_, rfl⟩
  obtain ⟨a2, h2⟩ : ∃ a, bts t.2.2.1 = a := ⟨_, rfl⟩
  obtain ⟨a3, h3⟩ : ∃ a, bts t.2.2.2.1 = a := ⟨_, rfl⟩
  obtain ⟨a5, h5⟩ : ∃ a, bts t.2.2.2.2.2 = a := ⟨_, rfl⟩
  obtain ⟨b0, k0⟩ : ∃ a : Int, u.1 = a := ⟨_, rfl⟩
  obtain ⟨b1, k1⟩ : ∃ a : Int, u.2.1 = a := ⟨_, rfl⟩
  obtain ⟨b2, k2⟩ : ∃ a, bts u.2.2.1 = a := ⟨_, rfl⟩
  obtain ⟨b3, k3⟩ : ∃ a, bts u.2.2.2.1 = a := ⟨_, rfl⟩
  obtain ⟨b5, k5⟩ : ∃ a, bts u.2.2.2.2.2 = a := ⟨_, rfl⟩
  obtain ⟨d, hd⟩ : ∃ d, decide (t.2.2.2.2.1 = u.2.2.2.2.1) = d := ⟨_, rfl⟩
  rw [hn, hn', hd] at HP
  rw [hn, hn', h0, h1, h2, h3, h5, k0, k1, k2, k3, k5, hd]
  clear hn hn' h0 h1 h2 h3 h5 k0 k1 k2 k3 k5 hd hl hl'
  have hcs : ∃ e0 e1 e2 e3 e5 : Bool, (a0 == b0) = e0 ∧ (a1 == b1) = e1 ∧ (a2.toList == b2.toList) = e2 ∧ (a3.toList == b3.toList) = e3 ∧ (a5.toList == b5.toList) = e5 := ⟨_, _, _, _, _, rfl, rfl, rfl, rfl, rfl⟩
  obtain ⟨e0, e1, e2, e3, e5, g0, g1, g2, g3, g5⟩ := hcs
  rw [g0, g1, g2, g3, g5]
  have hB2 : Hid (Below w.heap.size w ((w.alloc (.cells #[.int .i64 a0, .int .i64 a1, .string a2, .string a3, .slice A n cap, .string a5] 32)).alloc (.cells #[.int .i64 b0, .int .i64 b1, .string b2, .string b3, .slice A' n' cap', .string b5] 32))) := ((Below.refl _ w).alloc (Nat.le_refl _) _).alloc (by simp) _
  have hc2 : e0 = false ∨ (e0 = true ∧ (e1 = false ∨ (e1 = true ∧ (e2 = false ∨ (e2 = true ∧ (e3 = false ∨ (e3 = true ∧ (e5 = false ∨ e5 = true)))))))) := by cases e0 <;> cases e1 <;> cases e2 <;> cases e3 <;> cases e5 <;> simp
  rcases hc2 with rfl | ⟨rfl, rfl | ⟨rfl, rfl | ⟨rfl, rfl | ⟨rfl, rfl | rfl⟩⟩⟩⟩
  case' inr.inr.inr.inr.inr =>
    go_enter Tryz.func9, Tryz.ntmps9
    go_wp2_with (go_at_call 14; refine (HP.out _ hB2.out).mono ?_; rintro e w3 ⟨rfl, b3⟩)
    go_ret
    exact ⟨rfl, hB2.out.trans (b3.mono hB2.out.size)⟩
  all_goals
    go_enter Tryz.func9, Tryz.ntmps9
    go_wp2_with fail
    go_ret
    exact ⟨by simp, hB2.out⟩
set_option maxHeartbeats 4000000 in
set_option maxRecDepth 100000 in
theorem sameNR_any (v u : Value) (x y : List Nd) (w : World) (hx : ReadN w v x) (hy : ReadN w u y) (hl : x.length ≤ 1000000000) (hm : y.length ≤ 1000000000) (hal : ∀ t ∈ x, t.2.2.2.2.1.length ≤ 1000000000) (hbl : ∀ t ∈ y, t.2.2.2.2.1.length ≤ 1000000000) :
    Calls Tryz.prog 7 #[v, u, .func (.func 9) #[] #[]] w fun e w' => e = .returned (.bool (decide (x = y))) ∧ Below w.heap.size w w' := by
  obtain ⟨A, cap, rfl, hx2⟩ := hx
  obtain ⟨A', cap', rfl, hy2⟩ := hy
  by_cases hne : x.length = y.length
  · have HNE := Lib.hid hne
    have HX := Lib.hid hx2
    have HY := Lib.hid hy2
    have HAL := Lib.hid hal
    have HBL := Lib.hid hbl
    have hbne : (((x.length : Nat) : Int) != ((y.length : Nat) : Int)) = false := by simp [hne]
    have HPL := Lib.hid nodeEqR_any
    clear hne hx2 hy2 hal hbl
    go_enter Tryz.func7, Tryz.ntmps7
    go_wp2_with fail
    go_loopw [7] (fun i wr => ∃ (k : Nat), k ≤ x.length ∧ i = .int .i64 k ∧ Hid (x.take k = y.take k) ∧ Below w.heap.size w wr) (fun i _ => x.length - (intOf i).toNat)
    case atStart => exact ⟨0, Nat.zero_le _, rfl, Lib.hid (by simp), Below.refl _ _⟩
    case round =>
      obtain ⟨k, hk, rfl, hte, hbw⟩ := hrel
      have hsw := hbw.size
      by_cases hlt : k < x.length
      · have hlty : k < y.length := by rw [← HNE.out]; exact hlt
        obtain ⟨g, rfl, hlb, hc⟩ := HX.out (by omega)
        obtain ⟨g', rfl, hlb', hd⟩ := HY.out (by omega)
        obtain ⟨p, hp⟩ : ∃ p, x[k]? = some p := ⟨_, List.getElem?_eq_getElem hlt⟩
        obtain ⟨q, hq⟩ : ∃ q, y[k]? = some q := ⟨_, List.getElem?_eq_getElem hlty⟩
        obtain ⟨pv, hpat, rp⟩ := hc k p hp
        obtain ⟨qv, hqat, rq⟩ := hd k q hq
        obtain ⟨c0, c1, c2, c3, c4, c5⟩ := hpat.of (w' := wr) (hbw.block _ (by rw [addBlock]; exact hlb))
        obtain ⟨d0, d1, d2, d3, d4, d5⟩ := hqat.of (w' := wr) (hbw.block _ (by rw [addBlock]; exact hlb'))
        have rp2 := rp.below hbw
        have rq2 := rq.below hbw
        have HPQ := Lib.hid (fun (W : World) (h : Below wr.heap.size wr W) => HPL.out p q pv qv W (rp2.below h) (rq2.below h) (HAL.out p (List.mem_of_getElem? hp)) (HBL.out q (List.mem_of_getElem? hq)))
        obtain ⟨P, cp, rfl, _⟩ := rp
        obtain ⟨R, cr, rfl, _⟩ := rq
        have HP := Lib.hid hp
        have HQ := Lib.hid hq
        unfold agC at HPQ
        obtain ⟨np, hnp⟩ : ∃ n, p.2.2.2.2.1.length = n := ⟨_, rfl⟩
        obtain ⟨nq0, hnq⟩ : ∃ n, q.2.2.2.2.1.length = n := ⟨_, rfl⟩
        obtain ⟨a0, h0⟩ : ∃ a : Int, p.1 = a := ⟨_, rfl⟩
        obtain ⟨a1, h1⟩ : ∃ a : Int, p.2.1 = a := ⟨_, rfl⟩
        obtain ⟨a2, h2⟩ : ∃ a, bts p.2.2.1 = a := ⟨_, rfl⟩
        obtain ⟨a3, h3⟩ : ∃ a, bts p.2.2.2.1 = a := ⟨_, rfl⟩
        obtain ⟨a5, h5⟩ : ∃ a, bts p.2.2.2.2.2 = a := ⟨_, rfl⟩
        obtain ⟨b0, k0⟩ : ∃ a : Int, q.1 = a := ⟨_, rfl⟩
        obtain ⟨b1, k1⟩ : ∃ a : Int, q.2.1 = a := ⟨_, rfl⟩
        obtain ⟨b2, k2⟩ : ∃ a, bts q.2.2.1 = a := ⟨_, rfl⟩
        obtain ⟨b3, k3⟩ : ∃ a, bts q.2.2.2.1 = a := ⟨_, rfl⟩
        obtain ⟨b5, k5⟩ : ∃ a, bts q.2.2.2.2.2 = a := ⟨_, rfl⟩
        rw [h0, h1, h2, h3, h5, k0, k1, k2, k3, k5, hnp, hnq] at HPQ
        rw [h0] at c0
        rw [h1] at c1
        rw [h2] at c2
        rw [h3] at c3
        rw [hnp] at c4
        rw [h5] at c5
        rw [k0] at d0
        rw [k1] at d1
        rw [k2] at d2
        rw [k3] at d3
        rw [hnq] at d4
        rw [k5] at d5
        clear hp hq hc hd rp2 rq2 hpat hqat h0 h1 h2 h3 h5 k0 k1 k2 k3 k5 hnp hnq
        go_wp2_with fail
        go_region_with ((go_at_call 9; refine (HPQ.out _ ?_).mono ?_; exact ⟨rfl, rfl, rfl, Nat.le_refl _, fun _ _ => rfl⟩; rintro e w2 ⟨rfl, b2⟩))
        all_goals
          by_cases hpq : p = q
          · have hd : decide (p = q) = true := decide_eq_true hpq
            have b3 : Below w.heap.size w w2 := hbw.drew.trans (b2.mono hsw)
            have hts := Lib.hid (take_succ_same HP.out HQ.out hte.out hpq)
            simp only [hd]
            clear b2 c0 c1 c2 c3 c4 c5 d0 d1 d2 d3 d4 d5 hpq
            go_wp2_with fail
            go_roundw
            case rel => exact ⟨k + 1, by omega, by go_num, hts, b3⟩
            case measure => simp [intOf]; omega
          · have hd : decide (p = q) = false := decide_eq_false hpq
            have hq2 : decide (x = y) = false := by
              refine decide_eq_false (fun e => ?_)
              subst e
              exact hpq (Option.some.inj (HP.out.symm.trans HQ.out))
            have b3 : Below w.heap.size w w2 := hbw.drew.trans (b2.mono hsw)
            simp only [hd]
            clear b2 c0 c1 c2 c3 c4 c5 d0 d1 d2 d3 d4 d5 hpq
            go_wp2_with fail
            go_ret
            exact ⟨ret_bool hq2.symm, b3⟩
      · have hke : k = x.length := by omega
        have hxy : decide (x = y) = true := by
          have h1 := hte.out
          rw [hke, List.take_length, HNE.out, List.take_length] at h1
          exact decide_eq_true h1
        clear hke
        go_wp2_with fail
        go_ret
        exact ⟨ret_bool hxy.symm, hbw⟩
  · have hbne : (((x.length : Nat) : Int) != ((y.length : Nat) : Int)) = true := by simp; omega
    have hq : decide (x = y) = false := decide_eq_false (fun e => hne (congrArg List.length e))
    rw [hq]
    clear hq hne hx2 hy2 hal hbl
    go_enter Tryz.func7, Tryz.ntmps7
    go_wp2_with fail
    go_ret
    exact ⟨rfl, Below.refl _ _⟩
end Go.Proofs.YtbkfmbkamocllaaGreatDoor
/-
  The law's bare: nodes without their places; nodes in a row that the call has made, their attributes wherever they lie.
-/
namespace Go.Proofs.YtbkfmbkamocllaaGreatDoor
open Go.RowKit Tk Tr Cn

/-- The slice v, made by the call (above block B), holds just these nodes, each with where its attributes lie. -/
def OwnV (B : Nat) (w : World) (v : Value) (ks : List (Nd × Value)) : Prop := w.ownsRow B 32 6 v ks.length (nds ks)
theorem OwnV.nil (B : Nat) (w : World) : OwnV B w (.slice none 0 0) [] := by
  unfold OwnV
  rw [nds_nil]
  exact World.ownsRow_nil _ _ _ _
theorem OwnV.slice {B : Nat} {w : World} {v : Value} {ks : List (Nd × Value)} (h : OwnV B w v ks) : ∃ A cap, v = .slice A ks.length cap := by
  rcases h.2 with ⟨rfl, h0⟩ | ⟨g, cap, cur, rfl, _⟩
  · exact ⟨none, 0, by rw [h0]⟩
  · exact ⟨_, _, rfl⟩
theorem OwnV.below {B : Nat} {w w' : World} {v : Value} {ks : List (Nd × Value)} (h : OwnV B w v ks) (hb : Below w.heap.size w w') : OwnV B w' v ks :=
  ⟨h.1, h.2.imp id fun ⟨g, cap, cur, k1, k2, k3, k4⟩ => ⟨g, cap, cur, k1, k2, (hb.block g (lt_of_block k3)).trans k3, k4⟩⟩
theorem OwnV.reads {B : Nat} {w : World} {v : Value} {ks : List (Nd × Value)} (h : OwnV B w v ks) (hr : ∀ k ∈ ks, ReadA w k.2 k.1.2.2.2.2.1) : ReadN w v (ks.map (·.1)) := by
  rcases h.2 with ⟨rfl, h0⟩ | ⟨g, cap, cur, rfl, hg, hh, h1, h2, h3, h4⟩
  · exact ⟨none, 0, by rw [List.length_map, h0], fun h => by rw [List.length_map] at h; omega⟩
  · refine ⟨_, cap, by rw [List.length_map], fun _ => ⟨_, rfl, lt_of_block hh, fun i x hi => ?_⟩⟩
    rw [List.getElem?_map] at hi
    obtain ⟨k, hk, rfl⟩ := Option.map_eq_some_iff.1 hi
    have hlt := (List.getElem?_eq_some_iff.1 hk).1
    have hc : ∀ j, j < 6 → w.cell? ⟨g, i * 6 + j, none⟩ = (encN k)[j]? := fun j hj => by
      rw [show w.cell? ⟨g, i * 6 + j, none⟩ = cur[i * 6 + j]? from Bk.cell (show Bk w g 32 cur from hh) _, ← Array.getElem?_toList, ← nds_get hk hj, ← h4, List.getElem?_take_of_lt (by omega)]
    refine ⟨k.2, ?_, hr k (List.mem_of_getElem? hk)⟩
    rw [add_at, Nat.zero_add]
    refine ⟨?_, ?_, ?_, ?_, ?_, ?_⟩
    · exact hc 0 (by omega)
    · exact hc 1 (by omega)
    · exact hc 2 (by omega)
    · exact hc 3 (by omega)
    · exact hc 4 (by omega)
    · exact hc 5 (by omega)
/-- An append of one node. -/
theorem push_nodeV {ops : Array Oper} {rest : List Oper} {o : Oper} {a : Act} {Q : Exit → Act → World → Prop} (hgd : o.guard = none) (s y : Operand) (ho : o.op = .call { callee := .builtin .append, args := #[s, y], argTypes := #[22, 22] })
    (B : Nat) (v : Value) (ks : List (Nd × Value)) (x : Nd) (av : Value) (k0 k1 : Int) (s2 s3 s5 : ByteArray) (e0 : x.1 = k0) (e1 : x.2.1 = k1) (e2 : bts x.2.2.1 = s2) (e3 : bts x.2.2.2.1 = s3) (e5 : bts x.2.2.2.2.2 = s5) (w0 : World)
    (hs : a.eval s = v) (hown : OwnV B w0 v ks) (hu : av.oneCell' = true) (hy : a.eval y = .slice (some ⟨w0.heap.size, 0, none⟩) 1 1) (hn : ks.length ≤ 1000000000) (hB : B ≤ w0.heap.size)
    (h : ∀ v' w', OwnV B w' v' (ks ++ [(x, av)]) → Below B w0 w' → wpList Tryz.prog ops Q rest (a.put o.dst v') w') : wpList Tryz.prog ops Q (o :: rest) a (w0.alloc (.cells #[.int .i64 k0, .int .i64 k1, .string s2, .string s3, av, .string s5] 32)) := by
  subst e0 e1 e2 e3 e5
  obtain ⟨i0, hi, hz0, hz1, hz2⟩ := info_parts infoNod
  have hown' : w0.ownsRow B 32 6 v ks.length (nds ks) := hown
  refine wpList_append_own _ hgd s y 22 ho B 32 i0 _ 6 88 Tryz.underlying22 hi hz0 hz1 hz2 rfl (by decide) v ks.length (nds ks) hs (hown'.alloc _) ⟨w0.heap.size, 0, none⟩ 1 1 (encN (x, av)) hy rfl ?_ ?_ ?_ (by omega) (by simp; omega) ?_
  · intro j u hj
    rw [add_at, cell_of_row _ _ _ #[_, _, _, _, _, _] _ (0, 0) (heap_alloc_new w0 _), Nat.zero_add]
    simpa [encN] using hj
  · intro u hy
    simp [encN] at hy
    rcases hy with rfl | rfl | rfl | rfl | rfl | rfl
    · rfl
    · rfl
    · rfl
    · rfl
    · exact hu
    · rfl
  · unfold maxLen; omega
  · intro v' w' hown2 hg _
    refine h v' w' ?_ (((Below.refl B w0).alloc hB _).grown hg (by simp; omega) (fun j hj => (World.ownsRow.lt hown' j hj).1))
    unfold OwnV
    rw [nds_append, nds_one, List.length_append, List.length_singleton]
    exact hown2
set_option maxHeartbeats 4000000 in
set_option maxRecDepth 100000 in
theorem bare_any (v : Value) (ns : List Nd) (w : World) (hv : ReadN w v ns) (hl : ns.length ≤ 1000000) :
    Calls Tryz.prog 8 #[v] w fun e w' => (∃ v', e = .returned v' ∧ ReadN w' v' (ns.map noAt)) ∧ Below w.heap.size w w' := by
  obtain ⟨A, cap, rfl, hx⟩ := hv
  have HX := Lib.hid hx
  obtain ⟨n, hn⟩ : ∃ n, ns.length = n := ⟨_, rfl⟩
  have HN := Lib.hid hn
  rw [hn] at hl HX ⊢
  clear hx hn
  go_enter Tryz.func8, Tryz.ntmps8
  go_wp2_with fail
  go_loopw [3, 4] (fun ov c wr => ∃ (k : Nat) (nw : Value) (ks : List (Nd × Value)), k ≤ n ∧ c = .int .i64 k ∧ ov = nw ∧ Hid (ks.map (·.1) = (ns.take k).map noAt) ∧ Hid (OwnV w.heap.size wr nw ks) ∧ Hid (∀ p ∈ ks, ReadA w p.2 p.1.2.2.2.2.1) ∧ Hid (Below w.heap.size w wr)) (fun _ c _ => n - (intOf c).toNat)
  case atStart => exact ⟨0, _, [], Nat.zero_le _, rfl, rfl, rfl, OwnV.nil _ _, Lib.hid (fun (p : Nd × Value) (h : p ∈ []) => absurd h List.not_mem_nil), Below.refl _ _⟩
  case round =>
    obtain ⟨k, nw, ks, hk, rfl, hnv, hks, ho, hra, hb⟩ := hrel
    have hnv2 := hnv.symm
    clear hnv
    subst hnv2
    obtain ⟨KA, kcap, hnf⟩ := ho.out.slice
    subst hnf
    have hkn : ks.length = k := by
      have := congrArg List.length hks.out
      rw [List.length_map, List.length_map, List.length_take] at this
      have := HN.out
      omega
    have HKN := Lib.hid hkn
    rw [hkn] at ho ⊢
    clear hkn
    by_cases hlt : k < n
    · obtain ⟨ad, rfl, hlb, hc⟩ := HX.out (by omega)
      obtain ⟨x, hxx⟩ : ∃ x, ns[k]? = some x := ⟨_, List.getElem?_eq_getElem (by have := HN.out; omega)⟩
      obtain ⟨u, hat, hua⟩ := hc k x hxx
      obtain ⟨k0, k1, k2, k3, k4, k5⟩ := hat.of (w' := wr) (hb.out.block _ (by rw [addBlock]; exact hlb))
      have hone := hua.one
      have HUA := Lib.hid hua
      obtain ⟨UA, ucap, rfl, -⟩ := hua
      obtain ⟨un, hun⟩ : ∃ un, x.2.2.2.2.1.length = un := ⟨_, rfl⟩
      rw [hun] at k4 HUA hone
      have HTK : Hid ((ns.take (k + 1)).map noAt = (ns.take k).map noAt ++ [noAt x]) := by unfold Hid; rw [List.take_add_one, hxx, List.map_append]; rfl
      have HE : Hid ((noAt x).1 = x.1 ∧ bts (noAt x).2.2.1 = bts x.2.2.1 ∧ bts (noAt x).2.2.2.1 = bts x.2.2.2.1 ∧ bts (noAt x).2.2.2.2.2 = bts x.2.2.2.2.2) := ⟨rfl, rfl, rfl, rfl⟩
      have HRA2 : Hid (∀ p ∈ ks ++ [(noAt x, Value.slice UA un ucap)], ReadA w p.2 p.1.2.2.2.2.1) := fun p hp => by
        rcases List.mem_append.1 hp with hp | hp
        · exact hra.out p hp
        · rw [List.mem_singleton] at hp
          subst hp
          exact HUA.out
      obtain ⟨a0, h0⟩ : ∃ a : Int, x.1 = a := ⟨_, rfl⟩
      obtain ⟨a1, h1⟩ : ∃ a : Int, x.2.1 = a := ⟨_, rfl⟩
      obtain ⟨a2, h2⟩ : ∃ a, bts x.2.2.1 = a := ⟨_, rfl⟩
      obtain ⟨a3, h3⟩ : ∃ a, bts x.2.2.2.1 = a := ⟨_, rfl⟩
      obtain ⟨a5, h5⟩ : ∃ a, bts x.2.2.2.2.2 = a := ⟨_, rfl⟩
      rw [h0] at k0 HE
      rw [h1] at k1
      rw [h2] at k2 HE
      rw [h3] at k3 HE
      rw [h5] at k5 HE
      obtain ⟨Y, hY⟩ : ∃ Y, wr.heap.size = Y := ⟨_, rfl⟩
      obtain ⟨W7, hW7⟩ : ∃ W, wr.alloc (.cells #[.int .i64 a0, .int .i64 0, .string a2, .string a3, .slice UA un ucap, .string a5] 32) = W := ⟨_, rfl⟩
      have hw7 : Below wr.heap.size wr W7 := by rw [← hW7]; exact (Below.refl _ _).alloc (Nat.le_refl _) _
      have hk7 : Bk W7 Y 32 #[.int .i64 a0, .int .i64 0, .string a2, .string a3, .slice UA un ucap, .string a5] := by rw [← hW7, ← hY]; exact Bk.new _ _ _
      have y0 : W7.cell? ⟨Y, 0, none⟩ = some (.int .i64 a0) := hk7.cell 0
      have y1 : W7.cell? ⟨Y, 1, none⟩ = some (.int .i64 0) := hk7.cell 1
      have y2 : W7.cell? ⟨Y, 2, none⟩ = some (.string a2) := hk7.cell 2
      have y3 : W7.cell? ⟨Y, 3, none⟩ = some (.string a3) := hk7.cell 3
      have y4 : W7.cell? ⟨Y, 4, none⟩ = some (.slice UA un ucap) := hk7.cell 4
      have y5 : W7.cell? ⟨Y, 5, none⟩ = some (.string a5) := hk7.cell 5
      have O7 : Hid (OwnV w.heap.size W7 (.slice KA k kcap) ks) := ho.out.below hw7
      have B7 : Hid (Below w.heap.size w W7) := hb.out.trans (hw7.mono hb.out.size)
      have HW7 := Lib.hid hW7
      have HYE := Lib.hid hY
      have HLE : Hid (w.heap.size ≤ W7.heap.size) := B7.out.size
      have HKL : Hid (ks.length ≤ 1000000000) := by unfold Hid; rw [HKN.out]; omega
      clear hc hxx hat hun h0 h1 h2 h3 h5 hY hW7 hw7 hk7 ho hb
      go_upto_region 7 with fail
      rw [HW7.out, HYE.out]
      clear k0 k1 k2 k3 k4 k5
      go_wp2_with (at_builtin; refine push_nodeV rfl _ _ rfl w.heap.size (.slice KA k kcap) ks (noAt x) (.slice UA un ucap) a0 0 a2 a3 a5 HE.out.1 rfl HE.out.2.1 HE.out.2.2.1 HE.out.2.2.2 W7 rfl O7.out hone rfl HKL.out HLE.out ?_)
      intro v9 w9 o9 b9
      have O9 := Lib.hid o9
      have B9 : Hid (Below w.heap.size w w9) := B7.out.trans b9
      have HK9 : Hid ((ks ++ [(noAt x, Value.slice UA un ucap)]).map (·.1) = (ns.take (k + 1)).map noAt) := by unfold Hid; rw [List.map_append, hks.out, HTK.out]; rfl
      clear o9 b9
      go_wp2_with fail
      go_roundw
      case rel => exact ⟨k + 1, _, _, by omega, by go_num, rfl, HK9, O9, HRA2, B9⟩
      case measure => simp [intOf]; omega
    · have HT : Hid (ns.take k = ns) := by unfold Hid; rw [List.take_of_length_le (by have := HN.out; omega)]
      go_wp2_with fail
      go_ret
      refine ⟨⟨_, rfl, ?_⟩, hb.out⟩
      have h1 := ho.out.reads (fun p hp => (hra.out p hp).below hb.out)
      rw [hks.out, HT.out] at h1
      exact h1
end Go.Proofs.YtbkfmbkamocllaaGreatDoor
