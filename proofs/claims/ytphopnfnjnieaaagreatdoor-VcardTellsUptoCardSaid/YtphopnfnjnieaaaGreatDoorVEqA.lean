/-
  slices.Equal at attributes that can be read.
-/
import Derived.Test.YtphopnfnjnieaaaGreatDoorAtS
import Derived.Test.YtphopnfnjnieaaaGreatDoorVLin
namespace Go.Proofs.YtphopnfnjnieaaaGreatDoor
open Go.RowKit Vc

theorem neqAt (p q : Att) (w : World) : (binOp .neq 38 (agA p) (agA q)).run Tryz.prog w = .ok (.bool (!decide (p = q))) w := by
  rw [run_neq_struct, equalAt]
  rfl
theorem pr_split (t u : Pr) : decide (t = u) = (((bts t.1).toList == (bts u.1).toList) && (((bts t.2.1).toList == (bts u.2.1).toList) && (((bts t.2.2.2).toList == (bts u.2.2.2).toList) && decide (t.2.2.1 = u.2.2.1)))) := by
  obtain ⟨a, b, e, f⟩ := t
  obtain ⟨a', b', e', f'⟩ := u
  simp only
  rw [bts_eqb, bts_eqb, bts_eqb, Bool.eq_iff_iff]
  simp only [decide_eq_true_eq, Bool.and_eq_true, Prod.mk.injEq]
  constructor
  · rintro ⟨rfl, rfl, rfl, rfl⟩
    exact ⟨rfl, rfl, rfl, rfl⟩
  · rintro ⟨rfl, rfl, rfl, rfl⟩
    exact ⟨rfl, rfl, rfl, rfl⟩
set_option maxHeartbeats 4000000 in
set_option maxRecDepth 100000 in
/-- slices.Equal -/
theorem sEqual_any (v u : Value) (x y : List Att) (w : World) (hx : ReadA w v x) (hy : ReadA w u y) (hl : x.length ≤ 1000000000) (hm : y.length ≤ 1000000000) :
    Calls Tryz.prog 64 #[v, u] w fun e w' => e = .returned (.bool (decide (x = y))) ∧ Below w.heap.size w w' := by
  obtain ⟨A, cap, rfl, hx2⟩ := hx
  obtain ⟨A', cap', rfl, hy2⟩ := hy
  by_cases hne : x.length = y.length
  · have HNE := Lib.hid hne
    have HX := Lib.hid hx2
    have HY := Lib.hid hy2
    have hbne : (((x.length : Nat) : Int) != ((y.length : Nat) : Int)) = false := by simp [hne]
    have HE0 : Hid (x.take 0 = y.take 0) := by unfold Hid; simp
    have HB0 : Hid (Below w.heap.size w w) := Below.refl _ _
    clear hne hx2 hy2
    go_enter Tryz.func64, Tryz.ntmps64
    go_wp2_with fail
    go_loopw [13] (fun i wr => ∃ (k : Nat), k ≤ x.length ∧ i = .int .i64 k ∧ Hid (x.take k = y.take k) ∧ Hid (Below w.heap.size w wr)) (fun i _ => x.length - (intOf i).toNat)
    case atStart => exact ⟨0, Nat.zero_le _, rfl, HE0, HB0⟩
    case round =>
      obtain ⟨k, hk, rfl, hte, HBW⟩ := hrel
      by_cases hlt : k < x.length
      · have hlty : k < y.length := by rw [← HNE.out]; exact hlt
        obtain ⟨g, rfl, hlb, hc⟩ := HX.out (by omega)
        obtain ⟨g', rfl, hlb', hd⟩ := HY.out (by omega)
        obtain ⟨p, hp⟩ : ∃ p, x[k]? = some p := ⟨_, List.getElem?_eq_getElem hlt⟩
        obtain ⟨q, hq⟩ : ∃ q, y[k]? = some q := ⟨_, List.getElem?_eq_getElem hlty⟩
        obtain ⟨c0, c1⟩ := hc k p hp
        obtain ⟨d0, d1⟩ := hd k q hq
        rw [← HBW.out.cell (p := g.add (k * 2)) (by rw [addBlock]; exact hlb)] at c0
        rw [← HBW.out.cell (p := ⟨(g.add (k * 2)).block, (g.add (k * 2)).off + 1, none⟩) (by show (g.add (k * 2)).block < _; rw [addBlock]; exact hlb)] at c1
        rw [← HBW.out.cell (p := g'.add (k * 2)) (by rw [addBlock]; exact hlb')] at d0
        rw [← HBW.out.cell (p := ⟨(g'.add (k * 2)).block, (g'.add (k * 2)).off + 1, none⟩) (by show (g'.add (k * 2)).block < _; rw [addBlock]; exact hlb')] at d1
        have e1 := fun W => neqAt p q W
        have e2 := fun op x y W => eqGuardA op x y p q W
        simp only [agA] at e1 e2
        have HP := Lib.hid hp
        have HQ := Lib.hid hq
        obtain ⟨pq, hpq⟩ : ∃ b, decide (p = q) = b := ⟨_, rfl⟩
        have HPQ := Lib.hid hpq
        rw [hpq] at e1
        clear hp hq hc hd hpq
        go_wp2_with fail
        cases pq
        · go_quiet (fail)
          have hq2 : decide (x = y) = false := by
            refine decide_eq_false (fun e => ?_)
            subst e
            exact of_decide_eq_false HPQ.out (Option.some.inj (HP.out.symm.trans HQ.out))
          clear c0 c1 d0 d1 e1 e2
          go_wp2_with fail
          go_ret
          exact ⟨ret_bool hq2.symm, below_drewQ HBW.out _⟩
        · go_quiet (fail)
          have hts := Lib.hid (take_succ_same HP.out HQ.out hte.out (of_decide_eq_true HPQ.out))
          have B3 : Hid (Below w.heap.size w (wr.drewN nq)) := below_drewQ HBW.out _
          clear c0 c1 d0 d1 e1 e2
          go_wp2_with fail
          go_roundw
          case rel => exact ⟨k + 1, by omega, by go_num, hts, B3⟩
          case measure => simp [intOf]; omega
      · have hke : k = x.length := by omega
        have hxy : decide (x = y) = true := by
          have h1 := hte.out
          rw [hke, List.take_length, HNE.out, List.take_length] at h1
          exact decide_eq_true h1
        clear hke
        go_wp2_with fail
        go_ret
        exact ⟨ret_bool hxy.symm, HBW.out⟩
  · have hbne : (((x.length : Nat) : Int) != ((y.length : Nat) : Int)) = true := by simp; omega
    have hq : decide (x = y) = false := decide_eq_false (fun e => hne (congrArg List.length e))
    rw [hq]
    clear hq hne hx2 hy2
    go_enter Tryz.func64, Tryz.ntmps64
    go_wp2_with fail
    go_ret
    exact ⟨rfl, Below.refl _ _⟩
end Go.Proofs.YtphopnfnjnieaaaGreatDoor
