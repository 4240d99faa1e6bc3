import Derived.Test.YtogjhpcjjmcjfaaGreatDoorM32
import Derived.Test.YtogjhpcjjmcjfaaGreatDoorM04
import Derived.Test.YtogjhpcjjmcjfaaGreatDoorM19
import Derived.BigQuiet
/- what is reached of it -/
namespace Go.Proofs.YtogjhpcjjmcjfaaGreatDoor
open Go.RowKit Tx Vc Ct
set_option maxHeartbeats 4000000 in
set_option maxRecDepth 100000 in
theorem helpI_same (x : Itm) (g1 g2 : Slc) (w : World) (h1 : ReadT w.heap.size w (sl g1) (sts x.groups)) (h2 : ReadT w.heap.size w (sl g2) (sts x.groups)) (hl : x.groups.length ≤ 140737488355328) :
    Calls Tryz.prog 23 #[agI x (sl g1), agI x (sl g2)] w fun e w' => e = .returned (.bool true) ∧ Below w.heap.size w w' := by
  obtain ⟨pA, pn, pc⟩ := g1
  obtain ⟨qA, qn, qc⟩ := g2
  have HPL : Hid (∀ W, Below w.heap.size w W → Calls Tryz.prog 19 #[.slice pA pn pc, .slice qA qn qc] W fun e w' => e = .returned (.bool true) ∧ Below W.heap.size W w') := fun W hW => by
    have := plainT_any W.heap.size (.slice pA pn pc) (.slice qA qn qc) (sts x.groups) (sts x.groups) W ((h1.below hW).more hW.size) ((h2.below hW).more hW.size) (by unfold sts; rw [List.length_map]; exact hl) (by unfold sts; rw [List.length_map]; exact hl)
    rw [decide_eq_true rfl] at this
    exact this
  have e1 : agI x (sl (pA, pn, pc)) = .agg #[.string (bts x.jid), .string (bts x.name), .slice pA pn pc, .int .i64 x.sub, .bool x.ask, .bool x.app] := rfl
  have e2 : agI x (sl (qA, qn, qc)) = .agg #[.string (bts x.jid), .string (bts x.name), .slice qA qn qc, .int .i64 x.sub, .bool x.ask, .bool x.app] := rfl
  rw [e1, e2]
  obtain ⟨X, hX⟩ : ∃ X, bts x.jid = X := ⟨_, rfl⟩
  obtain ⟨M, hM⟩ : ∃ X, bts x.name = X := ⟨_, rfl⟩
  obtain ⟨xs, hs⟩ : ∃ X, x.sub = X := ⟨_, rfl⟩
  obtain ⟨xk, hk⟩ : ∃ X, x.ask = X := ⟨_, rfl⟩
  obtain ⟨xa, ha⟩ : ∃ X, x.app = X := ⟨_, rfl⟩
  rw [hX, hM, hs, hk, ha]
  clear e1 e2 hX hM hs hk ha h1 h2 hl
  obtain ⟨W1, hW1⟩ : ∃ W1, w.alloc (.cells #[.string X, .string M, .slice pA pn pc, .int .i64 xs, .bool xk, .bool xa] 24) = W1 := ⟨_, rfl⟩
  obtain ⟨p, hp⟩ : ∃ G, w.heap.size = G := ⟨_, rfl⟩
  have k1 : Bk W1 p 24 #[.string X, .string M, .slice pA pn pc, .int .i64 xs, .bool xk, .bool xa] := by rw [← hW1, ← hp]; exact Bk.new _ _ _
  have b1 : Below w.heap.size w W1 := by rw [← hW1]; exact (Below.refl _ _).alloc (Nat.le_refl _) _
  obtain ⟨W2, hW2⟩ : ∃ W1', W1.alloc (.cells #[.string X, .string M, .slice qA qn qc, .int .i64 xs, .bool xk, .bool xa] 24) = W1' := ⟨_, rfl⟩
  obtain ⟨q, hq⟩ : ∃ G, W1.heap.size = G := ⟨_, rfl⟩
  have k2 : Bk W2 q 24 #[.string X, .string M, .slice qA qn qc, .int .i64 xs, .bool xk, .bool xa] := by rw [← hW2, ← hq]; exact Bk.new _ _ _
  have b2 : Below W1.heap.size W1 W2 := by rw [← hW2]; exact (Below.refl _ _).alloc (Nat.le_refl _) _
  have B2 : Hid (Below w.heap.size w W2) := b1.trans (b2.mono b1.size)
  have k3 := k1.below b2 k1.lt
  have HP := Lib.hid hp
  have c0 : W2.cell? ⟨p, 0, none⟩ = some (.string X) := k3.cell 0
  have d0 : W2.cell? ⟨q, 0, none⟩ = some (.string X) := k2.cell 0
  have c1 : W2.cell? ⟨p, 1, none⟩ = some (.string M) := k3.cell 1
  have d1 : W2.cell? ⟨q, 1, none⟩ = some (.string M) := k2.cell 1
  have c2 : W2.cell? ⟨p, 2, none⟩ = some (.slice pA pn pc) := k3.cell 2
  have d2 : W2.cell? ⟨q, 2, none⟩ = some (.slice qA qn qc) := k2.cell 2
  have c3 : W2.cell? ⟨p, 3, none⟩ = some (.int .i64 xs) := k3.cell 3
  have d3 : W2.cell? ⟨q, 3, none⟩ = some (.int .i64 xs) := k2.cell 3
  have c4 : W2.cell? ⟨p, 4, none⟩ = some (.bool xk) := k3.cell 4
  have d4 : W2.cell? ⟨q, 4, none⟩ = some (.bool xk) := k2.cell 4
  have c5 : W2.cell? ⟨p, 5, none⟩ = some (.bool xa) := k3.cell 5
  have d5 : W2.cell? ⟨q, 5, none⟩ = some (.bool xa) := k2.cell 5
  have t1 : (X.toList == X.toList) = true := by simp
  have t2 : (M.toList == M.toList) = true := by simp
  clear k1 k2 k3 b1 b2
  go_enter Tryz.func23, Tryz.ntmps23
  go_wp2_with fail
  refine (HPL.out W2 B2.out).mono ?_
  rintro e w3 ⟨rfl, b3⟩
  have BF : Hid (Below w.heap.size w w3) := B2.out.trans (b3.mono B2.out.size)
  clear b3
  go_wp2_with fail
  go_ret
  exact ⟨rfl, by first | exact BF.out | (rw [← HP.out]; exact BF.out)⟩
theorem map_at {l l2 : List (Itm × Slc)} (hm : l.map (·.1) = l2.map (·.1)) {k : Nat} {x : Itm} {g : Slc} (h : l[k]? = some (x, g)) : ∃ g2, l2[k]? = some (x, g2) := by
  have h2 : (l2.map (·.1))[k]? = some x := by rw [← hm, List.getElem?_map, h]; rfl
  rw [List.getElem?_map] at h2
  obtain ⟨⟨y, g2⟩, hy, rfl⟩ := Option.map_eq_some_iff.1 h2
  exact ⟨g2, hy⟩
set_option maxHeartbeats 8000000 in
set_option maxRecDepth 100000 in
theorem sameI_same (v u : Value) (l l2 : List (Itm × Slc)) (w : World) (h1 : ReadI w.heap.size w v l) (h2 : ReadI w.heap.size w u l2) (hm : l.map (·.1) = l2.map (·.1)) (hl : l.length ≤ 1000000) (hg : ∀ p ∈ l, p.1.groups.length ≤ 140737488355328) :
    Calls Tryz.prog 38 #[v, u, .func (.func 23) #[] #[]] w fun e w' => e = .returned (.bool true) ∧ Below w.heap.size w w' := by
  obtain ⟨A1, cap1, rfl, hA1, hT1⟩ := h1
  obtain ⟨A2, cap2, rfl, hA2, hT2⟩ := h2
  have hll : l2.length = l.length := by have := congrArg List.length hm; simpa using this.symm
  rw [hll] at hA2 ⊢
  obtain ⟨n, hn⟩ : ∃ n, l.length = n := ⟨_, rfl⟩
  have HN := Lib.hid hn
  rw [hn] at hA1 hA2 hl ⊢
  have HA1 := Lib.hid hA1
  have HA2 := Lib.hid hA2
  have HT1 := Lib.hid hT1
  have HT2 := Lib.hid hT2
  have HMM := Lib.hid hm
  have HGG := Lib.hid hg
  have hnn : ((n : Int) != (n : Int)) = false := by simp
  clear hA1 hA2 hT1 hT2 hm hg hn hll
  go_enter Tryz.func38, Tryz.ntmps38
  go_wp2_with fail
  go_loopw [7] (fun i wr => ∃ (k : Nat), k ≤ n ∧ i = .int .i64 k ∧ Hid (Below w.heap.size w wr)) (fun i _ => n - (intOf i).toNat)
  case atStart => exact ⟨0, Nat.zero_le _, rfl, Below.refl _ _⟩
  case round =>
    obtain ⟨k, hk, rfl, BW⟩ := hrel
    by_cases hkn : k < n
    · have hkz : (k : Int) < (n : Int) := by omega
      have hk0 : (0 : Int) ≤ (k : Int) := by omega
      obtain ⟨b1, o1, rfl, hb1, hc1⟩ := HA1.out (by omega)
      obtain ⟨b2, o2, rfl, hb2, hc2⟩ := HA2.out (by omega)
      obtain ⟨⟨x, g1⟩, hx⟩ : ∃ p, l[k]? = some p := ⟨_, List.getElem?_eq_getElem (by rw [HN.out]; exact hkn)⟩
      obtain ⟨g2, hx2⟩ := map_at HMM.out hx
      have hm1 : (x, g1) ∈ l := List.mem_of_getElem? hx
      have hm2 : (x, g2) ∈ l2 := List.mem_of_getElem? hx2
      have BWW : ∀ W, Below wr.heap.size wr W → Below w.heap.size w W := fun W hW => BW.out.trans (hW.mono BW.out.size)
      have hcal : ∀ p : Sy.Bel wr, Calls Tryz.prog 23 #[agI x (sl g1), agI x (sl g2)] p.v fun e w' => e = .returned (.bool true) ∧ Below p.v.heap.size p.v w' := fun p =>
        helpI_same x g1 g2 p.v (((HT1.out _ hm1).below (BWW p.v p.h)).more (BWW p.v p.h).size) (((HT2.out _ hm2).below (BWW p.v p.h)).more (BWW p.v p.h).size) (HGG.out _ hm1)
      obtain ⟨P, hP⟩ : ∃ P, o1 + k * 6 = P := ⟨_, rfl⟩
      obtain ⟨Q, hQ⟩ : ∃ P, o2 + k * 6 = P := ⟨_, rfl⟩
      obtain ⟨xj, xm, xg, xs, xk, xa⟩ := x
      obtain ⟨pA, pn, pc⟩ := g1
      obtain ⟨qA, qn, qc⟩ := g2
      obtain ⟨X, hX⟩ : ∃ J, bts xj = J := ⟨_, rfl⟩
      obtain ⟨M, hM⟩ : ∃ J, bts xm = J := ⟨_, rfl⟩
      have e1 : encI ⟨xj, xm, xg, xs, xk, xa⟩ (sl (pA, pn, pc)) = [.string X, .string M, .slice pA pn pc, .int .i64 xs, .bool xk, .bool xa] := by rw [← hX, ← hM]; rfl
      have e2 : encI ⟨xj, xm, xg, xs, xk, xa⟩ (sl (qA, qn, qc)) = [.string X, .string M, .slice qA qn qc, .int .i64 xs, .bool xk, .bool xa] := by rw [← hX, ← hM]; rfl
      have q0 : ∀ v : Sy.Bel wr, v.v.cell? ⟨b1, P, none⟩ = some (.string X) := fun v => by rw [(BWW v.v v.h).cell (p := ⟨b1, P, none⟩) hb1, ← hP]; exact hc1 k _ hx 0 _ (by rw [e1]; rfl)
      have r0 : ∀ v : Sy.Bel wr, v.v.cell? ⟨b2, Q, none⟩ = some (.string X) := fun v => by rw [(BWW v.v v.h).cell (p := ⟨b2, Q, none⟩) hb2, ← hQ]; exact hc2 k _ hx2 0 _ (by rw [e2]; rfl)
      have q1 : ∀ v : Sy.Bel wr, v.v.cell? ⟨b1, P + 1, none⟩ = some (.string M) := fun v => by rw [(BWW v.v v.h).cell (p := ⟨b1, P + 1, none⟩) hb1, ← hP]; exact hc1 k _ hx 1 _ (by rw [e1]; rfl)
      have r1 : ∀ v : Sy.Bel wr, v.v.cell? ⟨b2, Q + 1, none⟩ = some (.string M) := fun v => by rw [(BWW v.v v.h).cell (p := ⟨b2, Q + 1, none⟩) hb2, ← hQ]; exact hc2 k _ hx2 1 _ (by rw [e2]; rfl)
      have q2 : ∀ v : Sy.Bel wr, v.v.cell? ⟨b1, P + 2, none⟩ = some (.slice pA pn pc) := fun v => by rw [(BWW v.v v.h).cell (p := ⟨b1, P + 2, none⟩) hb1, ← hP]; exact hc1 k _ hx 2 _ (by rw [e1]; rfl)
      have r2 : ∀ v : Sy.Bel wr, v.v.cell? ⟨b2, Q + 2, none⟩ = some (.slice qA qn qc) := fun v => by rw [(BWW v.v v.h).cell (p := ⟨b2, Q + 2, none⟩) hb2, ← hQ]; exact hc2 k _ hx2 2 _ (by rw [e2]; rfl)
      have q3 : ∀ v : Sy.Bel wr, v.v.cell? ⟨b1, P + 3, none⟩ = some (.int .i64 xs) := fun v => by rw [(BWW v.v v.h).cell (p := ⟨b1, P + 3, none⟩) hb1, ← hP]; exact hc1 k _ hx 3 _ (by rw [e1]; rfl)
      have r3 : ∀ v : Sy.Bel wr, v.v.cell? ⟨b2, Q + 3, none⟩ = some (.int .i64 xs) := fun v => by rw [(BWW v.v v.h).cell (p := ⟨b2, Q + 3, none⟩) hb2, ← hQ]; exact hc2 k _ hx2 3 _ (by rw [e2]; rfl)
      have q4 : ∀ v : Sy.Bel wr, v.v.cell? ⟨b1, P + 4, none⟩ = some (.bool xk) := fun v => by rw [(BWW v.v v.h).cell (p := ⟨b1, P + 4, none⟩) hb1, ← hP]; exact hc1 k _ hx 4 _ (by rw [e1]; rfl)
      have r4 : ∀ v : Sy.Bel wr, v.v.cell? ⟨b2, Q + 4, none⟩ = some (.bool xk) := fun v => by rw [(BWW v.v v.h).cell (p := ⟨b2, Q + 4, none⟩) hb2, ← hQ]; exact hc2 k _ hx2 4 _ (by rw [e2]; rfl)
      have q5 : ∀ v : Sy.Bel wr, v.v.cell? ⟨b1, P + 5, none⟩ = some (.bool xa) := fun v => by rw [(BWW v.v v.h).cell (p := ⟨b1, P + 5, none⟩) hb1, ← hP]; exact hc1 k _ hx 5 _ (by rw [e1]; rfl)
      have r5 : ∀ v : Sy.Bel wr, v.v.cell? ⟨b2, Q + 5, none⟩ = some (.bool xa) := fun v => by rw [(BWW v.v v.h).cell (p := ⟨b2, Q + 5, none⟩) hb2, ← hQ]; exact hc2 k _ hx2 5 _ (by rw [e2]; rfl)
      have a1 : agI ⟨xj, xm, xg, xs, xk, xa⟩ (sl (pA, pn, pc)) = .agg #[.string X, .string M, .slice pA pn pc, .int .i64 xs, .bool xk, .bool xa] := by unfold agI; rw [e1]
      have a2 : agI ⟨xj, xm, xg, xs, xk, xa⟩ (sl (qA, qn, qc)) = .agg #[.string X, .string M, .slice qA qn qc, .int .i64 xs, .bool xk, .bool xa] := by unfold agI; rw [e2]
      rw [a1, a2] at hcal
      clear e1 e2 a1 a2 hX hM hc1 hc2 hx hx2 hm1 hm2 BWW hb1 hb2
      go_wp2_with fail
      refine Sy.wp_region_quiet_bel (by kernel_rfl) (by kernel_rfl) ?_
      repeat (go_big_quiet_step ((go_at_call 23; exact Sy.Calls.bel_of (hcal _))))
      refine wpQuiet_nil ?_
      intro w5 hw'
      have hb5 : Below wr.heap.size wr w5 := by obtain ⟨v, rfl⟩ := hw'; exact v.h
      have B5 : Hid (Below w.heap.size w w5) := BW.out.trans (hb5.mono BW.out.size)
      clear hw' hb5 hcal hP hQ q0 r0 q1 r1 q2 r2 q3 r3 q4 r4 q5 r5
      go_wp2_with fail
      go_roundw
      case rel => exact ⟨k + 1, by omega, by go_num, B5⟩
      case measure => simp [intOf]; omega
    · have hkz : ¬ (k : Int) < (n : Int) := by omega
      go_wp2_with fail
      go_ret
      exact ⟨rfl, BW.out⟩
set_option maxHeartbeats 1000000 in
theorem itemsI_same (v u : Value) (l l2 : List (Itm × Slc)) (w : World) (h1 : ReadI w.heap.size w v l) (h2 : ReadI w.heap.size w u l2) (hm : l.map (·.1) = l2.map (·.1)) (hl : l.length ≤ 1000000) (hg : ∀ p ∈ l, p.1.groups.length ≤ 140737488355328) :
    Calls Tryz.prog 16 #[v, u] w fun e w' => e = .returned (.bool true) ∧ Below w.heap.size w w' := by
  have H := Lib.hid (sameI_same v u l l2 w h1 h2 hm hl hg)
  clear h1 h2 hm hl hg
  go_enter Tryz.func16, Tryz.ntmps16
  go_wp2_with fail
  refine H.out.mono ?_
  rintro e w1 ⟨rfl, b1⟩
  go_wp2_with fail
  go_ret
  exact ⟨rfl, b1⟩
end Go.Proofs.YtogjhpcjjmcjfaaGreatDoor
