import Derived.Test.YtogjhpcjjmcjfaaGreatDoorM37
import Derived.Test.YtogjhpcjjmcjfaaGreatDoorM32
import Derived.Test.YtogjhpcjjmcjfaaGreatDoorM30
import Derived.Test.YtogjhpcjjmcjfaaGreatDoorM27
import Derived.Shelf.SlicesE.Clone
/- what is reached of it -/
namespace Go.Proofs.YtogjhpcjjmcjfaaGreatDoor
open Go.RowKit Go.Sort Sy Tx Vc Ct
theorem lessI_tri (a b : List UInt8) : (Jd.lessL a b = true ∧ Jd.lessL b a = false ∧ a ≠ b) ∨ (Jd.lessL a b = false ∧ Jd.lessL b a = true ∧ a ≠ b) ∨ (Jd.lessL a b = false ∧ Jd.lessL b a = false ∧ a = b) := by
  unfold Jd.lessL
  rcases Jd.lt_tri (Jd.dmL a) (Jd.dmL b) with ⟨h1, h2, h3⟩ | ⟨h1, h2, h3⟩ | ⟨h1, h2, h3⟩
  · have hn : a ≠ b := fun e => h3 (by rw [e])
    have h4 : (Jd.dmL b == Jd.dmL a) = false := by simpa using Ne.symm h3
    left
    rw [h1, h2, h4]
    exact ⟨rfl, rfl, hn⟩
  · have hn : a ≠ b := fun e => h3 (by rw [e])
    have h4 : (Jd.dmL a == Jd.dmL b) = false := by simpa using h3
    right; left
    rw [h1, h2, h4]
    exact ⟨rfl, rfl, hn⟩
  · rw [h1, h2, h3]
    simpa using Jd.lt_tri a b
theorem lessI_trans {a b c : List UInt8} (h1 : Jd.lessL a b = true) (h2 : Jd.lessL b c = true) : Jd.lessL a c = true := by
  unfold Jd.lessL at h1 h2 ⊢
  simp only [Bool.or_eq_true, Bool.and_eq_true, beq_iff_eq] at h1 h2 ⊢
  rcases h1 with h1 | ⟨e1, h1⟩
  · rcases h2 with h2 | ⟨e2, h2⟩
    · exact .inl (Jd.lt_trans _ _ _ h1 h2)
    · exact .inl (by rw [← e2]; exact h1)
  · rcases h2 with h2 | ⟨e2, h2⟩
    · exact .inl (by rw [e1]; exact h2)
    · exact .inr ⟨e1.trans e2, Jd.lt_trans _ _ _ h1 h2⟩
theorem lessL_weak : Weak Jd.lessL := by
  refine ⟨fun {x y} h => ?_, fun {x z} h y => ?_⟩
  · rcases lessI_tri x y with ⟨_, k, _⟩ | ⟨k, _, _⟩ | ⟨k, _, _⟩
    · exact k
    · rw [h] at k; cases k
    · rw [h] at k; cases k
  · rcases lessI_tri x y with ⟨k, _, _⟩ | ⟨_, k, _⟩ | ⟨_, _, k⟩
    · exact .inl k
    · exact .inr (lessI_trans k h)
    · exact .inr (k ▸ h)
def ltI (x y : ItOk) : Bool := Jd.lessL x.1.1.jid y.1.1.jid
theorem ltI_weak : Weak ltI := ⟨fun h => lessL_weak.asym h, fun h y => lessL_weak.neg h y.1.1.jid⟩
def cfI (x y : ItOk) : Int := if ltI x y then -1 else if ltI y x then 1 else 0
theorem cfI_lt (x y : ItOk) : ltI x y = decide (cfI x y < 0) := by
  unfold cfI
  cases ltI x y with
  | true => rfl
  | false => cases ltI y x <;> rfl
set_option maxHeartbeats 2000000 in
theorem sortI1_any (x y : ItOk) (w : World) (hO : Okw w) : Calls Tryz.prog 40 #[.agg (encIt x).toArray, .agg (encIt y).toArray] w fun e w' => e = .returned (.bool (ltI x y)) ∧ Below w.heap.size w w' := by
  obtain ⟨⟨⟨xj, xm, xg, xs, xk, xa⟩, xA, xn, xc⟩, xo⟩ := x
  obtain ⟨⟨⟨yj, ym, yg, ys, yk, ya⟩, yA, yn, yc⟩, yo⟩ := y
  have hx : (encIt ⟨(⟨xj, xm, xg, xs, xk, xa⟩, xA, xn, xc), xo⟩).toArray = #[.string (bts xj), .string (bts xm), .slice xA xn xc, .int .i64 xs, .bool xk, .bool xa] := rfl
  have hy : (encIt ⟨(⟨yj, ym, yg, ys, yk, ya⟩, yA, yn, yc), yo⟩).toArray = #[.string (bts yj), .string (bts ym), .slice yA yn yc, .int .i64 ys, .bool yk, .bool ya] := rfl
  have hlt : ltI ⟨(⟨xj, xm, xg, xs, xk, xa⟩, xA, xn, xc), xo⟩ ⟨(⟨yj, ym, yg, ys, yk, ya⟩, yA, yn, yc), yo⟩ = Jd.lessL xj yj := rfl
  rw [hx, hy, hlt]
  obtain ⟨W1, hW1⟩ : ∃ W1, w.alloc (.cells #[.string (bts xj), .string (bts xm), .slice xA xn xc, .int .i64 xs, .bool xk, .bool xa] 24) = W1 := ⟨_, rfl⟩
  obtain ⟨p, hp⟩ : ∃ G, w.heap.size = G := ⟨_, rfl⟩
  have k1 : Bk W1 p 24 #[.string (bts xj), .string (bts xm), .slice xA xn xc, .int .i64 xs, .bool xk, .bool xa] := by rw [← hW1, ← hp]; exact Bk.new _ _ _
  have b1 : Below w.heap.size w W1 := by rw [← hW1]; exact (Below.refl _ _).alloc (Nat.le_refl _) _
  obtain ⟨W2, hW2⟩ : ∃ W1', W1.alloc (.cells #[.string (bts yj), .string (bts ym), .slice yA yn yc, .int .i64 ys, .bool yk, .bool ya] 24) = W1' := ⟨_, rfl⟩
  obtain ⟨q, hq⟩ : ∃ G, W1.heap.size = G := ⟨_, rfl⟩
  have k2 : Bk W2 q 24 #[.string (bts yj), .string (bts ym), .slice yA yn yc, .int .i64 ys, .bool yk, .bool ya] := by rw [← hW2, ← hq]; exact Bk.new _ _ _
  have b2 : Below W1.heap.size W1 W2 := by rw [← hW2]; exact (Below.refl _ _).alloc (Nat.le_refl _) _
  have B2 : Hid (Below w.heap.size w W2) := b1.trans (b2.mono b1.size)
  have HL : Hid (Calls Tryz.prog 41 #[.string (bts xj), .string (bts yj)] W2 fun e w' => e = .returned (.bool (Jd.lessL xj yj)) ∧ Below W2.heap.size W2 w') :=
    less2Z_any (bts xj) (bts yj) W2 (hO.below B2.out) (by rw [Lib.size_eq]; exact xo) (by rw [Lib.size_eq]; exact yo)
  have c0 : W2.cell? ⟨p, 0, none⟩ = some (.string (bts xj)) := (k1.below b2 k1.lt).cell 0
  have d0 : W2.cell? ⟨q, 0, none⟩ = some (.string (bts yj)) := k2.cell 0
  obtain ⟨X, hX⟩ : ∃ X, bts xj = X := ⟨_, rfl⟩
  obtain ⟨Y, hY⟩ : ∃ X, bts yj = X := ⟨_, rfl⟩
  obtain ⟨b, hb⟩ : ∃ b, Jd.lessL xj yj = b := ⟨_, rfl⟩
  rw [hX, hY, hb] at HL
  rw [hX] at hW1 c0
  rw [hY] at hW2 d0
  rw [hX, hY, hb]
  clear hx hy hlt k1 k2 b1 b2 hX hY hb hO
  go_enter Tryz.func40, Tryz.ntmps40
  go_wp2_with fail
  refine HL.out.mono ?_
  rintro e w3 ⟨rfl, b3⟩
  go_wp2_with fail
  go_ret
  exact ⟨rfl, by first | exact B2.out.trans (b3.mono B2.out.size) | (rw [← hp]; exact B2.out.trans (b3.mono B2.out.size))⟩
set_option maxHeartbeats 4000000 in
theorem ordI1_any (x y : ItOk) (w : World) (bx : Nat) (hb : w.cell? ⟨bx, 0, none⟩ = some (.func (.func 40) #[] #[])) (hbl : bx < w.heap.size) (hO : Okw w) :
    Calls Tryz.prog 64 #[.agg (encIt x).toArray, .agg (encIt y).toArray, .pointer (some ⟨bx, 0, none⟩)] w fun e w' => e = .returned (.int .i64 (cfI x y)) ∧ Below w.heap.size w w' := by
  have H1 : Hid (∀ W, Below w.heap.size w W → Calls Tryz.prog 40 #[.agg (encIt x).toArray, .agg (encIt y).toArray] W fun e w' => e = .returned (.bool (ltI x y)) ∧ Below W.heap.size W w') := fun W h => sortI1_any x y W (hO.below h)
  have H2 : Hid (∀ W, Below w.heap.size w W → Calls Tryz.prog 40 #[.agg (encIt y).toArray, .agg (encIt x).toArray] W fun e w' => e = .returned (.bool (ltI y x)) ∧ Below W.heap.size W w') := fun W h => sortI1_any y x W (hO.below h)
  have hc : cfI x y = if ltI x y then -1 else if ltI y x then 1 else 0 := rfl
  obtain ⟨a, ha⟩ : ∃ a, ltI x y = a := ⟨_, rfl⟩
  obtain ⟨b, hb2⟩ : ∃ a, ltI y x = a := ⟨_, rfl⟩
  rw [ha] at H1 hc
  rw [hb2] at H2 hc
  have HCC := Lib.hid hc
  clear ha hb2 hc hO
  obtain ⟨⟨⟨xj, xm, xg, xs, xk, xa⟩, xA, xn, xc⟩, xo⟩ := x
  obtain ⟨⟨⟨yj, ym, yg, ys, yk, ya⟩, yA, yn, yc⟩, yo⟩ := y
  have hx : (encIt ⟨(⟨xj, xm, xg, xs, xk, xa⟩, xA, xn, xc), xo⟩).toArray = #[.string (bts xj), .string (bts xm), .slice xA xn xc, .int .i64 xs, .bool xk, .bool xa] := rfl
  have hy : (encIt ⟨(⟨yj, ym, yg, ys, yk, ya⟩, yA, yn, yc), yo⟩).toArray = #[.string (bts yj), .string (bts ym), .slice yA yn yc, .int .i64 ys, .bool yk, .bool ya] := rfl
  rw [hx, hy] at H1 H2 ⊢
  obtain ⟨Z, hZ⟩ : ∃ Z, cfI ⟨(⟨xj, xm, xg, xs, xk, xa⟩, xA, xn, xc), xo⟩ ⟨(⟨yj, ym, yg, ys, yk, ya⟩, yA, yn, yc), yo⟩ = Z := ⟨_, rfl⟩
  rw [hZ] at HCC ⊢
  obtain ⟨X, hX⟩ : ∃ X, bts xj = X := ⟨_, rfl⟩
  obtain ⟨Y, hY⟩ : ∃ X, bts yj = X := ⟨_, rfl⟩
  obtain ⟨M, hM⟩ : ∃ X, bts xm = X := ⟨_, rfl⟩
  obtain ⟨N, hN⟩ : ∃ X, bts ym = X := ⟨_, rfl⟩
  rw [hX, hY, hM, hN] at H1 H2 ⊢
  clear hx hy hZ hX hY hM hN
  obtain ⟨W1, hW1⟩ : ∃ W1, w.alloc (.cells #[.string X, .string M, .slice xA xn xc, .int .i64 xs, .bool xk, .bool xa] 24) = W1 := ⟨_, rfl⟩
  obtain ⟨p, hp⟩ : ∃ G, w.heap.size = G := ⟨_, rfl⟩
  have k1 : Bk W1 p 24 #[.string X, .string M, .slice xA xn xc, .int .i64 xs, .bool xk, .bool xa] := by rw [← hW1, ← hp]; exact Bk.new _ _ _
  have b1 : Below w.heap.size w W1 := by rw [← hW1]; exact (Below.refl _ _).alloc (Nat.le_refl _) _
  obtain ⟨W2, hW2⟩ : ∃ W1', W1.alloc (.cells #[.string Y, .string N, .slice yA yn yc, .int .i64 ys, .bool yk, .bool ya] 24) = W1' := ⟨_, rfl⟩
  obtain ⟨q, hq⟩ : ∃ G, W1.heap.size = G := ⟨_, rfl⟩
  have k2 : Bk W2 q 24 #[.string Y, .string N, .slice yA yn yc, .int .i64 ys, .bool yk, .bool ya] := by rw [← hW2, ← hq]; exact Bk.new _ _ _
  have b2 : Below W1.heap.size W1 W2 := by rw [← hW2]; exact (Below.refl _ _).alloc (Nat.le_refl _) _
  have B2 : Hid (Below w.heap.size w W2) := b1.trans (b2.mono b1.size)
  have KP := Lib.hid (k1.below b2 k1.lt)
  have KQ := Lib.hid k2
  have HB : Hid (∀ W, Below w.heap.size w W → W.cell? ⟨bx, 0, none⟩ = some (.func (.func 40) #[] #[])) := fun W h => (h.cell (p := ⟨bx, 0, none⟩) hbl).trans hb
  have HP := Lib.hid hp
  clear k1 k2 b1 b2 hb
  have hb := HB.out W2 B2.out
  have c0 : W2.cell? ⟨p, 0, none⟩ = some (.string X) := KP.out.cell 0
  have c1 : W2.cell? ⟨p, 1, none⟩ = some (.string M) := KP.out.cell 1
  have c2 : W2.cell? ⟨p, 2, none⟩ = some (.slice xA xn xc) := KP.out.cell 2
  have c3 : W2.cell? ⟨p, 3, none⟩ = some (.int .i64 xs) := KP.out.cell 3
  have c4 : W2.cell? ⟨p, 4, none⟩ = some (.bool xk) := KP.out.cell 4
  have c5 : W2.cell? ⟨p, 5, none⟩ = some (.bool xa) := KP.out.cell 5
  have d0 : W2.cell? ⟨q, 0, none⟩ = some (.string Y) := KQ.out.cell 0
  have d1 : W2.cell? ⟨q, 1, none⟩ = some (.string N) := KQ.out.cell 1
  have d2 : W2.cell? ⟨q, 2, none⟩ = some (.slice yA yn yc) := KQ.out.cell 2
  have d3 : W2.cell? ⟨q, 3, none⟩ = some (.int .i64 ys) := KQ.out.cell 3
  have d4 : W2.cell? ⟨q, 4, none⟩ = some (.bool yk) := KQ.out.cell 4
  have d5 : W2.cell? ⟨q, 5, none⟩ = some (.bool ya) := KQ.out.cell 5
  go_enter Tryz.func64, Tryz.ntmps64
  go_wp2_with fail
  refine (H1.out W2 B2.out).mono ?_
  rintro e w3 ⟨rfl, b3⟩
  have B3 : Hid (Below w.heap.size w w3) := B2.out.trans (b3.mono B2.out.size)
  have KP3 := Lib.hid (KP.out.below b3 KP.out.lt)
  have KQ3 := Lib.hid (KQ.out.below b3 KQ.out.lt)
  clear b3 hb hW1 hW2 hq hp c0 d0 c1 d1 c2 d2 c3 d3 c4 d4 c5 d5
  cases a with
  | true =>
    go_wp2_with fail
    go_ret
    exact ⟨by rw [HCC.out]; rfl, by first | exact B3.out | (rw [← HP.out]; exact B3.out)⟩
  | false =>
    have hb := HB.out w3 B3.out
    have c0 : w3.cell? ⟨p, 0, none⟩ = some (.string X) := KP3.out.cell 0
    have c1 : w3.cell? ⟨p, 1, none⟩ = some (.string M) := KP3.out.cell 1
    have c2 : w3.cell? ⟨p, 2, none⟩ = some (.slice xA xn xc) := KP3.out.cell 2
    have c3 : w3.cell? ⟨p, 3, none⟩ = some (.int .i64 xs) := KP3.out.cell 3
    have c4 : w3.cell? ⟨p, 4, none⟩ = some (.bool xk) := KP3.out.cell 4
    have c5 : w3.cell? ⟨p, 5, none⟩ = some (.bool xa) := KP3.out.cell 5
    have d0 : w3.cell? ⟨q, 0, none⟩ = some (.string Y) := KQ3.out.cell 0
    have d1 : w3.cell? ⟨q, 1, none⟩ = some (.string N) := KQ3.out.cell 1
    have d2 : w3.cell? ⟨q, 2, none⟩ = some (.slice yA yn yc) := KQ3.out.cell 2
    have d3 : w3.cell? ⟨q, 3, none⟩ = some (.int .i64 ys) := KQ3.out.cell 3
    have d4 : w3.cell? ⟨q, 4, none⟩ = some (.bool yk) := KQ3.out.cell 4
    have d5 : w3.cell? ⟨q, 5, none⟩ = some (.bool ya) := KQ3.out.cell 5
    go_wp2_with fail
    refine (H2.out w3 B3.out).mono ?_
    rintro e w4 ⟨rfl, b4⟩
    have B4 : Hid (Below w.heap.size w w4) := B3.out.trans (b4.mono B3.out.size)
    cases b with
    | true =>
      go_wp2_with fail
      go_ret
      exact ⟨by rw [HCC.out]; rfl, by first | exact B4.out | (rw [← HP.out]; exact B4.out)⟩
    | false =>
      go_wp2_with fail
      go_ret
      exact ⟨by rw [HCC.out]; rfl, by first | exact B4.out | (rw [← HP.out]; exact B4.out)⟩
set_option maxHeartbeats 1000000 in
theorem insertionI_none (A : Option Addr) (cap : Nat) (fv : Value) (w : World) : Calls Tryz.prog 99 #[.slice A 0 cap, .int .i64 0, .int .i64 0, fv] w fun e w' => e = .returned (.tuple #[]) ∧ w' = w := by
  go_enter Tryz.func99, Tryz.ntmps99
  go_wp2_with fail
  refine wp_loop_rounds 1 ?_
  rw [rounds_succ]
  go_wp2_with fail
  go_end0
  exact ⟨rfl, rfl⟩
set_option maxHeartbeats 1000000 in
theorem stableI_none (A : Option Addr) (cap : Nat) (fv : Value) (w : World) : Calls Tryz.prog 80 #[.slice A 0 cap, .int .i64 0, fv] w fun e w' => e = .returned (.tuple #[]) ∧ w' = w := by
  have H := Lib.hid (insertionI_none A cap fv w)
  go_enter Tryz.func80, Tryz.ntmps80
  go_wp2_with fail
  refine wp_loop_rounds 1 ?_
  rw [rounds_succ]
  go_wp2_with (go_at_call 99; refine H.out.mono ?_; rintro e w' ⟨rfl, rfl⟩)
  refine wp_loop_rounds 1 ?_
  rw [rounds_succ]
  go_wp2_with fail
  go_end0
  exact ⟨rfl, rfl⟩
set_option maxHeartbeats 1000000 in
theorem sortStableI_none (A : Option Addr) (cap : Nat) (fv : Value) (w : World) : Calls Tryz.prog 63 #[.slice A 0 cap, fv] w fun e w' => e = .returned (.tuple #[]) ∧ w' = w := by
  have H := Lib.hid (stableI_none A cap fv w)
  go_enter Tryz.func63, Tryz.ntmps63
  go_wp2_with fail
  refine H.out.mono ?_
  rintro e w' ⟨rfl, rfl⟩
  go_wp2_with fail
  go_end0
  exact ⟨rfl, rfl⟩
theorem infoItm : (Tryz.prog.info? 24).map (fun i => (i.zero, i.size, i.bytes)) = some (some (.agg #[.string ⟨#[]⟩, .string ⟨#[]⟩, .slice none 0 0, .int .i64 0, .bool false, .bool false]), 6, 72) := by kernel_rfl
/-- items, cell by cell -/
def flatI (L : List ItOk) : List Value := L.flatMap encIt
theorem encIt_len (x : ItOk) : (encIt x).length = 6 := rfl
theorem flatI_len : ∀ L : List ItOk, (flatI L).length = L.length * 6
  | [] => rfl
  | x :: L => by
    have e : flatI (x :: L) = encIt x ++ flatI L := rfl
    rw [e, List.length_append, encIt_len, flatI_len L, List.length_cons]
    omega
theorem flatI_at : ∀ (L : List ItOk) (i c : Nat), i < L.length → c < 6 → (flatI L)[i * 6 + c]? = (encIt (L.toArray[i]!))[c]?
  | x :: L, 0, c, _, hc => by
    have e : flatI (x :: L) = encIt x ++ flatI L := rfl
    rw [e, Nat.zero_mul, Nat.zero_add, List.getElem?_append_left (by rw [encIt_len]; exact hc)]
    rfl
  | x :: L, i + 1, c, hi, hc => by
    have e : flatI (x :: L) = encIt x ++ flatI L := rfl
    rw [e, List.getElem?_append_right (by rw [encIt_len]; omega), encIt_len, show (i + 1) * 6 + c - 6 = i * 6 + c by omega, flatI_at L i c (by simpa using hi) hc]
    have h1 : i < L.length := by simpa using hi
    rw [getElem!_pos _ _ (by simpa using h1), getElem!_pos _ _ (by simpa using hi)]
    simp
theorem flatI_one (L : List ItOk) : ∀ u ∈ flatI L, u.oneCell' = true := fun u hu => by
  obtain ⟨x, _, hx⟩ := List.mem_flatMap.1 hu
  exact encIt_enc.h1 x u hx
/-- items whose addresses can be asked of, as they were read -/
def okI (l : List (Itm × Slc)) (h : ∀ p ∈ l, p.1.jid.length ≤ 140737488355328) : List ItOk := l.pmap Subtype.mk h
theorem okI_len (l : List (Itm × Slc)) (h : ∀ p ∈ l, p.1.jid.length ≤ 140737488355328) : (okI l h).length = l.length := List.length_pmap
theorem okI_val (l : List (Itm × Slc)) (h : ∀ p ∈ l, p.1.jid.length ≤ 140737488355328) : (okI l h).map (·.1) = l := by
  unfold okI
  rw [List.map_pmap]
  exact (List.pmap_eq_map _).trans (List.map_id _)
set_option maxHeartbeats 1000000 in
set_option maxRecDepth 100000 in
/-- slices.Clone of no items, wherever they lie -/
theorem cloneI_zero (a : Addr) (cap : Nat) (w : World) : Calls Tryz.prog 62 #[.slice (some a) 0 cap] w fun e w2 => ∃ A c, e = .returned (.slice A 0 c) ∧ Below w.heap.size w w2 ∧ (0 < 0 → ∃ h, A = some ⟨h, 0, none⟩ ∧ 0 ≤ c ∧ w.heap.size ≤ h ∧ h < w2.heap.size ∧ St encIt 6 w2 h (#[] : Array ItOk) w2) := by
  obtain ⟨i0, hi0, hz0, hz1, hz2⟩ := info_parts infoItm
  have q22 : ∀ (w : World) (a : Option Addr) (n c n' c' : Nat), (binOp .eql 25 (.slice a n c) (.slice none n' c')).run Tryz.prog w = .ok (.bool a.isNone) w := fun w a n c n' c' => Lib.run_eql_slice_nil w _ _ a n c n' c' Tryz.underlying25
  go_enter Tryz.func62, Tryz.ntmps62
  go_wp2_with (at_builtin; refine wpList_append_own _ rfl _ _ 25 rfl w.heap.size 24 i0 _ 6 72 Tryz.underlying25 hi0 hz0 hz1 hz2 rfl (by decide) _ _ _ rfl (World.ownsRow_made w #[] 0 (Nat.le_refl _) (Nat.zero_le _) rfl) a 0 cap [] rfl ?qc1 ?qc2 ?qc3 ?qc4 ?qc5 ?qc6 ?_)
  case qc1 => simp
  case qc2 => intro j u hj; simp at hj
  case qc3 => intro u hu; cases hu
  case qc4 => simp
  case qc5 => simp
  case qc6 => simp
  intro v' w1 hown hgrow hnil
  go_wp2_with fail
  go_ret
  have hbl : Below w.heap.size w w1 := ((Below.refl _ w).alloc (Nat.le_refl _) _).grown hgrow (by simp) (by intro k hk; simp [Value.ownBlock] at hk; omega)
  rcases hown.2 with ⟨rfl, _⟩ | ⟨g, cap2, cur, rfl, _⟩
  · exact ⟨none, 0, rfl, hbl, fun h => absurd h (Nat.lt_irrefl _)⟩
  · exact ⟨some ⟨g, 0, none⟩, cap2, by simp, hbl, fun h => absurd h (Nat.lt_irrefl _)⟩
/-- item.ordered of items, by Sort$1: in order; a row of its own -/
def OrdIV (L : List ItOk) (w : World) (e : Ending) (w' : World) : Prop :=
  ∃ A cap, e = .returned (.slice A L.length cap) ∧ Below w.heap.size w w' ∧ (0 < L.length → ∃ h W0, A = some ⟨h, 0, none⟩ ∧ L.length ≤ cap ∧ w.heap.size ≤ h ∧ h < w'.heap.size ∧ St encIt 6 W0 h (sortS ltI L).toArray w')
set_option maxHeartbeats 4000000 in
set_option maxRecDepth 100000 in
theorem orderedI_any (v : Value) (l : List (Itm × Slc)) (h : ∀ p ∈ l, p.1.jid.length ≤ 140737488355328) (w : World) (hO : Okw w) (hR : ReadI w.heap.size w v l) (hl : l.length ≤ 1000000) :
    Calls Tryz.prog 39 #[v, .func (.func 40) #[] #[]] w fun e w' => OrdIV (okI l h) w e w' := by
  obtain ⟨W1, hW1⟩ : ∃ W1, w.alloc (.cells #[.func (.func 40) #[] #[]] 38) = W1 := ⟨_, rfl⟩
  obtain ⟨bx, hbx⟩ : ∃ bx, w.heap.size = bx := ⟨_, rfl⟩
  have K1 : Hid (Bk W1 bx 38 #[.func (.func 40) #[] #[]]) := by rw [← hW1, ← hbx]; exact Bk.new _ _ _
  have B1 : Hid (Below bx w W1) := by rw [← hW1, ← hbx]; exact (Below.refl _ _).alloc (Nat.le_refl _) _
  have HW1 := Lib.hid hW1
  have HBX := Lib.hid hbx
  have hsz : bx ≤ W1.heap.size := by have := K1.out.lt; omega
  have HO : Hid (∀ W, Below bx w W → Okw W) := fun W hW => hO.below (by rw [hbx]; exact hW)
  obtain ⟨L, hL⟩ : ∃ L, okI l h = L := ⟨_, rfl⟩
  have hLl : L.length = l.length := by rw [← hL]; exact okI_len l h
  have hLv : L.map (·.1) = l := by rw [← hL]; exact okI_val l h
  obtain ⟨n, hn⟩ : ∃ n, l.length = n := ⟨_, rfl⟩
  rw [hn] at hLl hl
  have HLN := Lib.hid hLl
  -- the copy
  have HC : Hid (Calls Tryz.prog 62 #[v] W1 fun e w2 => ∃ A cap, e = .returned (.slice A n cap) ∧ Below W1.heap.size W1 w2 ∧ (0 < n → ∃ h, A = some ⟨h, 0, none⟩ ∧ n ≤ cap ∧ W1.heap.size ≤ h ∧ h < w2.heap.size ∧ St encIt 6 w2 h L.toArray w2)) := by
    obtain ⟨A, cap, hv, hcell, _⟩ := hR
    rw [hn] at hv hcell
    rw [hv]
    obtain ⟨i0, hi0, hz0, hz1, hz2⟩ := info_parts infoItm
    by_cases h0 : 0 < n
    · obtain ⟨b, off, rfl, hb, hc⟩ := hcell h0
      refine (AnyE.slices_Clone Tryz.cloneItem i0 _ 6 72 hi0 hz0 hz1 hz2 rfl (by decide) Tryz.sizeOf24 b off n cap (flatI L) W1 (by rw [flatI_len, hLl]) (Nat.le_trans hl (by decide)) (by omega) (fun j u hj => ?_) (flatI_one L)).mono ?_
      · have hj1 := (List.getElem?_eq_some_iff.1 hj).1
        rw [flatI_len, hLl] at hj1
        have hj2 : j / 6 < n := by omega
        have hj3 : j % 6 < 6 := Nat.mod_lt _ (by decide)
        have hj4 : j / 6 * 6 + j % 6 = j := by omega
        have e1 := flatI_at L (j / 6) (j % 6) (by omega) hj3
        rw [hj4, hj] at e1
        have hb1 : b < bx := by rw [← hbx]; exact hb
        rw [B1.out.cell (p := ⟨b, off + j, none⟩) hb1]
        have hlt2 : j / 6 < L.length := by omega
        have e2 : l[j / 6]? = some (L[j / 6]).1 := by rw [← hLv, List.getElem?_map, List.getElem?_eq_getElem hlt2]; rfl
        have e3 : (encIt (L.toArray[j / 6]!))[j % 6]? = (encI (L[j / 6]).1.1 (sl (L[j / 6]).1.2))[j % 6]? := by
          rw [getElem!_pos _ _ (by simpa using hlt2)]
          simp [encIt]
        rw [e3] at e1
        have := hc (j / 6) _ e2 (j % 6) u e1.symm
        rw [show off + j / 6 * 6 + j % 6 = off + j by omega] at this
        exact this
      · rintro e w2 ⟨v', rfl, ho, hne, hbl⟩
        rcases ho.2 with ⟨rfl, _⟩ | ⟨g, cap2, cur, rfl, hge, hh, hnc, _, hcs, htk⟩
        · exact absurd rfl hne
        · refine ⟨some ⟨g, 0, none⟩, cap2, rfl, hbl, fun _ => ⟨g, rfl, hnc, hge, lt_of_block hh, ?_⟩⟩
          refine ⟨⟨rfl, rfl, rfl, Nat.le_refl _, fun _ _ _ => rfl⟩, ?_, lt_of_block hh⟩
          have hK : Bk w2 g 24 cur := hh
          intro j hj
          have hj1 : j < n * 6 := by rw [size_flatK, List.size_toArray, hLl] at hj; exact hj
          have hj4 : j / 6 * 6 + j % 6 = j := by omega
          have hjl : j < (flatI L).length := by rw [flatI_len, hLl]; exact hj1
          have e1 : cur[j]? = some (flatI L)[j] := by
            have h3 : (cur.toList.take (n * 6))[j]? = some (flatI L)[j] := by rw [htk]; exact List.getElem?_eq_getElem hjl
            rw [List.getElem?_take, if_pos hj1, Array.getElem?_toList] at h3
            exact h3
          have e2 := flatI_at L (j / 6) (j % 6) (by omega) (Nat.mod_lt _ (by decide))
          rw [hj4, List.getElem?_eq_getElem hjl] at e2
          rw [Nat.zero_add, hK.cell, e1, get_flatK _ _ _ _ (by rw [List.size_toArray, hLl]; exact hj1)]
          refine ⟨?_, hK.free j⟩
          have hm : j % 6 < (encIt L.toArray[j / 6]!).length := by rw [encIt_len]; exact Nat.mod_lt _ (by decide)
          rw [List.getElem?_eq_getElem hm] at e2
          have e5 : (encIt L.toArray[j / 6]!)[j % 6]! = (encIt L.toArray[j / 6]!)[j % 6] := getElem!_pos (encIt L.toArray[j / 6]!) (j % 6) hm
          rw [e5]
          exact e2
    · have hn0 : n = 0 := by omega
      have hL0 : L = [] := List.length_eq_zero_iff.1 (by omega)
      rw [hn0, hL0]
      cases A with
      | none =>
        refine (AnyE.slices_Clone_nil Tryz.cloneItem 0 cap W1).mono ?_
        rintro e w2 ⟨rfl, rfl⟩
        exact ⟨none, 0, rfl, Below.refl _ _, fun h => absurd h (Nat.lt_irrefl _)⟩
      | some a => exact cloneI_zero a cap W1
  unfold OrdIV
  rw [hL, hLl]
  clear hR hW1 hbx hL hLv hn
  go_enter Tryz.func39, Tryz.ntmps39
  go_upto_region 1 with fail
  (try rw [HW1.out])
  (try rw [HBX.out])
  go_wp2_with fail
  refine HC.out.mono ?_
  rintro e w2 ⟨A, cap, rfl, b2, h2⟩
  have B2 : Hid (Below bx w w2) := B1.out.trans (b2.mono hsz)
  have H2 := Lib.hid h2
  have K2 : Hid (Bk w2 bx 38 #[.func (.func 40) #[] #[]]) := K1.out.below b2 K1.out.lt
  clear b2 h2
  by_cases h0 : 0 < n
  · obtain ⟨g, rfl, hnc, hge, hlt, hS⟩ := H2.out h0
    have hbS : ∀ D W', St encIt 6 w2 g D W' → Below bx w W' := fun D W' S' => B2.out.trans ⟨S'.grown.os, S'.grown.tape, S'.grown.output, S'.grown.size, fun k hk => S'.grown.block k (Nat.lt_of_lt_of_le hk (Nat.le_trans hsz (by omega))) (by intro e; injection e with e; have := K1.out.lt; omega)⟩
    have hcmp : CmpI 64 #[.pointer (some ⟨bx, 0, none⟩)] cfI w2 g := fun D W' S' x y => by
      have hk := K2.out
      have e3 := S'.grown.block bx hk.lt (by intro k; injection k with k; have := K1.out.lt; omega)
      have e4 : Bk W' bx 38 #[.func (.func 40) #[] #[]] := e3.trans hk
      exact ordI1_any x y W' bx (e4.cell 0) e4.lt (HO.out W' (hbS D W' S'))
    have HQ := Lib.hid (sortStableI_any ltI ltI_weak cfI cfI_lt 64 #[.pointer (some ⟨bx, 0, none⟩)] (Go.Proofs.enters_of Tryz.func64 (by kernel_rfl) rfl) L n cap w2 w2 g hcmp HLN.out (by omega) hS)
    have HG : Hid (W1.heap.size ≤ g ∧ g < w2.heap.size ∧ n ≤ cap) := ⟨hge, hlt, hnc⟩
    have HBS := Lib.hid hbS
    clear hcmp hS hge hlt hnc H2 HC hbS
    go_wp2_with fail
    refine HQ.out.mono ?_
    rintro e w3 ⟨rfl, S3⟩
    have HB3 := Lib.hid (HBS.out _ _ S3)
    have HS3 := Lib.hid S3
    clear S3
    go_wp2_with fail
    go_ret
    exact ⟨_, cap, rfl, by first | exact HB3.out | (rw [HBX.out]; exact HB3.out), fun _ => ⟨g, w2, rfl, HG.out.2.2, by first | (have := HG.out; omega) | (rw [HBX.out]; have := HG.out; omega), HS3.out.ltW, HS3.out⟩⟩
  · have hn0 : n = 0 := by omega
    subst hn0
    have HQ := Lib.hid (sortStableI_none A cap (.func (.func 64) #[] #[.pointer (some ⟨bx, 0, none⟩)]) w2)
    clear H2 HC
    go_wp2_with fail
    refine HQ.out.mono ?_
    rintro e w3 ⟨rfl, rfl⟩
    go_wp2_with fail
    go_ret
    exact ⟨A, cap, rfl, by first | exact B2.out | (rw [HBX.out]; exact B2.out), fun h => absurd h (Nat.lt_irrefl _)⟩
end Go.Proofs.YtogjhpcjjmcjfaaGreatDoor
