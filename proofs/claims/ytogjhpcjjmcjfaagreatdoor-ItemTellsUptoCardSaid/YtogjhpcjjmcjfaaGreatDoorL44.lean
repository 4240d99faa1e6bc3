import Derived.Test.YtogjhpcjjmcjfaaGreatDoorL36
/- what is reached of it -/
namespace Go.Proofs.YtogjhpcjjmcjfaaGreatDoor
open Go.RowKit Tx Vc Ct
set_option maxHeartbeats 400000 in
theorem indexI_none (A : Option Addr) (cap : Nat) (fv : Value) (w : World) : Calls Tryz.prog 28 #[.slice A 0 cap, fv] w fun e w' => e = .returned (.int .i64 (-1)) ∧ w' = w := by
  go_enter Tryz.func28, Tryz.ntmps28
  go_wp2_with fail
  refine wp_loop_rounds 1 ?_
  rw [rounds_succ]
  go_wp2_with fail
  go_ret
  exact ⟨rfl, rfl⟩
set_option maxHeartbeats 2000000 in
theorem findI_zero (A : Option Addr) (cap : Nat) (j : List UInt8) (w : World) : Calls Tryz.prog 12 #[.slice A 0 cap, .string (bts j)] w fun e w' => FindV [] j w e w' := by
  obtain ⟨W1, hW1⟩ : ∃ W1, w.alloc (.cells #[.string (bts j)] 9) = W1 := ⟨_, rfl⟩
  obtain ⟨jb, hjb⟩ : ∃ bx, w.heap.size = bx := ⟨_, rfl⟩
  obtain ⟨W2, hW2⟩ : ∃ W2, W1.alloc (.cells #[.string ⟨#[]⟩, .string ⟨#[]⟩, .slice none 0 0, .int .i64 0, .bool false, .bool false] 24) = W2 := ⟨_, rfl⟩
  obtain ⟨rb, hrb1⟩ : ∃ r, jb + 1 = r := ⟨_, rfl⟩
  have hrb : W1.heap.size = rb := by rw [← hW1, World.size_alloc, hjb, hrb1]
  have R2 : Hid (Bk W2 rb 24 #[.string ⟨#[]⟩, .string ⟨#[]⟩, .slice none 0 0, .int .i64 0, .bool false, .bool false]) := by rw [← hW2, ← hrb]; exact Bk.new _ _ _
  have B2 : Hid (Below w.heap.size w W2) := by rw [← hW2, ← hW1]; exact ((Below.refl _ _).alloc (Nat.le_refl _) _).alloc (by rw [World.size_alloc]; omega) _
  have HRW : Hid (w.heap.size ≤ rb) := by unfold Hid; omega
  have HI := Lib.hid (fun fv => indexI_none A cap fv W2)
  have HW1 := Lib.hid hW1
  have HW2 := Lib.hid hW2
  have HJB := Lib.hid hjb
  have HRB := Lib.hid hrb1
  obtain ⟨Y, hY⟩ : ∃ J, bts j = J := ⟨_, rfl⟩
  rw [hY] at HW1 ⊢
  clear hW1 hW2 hjb hrb1 hrb hY
  go_enter Tryz.func12, Tryz.ntmps12
  go_upto_region 1 with fail
  (try rw [HW1.out])
  (try rw [HJB.out])
  (try rw [HRB.out])
  (try rw [HW2.out])
  go_wp2_with fail
  refine (HI.out _).mono ?_
  rintro e w3 ⟨rfl, hw3⟩
  rw [hw3]
  clear hw3
  have r0 : W2.cell? ⟨rb, 0, none⟩ = some (.string ⟨#[]⟩) := R2.out.cell 0
  have g0 : W2.frozen? ⟨rb, 0, none⟩ = false := R2.out.free 0
  have r1 : W2.cell? ⟨rb, 1, none⟩ = some (.string ⟨#[]⟩) := R2.out.cell 1
  have g1 : W2.frozen? ⟨rb, 1, none⟩ = false := R2.out.free 1
  have r2 : W2.cell? ⟨rb, 2, none⟩ = some (.slice none 0 0) := R2.out.cell 2
  have g2 : W2.frozen? ⟨rb, 2, none⟩ = false := R2.out.free 2
  have r3 : W2.cell? ⟨rb, 3, none⟩ = some (.int .i64 0) := R2.out.cell 3
  have g3 : W2.frozen? ⟨rb, 3, none⟩ = false := R2.out.free 3
  have r4 : W2.cell? ⟨rb, 4, none⟩ = some (.bool false) := R2.out.cell 4
  have g4 : W2.frozen? ⟨rb, 4, none⟩ = false := R2.out.free 4
  have r5 : W2.cell? ⟨rb, 5, none⟩ = some (.bool false) := R2.out.cell 5
  have g5 : W2.frozen? ⟨rb, 5, none⟩ = false := R2.out.free 5
  have R5 := Lib.hid (laid6_bk R2.out (.string ⟨#[]⟩) (.string ⟨#[]⟩) (.slice none 0 0) (.int .i64 0) (.bool false) (.bool false))
  have B5 := Lib.hid (laid6_below B2.out HRW.out (.string ⟨#[]⟩) (.string ⟨#[]⟩) (.slice none 0 0) (.int .i64 0) (.bool false) (.bool false))
  obtain ⟨w5, hw5⟩ : ∃ z, laid6 W2 rb (.string ⟨#[]⟩) (.string ⟨#[]⟩) (.slice none 0 0) (.int .i64 0) (.bool false) (.bool false) = z := ⟨_, rfl⟩
  rw [hw5] at R5 B5
  go_wp2_with fail
  have j0 : w5.cell? ⟨rb, 0, none⟩ = some (.string ⟨#[]⟩) := R5.out.cell 0
  have j1 : w5.cell? ⟨rb, 1, none⟩ = some (.string ⟨#[]⟩) := R5.out.cell 1
  have j2 : w5.cell? ⟨rb, 2, none⟩ = some (.slice none 0 0) := R5.out.cell 2
  have j3 : w5.cell? ⟨rb, 3, none⟩ = some (.int .i64 0) := R5.out.cell 3
  have j4 : w5.cell? ⟨rb, 4, none⟩ = some (.bool false) := R5.out.cell 4
  have j5 : w5.cell? ⟨rb, 5, none⟩ = some (.bool false) := R5.out.cell 5
  refine bodyPost_ret (v := .tuple #[.agg #[.string ⟨#[]⟩, .string ⟨#[]⟩, .slice none 0 0, .int .i64 0, .bool false, .bool false], .bool false]) (by simp [results, Tryz.results12, go_sem, j0, j1, j2, j3, j4, j5]) rfl ?_
  exact ⟨B5.out, .inl ⟨rfl, rfl⟩⟩
theorem findI_all (v : Value) (l : List (Itm × Slc)) (j : List UInt8) (w : World) (hR : ReadI w.heap.size w v l) (hl : l.length ≤ 1000000) (hg : ∀ p ∈ l, p.1.groups.length ≤ 8000000000000) :
    Calls Tryz.prog 12 #[v, .string (bts j)] w fun e w' => FindV l j w e w' := by
  by_cases h0 : 0 < l.length
  · exact findI_any v l j w hR h0 hl hg
  · obtain rfl : l = [] := List.length_eq_zero_iff.1 (by omega)
    obtain ⟨A, cap, rfl, _⟩ := hR
    exact findI_zero A cap j w
/-- what the document's FindItem answers: the item itself -/
def RFindV (l : List (Itm × Slc)) (j : List UInt8) (w : World) (e : Ending) (w' : World) : Prop :=
  Below w.heap.size w w' ∧ ((l.find? (fun p => decide (p.1.jid = j)) = none ∧ e = .returned (.tuple #[zeroI, .bool false])) ∨
    ∃ p, l.find? (fun p => decide (p.1.jid = j)) = some p ∧ e = .returned (.tuple #[agI p.1 (sl p.2), .bool true]))
theorem find_at : ∀ {l : List (Itm × Slc)} {j : List UInt8} {k : Nat} {p : Itm × Slc}, l[k]? = some p → p.1.jid = j → (∀ (i : Nat) (q : Itm × Slc), i < k → l[i]? = some q → q.1.jid ≠ j) → l.find? (fun p => decide (p.1.jid = j)) = some p
  | a :: l, j, 0, p, h, hj, _ => by
    obtain rfl : a = p := by simpa using h
    rw [List.find?_cons_of_pos (by simpa using hj)]
  | a :: l, j, k + 1, p, h, hj, hn => by
    rw [List.find?_cons_of_neg (by simpa using hn 0 a (Nat.succ_pos k) rfl)]
    exact find_at (k := k) (by simpa using h) hj (fun i q hi hq => hn (i + 1) q (by omega) (by simpa using hq))
set_option linter.unusedSimpArgs false in
set_option maxHeartbeats 4000000 in
set_option maxRecDepth 100000 in
theorem rfindI_any (v : Value) (l : List (Itm × Slc)) (j : List UInt8) (w : World) (hR : ReadI w.heap.size w v l) (hl : l.length ≤ 1000000) :
    Calls Tryz.prog 13 #[v, .string (bts j)] w fun e w' => RFindV l j w e w' := by
  obtain ⟨A, cap, rfl, hA, _⟩ := hR
  obtain ⟨W1, hW1⟩ : ∃ W1, w.alloc (.cells #[.string ⟨#[]⟩, .string ⟨#[]⟩, .slice none 0 0, .int .i64 0, .bool false, .bool false] 24) = W1 := ⟨_, rfl⟩
  obtain ⟨R, hRR⟩ : ∃ r, w.heap.size = r := ⟨_, rfl⟩
  have K1 : Hid (Bk W1 R 24 #[.string ⟨#[]⟩, .string ⟨#[]⟩, .slice none 0 0, .int .i64 0, .bool false, .bool false]) := by rw [← hW1, ← hRR]; exact Bk.new _ _ _
  have B1 : Hid (Below w.heap.size w W1) := by rw [← hW1]; exact (Below.refl _ _).alloc (Nat.le_refl _) _
  have HWR : Hid (w.heap.size ≤ R) := by rw [← hRR]; exact Nat.le_refl _
  obtain ⟨n, hn⟩ : ∃ n, l.length = n := ⟨_, rfl⟩
  have HN := Lib.hid hn
  rw [hn] at hA hl ⊢
  have HA : Hid (0 < n → ∃ b off, A = some ⟨b, off, none⟩ ∧ ∀ i p, l[i]? = some p → ∀ c u, (encI p.1 (sl p.2))[c]? = some u → W1.cell? ⟨b, off + i * 6 + c, none⟩ = some u) := fun h0 => by
    obtain ⟨b, off, ha, hb, hc⟩ := hA h0
    exact ⟨b, off, ha, fun i p hp c u hu => by rw [B1.out.cell (p := ⟨b, off + i * 6 + c, none⟩) hb]; exact hc i p hp c u hu⟩
  have HJE : Hid (∀ x : Itm, ((bts x.jid).toList == (bts j).toList) = decide (x.jid = j)) := fun x => by
    by_cases h : x.jid = j
    · rw [h, decide_eq_true rfl]; simp
    · rw [decide_eq_false h]
      have hne : (bts x.jid).toList ≠ (bts j).toList := fun e => h (by
        have e2 : (bts x.jid).data.toList = (bts j).data.toList := by rw [← ByteArray.toList_eq, ← ByteArray.toList_eq, e]
        exact e2)
      simpa using hne
  have HFN : Hid (∀ k p, l[k]? = some p → p.1.jid = j → (∀ (i : Nat) (q : Itm × Slc), i < k → l[i]? = some q → q.1.jid ≠ j) → l.find? (fun p => decide (p.1.jid = j)) = some p) := fun k p => find_at
  have HNO : Hid ((∀ (i : Nat) (q : Itm × Slc), i < n → l[i]? = some q → q.1.jid ≠ j) → l.find? (fun p => decide (p.1.jid = j)) = none) := fun h => List.find?_eq_none.2 fun p hp => by
    obtain ⟨i, hi, rfl⟩ := List.getElem_of_mem hp
    simpa using h i _ (by omega) (List.getElem?_eq_getElem hi)
  obtain ⟨Y, hY⟩ : ∃ J, bts j = J := ⟨_, rfl⟩
  rw [hY] at HJE ⊢
  have HW1 := Lib.hid hW1
  have HRR := Lib.hid hRR
  clear hA hn hY hW1 hRR
  go_enter Tryz.func13, Tryz.ntmps13
  go_upto_region 1 with fail
  (try rw [HW1.out])
  (try rw [HRR.out])
  go_wp2_with fail
  go_loopw [6] (fun iv wr => ∃ k : Nat, k ≤ n ∧ iv = .int .i64 k ∧ Hid (∀ (i : Nat) (q : Itm × Slc), i < k → l[i]? = some q → q.1.jid ≠ j) ∧ Hid (W1 = wr)) (fun iv _ => n - (intOf iv).toNat)
  case atStart => exact ⟨0, Nat.zero_le _, rfl, fun i q hi => absurd hi (Nat.not_lt_zero _), by first | exact trivial | exact rfl⟩
  case round =>
    obtain ⟨k, hk, rfl, HB, HWW⟩ := hrel
    have hww := HWW.out
    clear HWW
    subst hww
    by_cases hkn : k < n
    · have hkz : (k : Int) < (n : Int) := by omega
      have hk0 : (0 : Int) ≤ (k : Int) := by omega
      obtain ⟨b, off, rfl, hc⟩ := HA.out (by omega)
      obtain ⟨⟨x, g⟩, hx⟩ : ∃ p, l[k]? = some p := ⟨_, List.getElem?_eq_getElem (by rw [HN.out]; exact hkn)⟩
      obtain ⟨P, hP⟩ : ∃ P, off + k * 6 = P := ⟨_, rfl⟩
      have hcc := fun c u hu => hc k _ hx c u hu
      rw [hP] at hcc
      have hje := HJE.out x
      have HX := Lib.hid hx
      obtain ⟨xj, xm, xg, xs, xk, xa⟩ := x
      obtain ⟨gA, gn, gc⟩ := g
      have p0 : W1.cell? ⟨b, P, none⟩ = some (.string (bts xj)) := hcc 0 _ rfl
      have p1 : W1.cell? ⟨b, P + 1, none⟩ = some (.string (bts xm)) := hcc 1 _ rfl
      have p2 : W1.cell? ⟨b, P + 2, none⟩ = some (.slice gA gn gc) := hcc 2 _ rfl
      have p3 : W1.cell? ⟨b, P + 3, none⟩ = some (.int .i64 xs) := hcc 3 _ rfl
      have p4 : W1.cell? ⟨b, P + 4, none⟩ = some (.bool xk) := hcc 4 _ rfl
      have p5 : W1.cell? ⟨b, P + 5, none⟩ = some (.bool xa) := hcc 5 _ rfl
      have HAG : Hid (agI ⟨xj, xm, xg, xs, xk, xa⟩ (sl (gA, gn, gc)) = .agg #[.string (bts xj), .string (bts xm), .slice gA gn gc, .int .i64 xs, .bool xk, .bool xa]) := rfl
      obtain ⟨X, hX⟩ : ∃ J, bts xj = J := ⟨_, rfl⟩
      obtain ⟨M, hM⟩ : ∃ J, bts xm = J := ⟨_, rfl⟩
      have hje2 : (X.toList == Y.toList) = decide (xj = j) := by rw [← hX]; exact hje
      rw [hX] at p0
      rw [hM] at p1
      rw [hX, hM] at HAG
      clear hc hcc hx hje hX hM
      by_cases hq : xj = j
      · rw [decide_eq_true hq] at hje2
        have HF := Lib.hid (HFN.out k _ HX.out hq HB.out)
        have r0 : ∃ u, W1.cell? ⟨R, 0, none⟩ = some u := ⟨_, K1.out.cell 0⟩
        have K5 := Lib.hid (laid6_bk K1.out (.string X) (.string M) (.slice gA gn gc) (.int .i64 xs) (.bool xk) (.bool xa))
        have B5 := Lib.hid (laid6_below B1.out HWR.out (.string X) (.string M) (.slice gA gn gc) (.int .i64 xs) (.bool xk) (.bool xa))
        obtain ⟨w5, hw5⟩ : ∃ z, laid6 W1 R (.string X) (.string M) (.slice gA gn gc) (.int .i64 xs) (.bool xk) (.bool xa) = z := ⟨_, rfl⟩
        rw [hw5] at K5 B5
        clear r0 hq
        obtain ⟨u0, r0⟩ : ∃ u, W1.cell? ⟨R, 0, none⟩ = some u := ⟨_, K1.out.cell 0⟩
        have g0 : W1.frozen? ⟨R, 0, none⟩ = false := K1.out.free 0
        obtain ⟨u1, r1⟩ : ∃ u, W1.cell? ⟨R, 1, none⟩ = some u := ⟨_, K1.out.cell 1⟩
        have g1 : W1.frozen? ⟨R, 1, none⟩ = false := K1.out.free 1
        obtain ⟨u2, r2⟩ : ∃ u, W1.cell? ⟨R, 2, none⟩ = some u := ⟨_, K1.out.cell 2⟩
        have g2 : W1.frozen? ⟨R, 2, none⟩ = false := K1.out.free 2
        obtain ⟨u3, r3⟩ : ∃ u, W1.cell? ⟨R, 3, none⟩ = some u := ⟨_, K1.out.cell 3⟩
        have g3 : W1.frozen? ⟨R, 3, none⟩ = false := K1.out.free 3
        obtain ⟨u4, r4⟩ : ∃ u, W1.cell? ⟨R, 4, none⟩ = some u := ⟨_, K1.out.cell 4⟩
        have g4 : W1.frozen? ⟨R, 4, none⟩ = false := K1.out.free 4
        obtain ⟨u5, r5⟩ : ∃ u, W1.cell? ⟨R, 5, none⟩ = some u := ⟨_, K1.out.cell 5⟩
        have g5 : W1.frozen? ⟨R, 5, none⟩ = false := K1.out.free 5
        go_wp2_with fail
        (try rw [hw5])
        have j0 : w5.cell? ⟨R, 0, none⟩ = some (.string X) := K5.out.cell 0
        have j1 : w5.cell? ⟨R, 1, none⟩ = some (.string M) := K5.out.cell 1
        have j2 : w5.cell? ⟨R, 2, none⟩ = some (.slice gA gn gc) := K5.out.cell 2
        have j3 : w5.cell? ⟨R, 3, none⟩ = some (.int .i64 xs) := K5.out.cell 3
        have j4 : w5.cell? ⟨R, 4, none⟩ = some (.bool xk) := K5.out.cell 4
        have j5 : w5.cell? ⟨R, 5, none⟩ = some (.bool xa) := K5.out.cell 5
        refine bodyPost_ret (v := .tuple #[.agg #[.string X, .string M, .slice gA gn gc, .int .i64 xs, .bool xk, .bool xa], .bool true]) (by simp [results, Tryz.results13, go_sem, j0, j1, j2, j3, j4, j5]) rfl ?_
        exact ⟨B5.out, .inr ⟨_, HF.out, by rw [HAG.out]⟩⟩
      · rw [decide_eq_false hq] at hje2
        have HB2 : Hid (∀ (i : Nat) (q : Itm × Slc), i < k + 1 → l[i]? = some q → q.1.jid ≠ j) := fun i q hi h => by
          rcases Nat.lt_or_ge i k with h1 | h1
          · exact HB.out i q h1 h
          · obtain rfl : i = k := by omega
            rw [HX.out] at h
            obtain rfl := Option.some.inj h
            exact hq
        clear hq
        go_wp2_with fail
        go_roundw
        case rel => exact ⟨k + 1, by omega, by go_num, HB2, by first | exact trivial | exact rfl⟩
        case measure => simp [intOf]; omega
    · have hkz : ¬ (k : Int) < (n : Int) := by omega
      have HF := Lib.hid (HNO.out (fun i q hi h => HB.out i q (by omega) h))
      have r0 : W1.cell? ⟨R, 0, none⟩ = some (.string ⟨#[]⟩) := K1.out.cell 0
      have g0 : W1.frozen? ⟨R, 0, none⟩ = false := K1.out.free 0
      have r1 : W1.cell? ⟨R, 1, none⟩ = some (.string ⟨#[]⟩) := K1.out.cell 1
      have g1 : W1.frozen? ⟨R, 1, none⟩ = false := K1.out.free 1
      have r2 : W1.cell? ⟨R, 2, none⟩ = some (.slice none 0 0) := K1.out.cell 2
      have g2 : W1.frozen? ⟨R, 2, none⟩ = false := K1.out.free 2
      have r3 : W1.cell? ⟨R, 3, none⟩ = some (.int .i64 0) := K1.out.cell 3
      have g3 : W1.frozen? ⟨R, 3, none⟩ = false := K1.out.free 3
      have r4 : W1.cell? ⟨R, 4, none⟩ = some (.bool false) := K1.out.cell 4
      have g4 : W1.frozen? ⟨R, 4, none⟩ = false := K1.out.free 4
      have r5 : W1.cell? ⟨R, 5, none⟩ = some (.bool false) := K1.out.cell 5
      have g5 : W1.frozen? ⟨R, 5, none⟩ = false := K1.out.free 5
      have R5 := Lib.hid (laid6_bk K1.out (.string ⟨#[]⟩) (.string ⟨#[]⟩) (.slice none 0 0) (.int .i64 0) (.bool false) (.bool false))
      have B5 := Lib.hid (laid6_below B1.out HWR.out (.string ⟨#[]⟩) (.string ⟨#[]⟩) (.slice none 0 0) (.int .i64 0) (.bool false) (.bool false))
      obtain ⟨w5, hw5⟩ : ∃ z, laid6 W1 R (.string ⟨#[]⟩) (.string ⟨#[]⟩) (.slice none 0 0) (.int .i64 0) (.bool false) (.bool false) = z := ⟨_, rfl⟩
      rw [hw5] at R5 B5
      go_wp2_with fail
      have j0 : w5.cell? ⟨R, 0, none⟩ = some (.string ⟨#[]⟩) := R5.out.cell 0
      have j1 : w5.cell? ⟨R, 1, none⟩ = some (.string ⟨#[]⟩) := R5.out.cell 1
      have j2 : w5.cell? ⟨R, 2, none⟩ = some (.slice none 0 0) := R5.out.cell 2
      have j3 : w5.cell? ⟨R, 3, none⟩ = some (.int .i64 0) := R5.out.cell 3
      have j4 : w5.cell? ⟨R, 4, none⟩ = some (.bool false) := R5.out.cell 4
      have j5 : w5.cell? ⟨R, 5, none⟩ = some (.bool false) := R5.out.cell 5
      refine bodyPost_ret (v := .tuple #[.agg #[.string ⟨#[]⟩, .string ⟨#[]⟩, .slice none 0 0, .int .i64 0, .bool false, .bool false], .bool false]) (by simp [results, Tryz.results13, go_sem, j0, j1, j2, j3, j4, j5]) rfl ?_
      exact ⟨B5.out, .inl ⟨HF.out, rfl⟩⟩
end Go.Proofs.YtogjhpcjjmcjfaaGreatDoor
