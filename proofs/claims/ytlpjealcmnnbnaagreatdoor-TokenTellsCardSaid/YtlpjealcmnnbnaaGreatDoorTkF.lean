/-
  package token: a token.
-/
import Derived.Test.YtlpjealcmnnbnaaGreatDoorTkE
import Derived.Deep.Cut
namespace Go.Proofs.YtlpjealcmnnbnaaGreatDoor
open Go.RowKit Tk

theorem over_two (r : List UInt8) : (∃ x, r = 60 :: 47 :: x ∧ [60, 47].isPrefixOf r = true ∧ over [60, 47] r = x ∧ tokL r = closeL x) ∨
    ([60, 47].isPrefixOf r = false ∧ over [60, 47] r = r ∧ ((∃ x, r = 60 :: x ∧ tokL r = openL x) ∨ ((∀ x, r ≠ 60 :: x) ∧ tokL r = textL r))) := by
  rcases cases_tok r with ⟨x, rfl⟩ | ⟨x, rfl, hx⟩ | hx
  · exact .inl ⟨x, rfl, by simp, by unfold over; simp, tok_close x⟩
  · have e : [60, 47].isPrefixOf (60 :: x) = false := by
      cases x with
      | nil => rfl
      | cons c t =>
        have : c ≠ 47 := fun e => hx t (by rw [e])
        show ((60 : UInt8) == 60 && (47 == c && _)) = false
        rw [beq_eq_false_iff_ne.2 (fun e => this e.symm)]
        simp
    exact .inr ⟨e, by unfold over; rw [e]; rfl, .inl ⟨x, rfl, tok_open hx⟩⟩
  · have e : [60, 47].isPrefixOf r = false := by
      cases r with
      | nil => rfl
      | cons c t =>
        have : c ≠ 60 := fun e => hx t (by rw [e])
        show (60 == c && _) = false
        rw [beq_eq_false_iff_ne.2 (fun e => this e.symm)]
        rfl
    exact .inr ⟨e, by unfold over; rw [e]; rfl, .inr ⟨hx, tok_text hx⟩⟩
set_option maxHeartbeats 2000000 in
set_option maxRecDepth 100000 in
theorem token_any (T k : Nat) (s : ByteArray) (r : List UInt8) (w : World) (h : TX 35 w T s r) (hs : s.size ≤ 100000000) (hE : Env T w) (hk : s.size - r.length = k) :
    Calls Tryz.prog 12 #[.pointer (some ⟨T, 0, none⟩)] w fun e w' => TokOut 35 T s k (tokL r) e w' ∧ Tn T w.heap.size w w' := by
  have HOV := Lib.hid (fun (m : ByteArray) (l : List UInt8) (W : World) (a : TX 35 W T s l) (b : m.size ≤ 1000) => over_any T s m l W a hs b)
  have HCL := Lib.hid (fun (l : List UInt8) (W : World) (a : TX 35 W T s l) (b : Env T W) => closed_any T s l W a hs b)
  have HOP := Lib.hid (fun (l : List UInt8) (W : World) (a : TX 35 W T s l) (b : Env T W) => opened_any T s l W a hs b)
  have HWO := Lib.hid (fun (l : List UInt8) (W : World) (a : TX 35 W T s l) (b : Env T W) => words_any T s l W a hs b)
  obtain ⟨k', _, _, hb0, hk'⟩ := h.at
  obtain rfl : k' = k := hk'.symm.trans hk
  obtain ⟨Q, hQ⟩ : ∃ Q, w.heap.size = Q := ⟨_, rfl⟩
  obtain ⟨W0, hW0⟩ : ∃ W0, w.alloc (.cells tok0 30) = W0 := ⟨_, rfl⟩
  obtain ⟨W1, hW1⟩ : ∃ W1, W0.alloc (.cells tok0 30) = W1 := ⟨_, rfl⟩
  obtain ⟨g, hg⟩ : ∃ g, W0.heap.size = g := ⟨_, rfl⟩
  have S0 : Sk T Q 30 tok0 w W0 := by rw [← hW0, ← hQ]; exact Sk.start _ _ hE h.lt
  have S1 : Hid (Sk T Q 30 tok0 w W1) := by rw [← hW1]; exact S0.belo ((Below.refl _ _).alloc (Nat.le_refl _) _)
  have F1 : Hid (Bk W1 g 30 tok0) := by rw [← hW1, ← hg]; exact Bk.new _ _ _
  have T1 : Hid (TX 35 W1 T s r) := by rw [← hW1, ← hW0]; exact (h.alloc _).alloc _
  have c0 : W0.cell? ⟨T, 1, none⟩ = some (.int .i64 k') := by rw [← hW0]; exact (hb0.alloc _).cell 1
  have hgT : T < g := by have := S0.lt; have := S0.bk.lt; omega
  have hgQ : Q < g := by have := S0.bk.lt; omega
  have HGT := Lib.hid hgT
  have HGQ := Lib.hid hgQ
  have HQ := Lib.hid hQ
  clear h hE hk hk' hb0 S0 hgT hgQ
  simp only [tok0] at hW0 hW1
  go_enter Tryz.func12, Tryz.ntmps12
  go_wp2_with fail
  clear hW0 hW1 hg c0
  rcases over_two r with ⟨x, hr, hp, ho, ht⟩ | ⟨hp, ho, hcase⟩
  · have HT : Hid (tokL r = closeL x) := ht
    have HO2 := Lib.hid (HOV.out ⟨#[60, 47]⟩ r W1 T1.out (by first | (show 2 ≤ 1000; omega) | (show 1 ≤ 1000; omega)))
    rw [show (⟨#[60, 47]⟩ : ByteArray).data.toList = [60, 47] from rfl, hp, ho] at HO2
    clear hr hp ho ht
    refine HO2.out.mono ?_
    rintro e w2 ⟨rfl, t2, n2⟩
    have T2 := Lib.hid t2
    have S2 := Lib.hid (S1.out.step n2)
    have F2 := Lib.hid (n2.bk F1.out F1.out.lt (by have := HGT.out; omega))
    clear t2 n2
    go_wp2_with fail
    refine (HCL.out x _ T2.out S2.out.env).mono ?_
    rintro e w5 ⟨⟨kk, x5, y5, A5, n5, cap5, b5, ok5, r5, rfl, t5, i5⟩, n5'⟩
    have T5 := Lib.hid t5
    have I5 := Lib.hid i5
    have S5 := Lib.hid (S2.out.step n5')
    have F5 := Lib.hid (n5'.bk F2.out F2.out.lt (by have := HGT.out; omega))
    clear t5 i5 n5'
    obtain ⟨v0, c0⟩ : ∃ v, w5.cell? ⟨g, 0, none⟩ = some v := ⟨_, F5.out.cell 0⟩
    obtain ⟨v1, c1⟩ : ∃ v, w5.cell? ⟨g, 1, none⟩ = some v := ⟨_, F5.out.cell 1⟩
    obtain ⟨v2, c2⟩ : ∃ v, w5.cell? ⟨g, 2, none⟩ = some v := ⟨_, F5.out.cell 2⟩
    obtain ⟨v3, c3⟩ : ∃ v, w5.cell? ⟨g, 3, none⟩ = some v := ⟨_, F5.out.cell 3⟩
    obtain ⟨v4, c4⟩ : ∃ v, w5.cell? ⟨g, 4, none⟩ = some v := ⟨_, F5.out.cell 4⟩
    obtain ⟨v5, c5⟩ : ∃ v, w5.cell? ⟨g, 5, none⟩ = some v := ⟨_, F5.out.cell 5⟩
    have f0 : w5.frozen? ⟨g, 0, none⟩ = false := F5.out.free 0
    have f1 : w5.frozen? ⟨g, 1, none⟩ = false := F5.out.free 1
    have f2 : w5.frozen? ⟨g, 2, none⟩ = false := F5.out.free 2
    have f3 : w5.frozen? ⟨g, 3, none⟩ = false := F5.out.free 3
    have f4 : w5.frozen? ⟨g, 4, none⟩ = false := F5.out.free 4
    have f5 : w5.frozen? ⟨g, 5, none⟩ = false := F5.out.free 5
    go_upto_region 9 with fail
    obtain ⟨W6, hW6⟩ : ∃ W6, (World.setCell (World.setCell (World.setCell (World.setCell (World.setCell (World.setCell w5 ⟨g, 0, none⟩ (.int .i64 kk)) ⟨g, 1, none⟩ (.int .i64 0)) ⟨g, 2, none⟩ (.string x5)) ⟨g, 3, none⟩ (.string y5)) ⟨g, 4, none⟩ (.slice A5 n5 cap5)) ⟨g, 5, none⟩ (.bool b5)) = W6 := ⟨_, rfl⟩
    have hQg : Q ≠ g := Nat.ne_of_lt HGQ.out
    have F6 : Hid (Bk W6 g 30 #[.int .i64 kk, .int .i64 0, .string x5, .string y5, .slice A5 n5 cap5, .bool b5]) := by rw [← hW6]; exact F5.out.six (.int .i64 kk) (.int .i64 0) (.string x5) (.string y5) (.slice A5 n5 cap5) (.bool b5)
    have D6 : Hid (Bk W6 Q 30 tok0) := by rw [← hW6]; exact six_far S5.out.bk hQg _ _ _ _ _ _
    have T6 : Hid (TX 35 W6 T s r5) := by rw [← hW6]; exact six_tx T5.out (Nat.ne_of_lt HGT.out) _ _ _ _ _ _
    have N6 : Hid (Tn T Q w W6) := by rw [← hW6]; exact six_tn S5.out.tn (Nat.le_of_lt HGQ.out) _ _ _ _ _ _
    have I6 : Hid (TokIs W6 (tokL r) kk x5 y5 (.slice A5 n5 cap5) b5 ok5 r5) := by rw [← hW6, HT.out]; exact I5.out.keep (six_keepA F5.out (by decide) _ _ _ _ _ _)
    rw [hW6]
    clear hW6 c0 c1 c2 c3 c4 c5 f0 f1 f2 f3 f4 f5
    have c1 : W6.cell? ⟨g, 1, none⟩ = some (.int .i64 0) := F6.out.cell 1
    have f1 : W6.frozen? ⟨g, 1, none⟩ = false := F6.out.free 1
    obtain ⟨zk, hzk⟩ : ∃ zk : Int, (k' : Int) = zk := ⟨_, rfl⟩
    have HZK := Lib.hid hzk
    rw [hzk]
    clear hzk
    obtain ⟨zz, hzz⟩ : ∃ zz : Value, (.int .i64 0 : Value) = zz := ⟨_, rfl⟩
    rw [hzz] at c1
    clear hzz
    go_upto_region 10 with fail
    obtain ⟨W7, hW7⟩ : ∃ W7, W6.setCell ⟨g, 1, none⟩ (.int .i64 zk) = W7 := ⟨_, rfl⟩
    have F7 : Hid (Bk W7 g 30 #[.int .i64 kk, .int .i64 zk, .string x5, .string y5, .slice A5 n5 cap5, .bool b5]) := by
      have h7 := F6.out.put 1 (.int .i64 zk)
      rw [hW7] at h7
      unfold Hid
      simpa using h7
    have D7 : Hid (Bk W7 Q 30 tok0) := by rw [← hW7]; exact D6.out.far (p := ⟨g, 1, none⟩) hQg _
    have T7 : Hid (TX 35 W7 T s r5) := by rw [← hW7]; exact T6.out.far (p := ⟨g, 1, none⟩) (Nat.ne_of_lt HGT.out) _
    have N7 : Hid (Tn T Q w W7) := by rw [← hW7]; exact N6.out.setHigh (p := ⟨g, 1, none⟩) (Nat.le_of_lt HGQ.out) _
    have I7 : Hid (TokIs W7 (tokL r) kk x5 y5 (.slice A5 n5 cap5) b5 ok5 r5) := by rw [← hW7]; exact I6.out.keep (KeepA.set F6.out (by decide) _ _)
    rw [hW7]
    clear hW7 c1 f1
    have c0 : W7.cell? ⟨g, 0, none⟩ = some (.int .i64 kk) := F7.out.cell 0
    have c1 : W7.cell? ⟨g, 1, none⟩ = some (.int .i64 zk) := F7.out.cell 1
    have c2 : W7.cell? ⟨g, 2, none⟩ = some (.string x5) := F7.out.cell 2
    have c3 : W7.cell? ⟨g, 3, none⟩ = some (.string y5) := F7.out.cell 3
    have c4 : W7.cell? ⟨g, 4, none⟩ = some (.slice A5 n5 cap5) := F7.out.cell 4
    have c5 : W7.cell? ⟨g, 5, none⟩ = some (.bool b5) := F7.out.cell 5
    obtain ⟨y0, d0⟩ : ∃ v, W7.cell? ⟨Q, 0, none⟩ = some v := ⟨_, D7.out.cell 0⟩
    obtain ⟨y1, d1⟩ : ∃ v, W7.cell? ⟨Q, 1, none⟩ = some v := ⟨_, D7.out.cell 1⟩
    obtain ⟨y2, d2⟩ : ∃ v, W7.cell? ⟨Q, 2, none⟩ = some v := ⟨_, D7.out.cell 2⟩
    obtain ⟨y3, d3⟩ : ∃ v, W7.cell? ⟨Q, 3, none⟩ = some v := ⟨_, D7.out.cell 3⟩
    obtain ⟨y4, d4⟩ : ∃ v, W7.cell? ⟨Q, 4, none⟩ = some v := ⟨_, D7.out.cell 4⟩
    obtain ⟨y6, d5⟩ : ∃ v, W7.cell? ⟨Q, 5, none⟩ = some v := ⟨_, D7.out.cell 5⟩
    have h0 : W7.frozen? ⟨Q, 0, none⟩ = false := D7.out.free 0
    have h1 : W7.frozen? ⟨Q, 1, none⟩ = false := D7.out.free 1
    have h2 : W7.frozen? ⟨Q, 2, none⟩ = false := D7.out.free 2
    have h3 : W7.frozen? ⟨Q, 3, none⟩ = false := D7.out.free 3
    have h4 : W7.frozen? ⟨Q, 4, none⟩ = false := D7.out.free 4
    have h5 : W7.frozen? ⟨Q, 5, none⟩ = false := D7.out.free 5
    go_wp2_with fail
    have KF := D7.out.six (.int .i64 kk) (.int .i64 zk) (.string x5) (.string y5) (.slice A5 n5 cap5) (.bool b5)
    have q0 : World.cell? (six Q W7 (.int .i64 kk) (.int .i64 zk) (.string x5) (.string y5) (.slice A5 n5 cap5) (.bool b5)) ⟨Q, 0, none⟩ = some (.int .i64 kk) := KF.cell 0
    have q1 : World.cell? (six Q W7 (.int .i64 kk) (.int .i64 zk) (.string x5) (.string y5) (.slice A5 n5 cap5) (.bool b5)) ⟨Q, 1, none⟩ = some (.int .i64 zk) := KF.cell 1
    have q2 : World.cell? (six Q W7 (.int .i64 kk) (.int .i64 zk) (.string x5) (.string y5) (.slice A5 n5 cap5) (.bool b5)) ⟨Q, 2, none⟩ = some (.string x5) := KF.cell 2
    have q3 : World.cell? (six Q W7 (.int .i64 kk) (.int .i64 zk) (.string x5) (.string y5) (.slice A5 n5 cap5) (.bool b5)) ⟨Q, 3, none⟩ = some (.string y5) := KF.cell 3
    have q4 : World.cell? (six Q W7 (.int .i64 kk) (.int .i64 zk) (.string x5) (.string y5) (.slice A5 n5 cap5) (.bool b5)) ⟨Q, 4, none⟩ = some (.slice A5 n5 cap5) := KF.cell 4
    have q5 : World.cell? (six Q W7 (.int .i64 kk) (.int .i64 zk) (.string x5) (.string y5) (.slice A5 n5 cap5) (.bool b5)) ⟨Q, 5, none⟩ = some (.bool b5) := KF.cell 5
    refine bodyPost_ret (v := .tuple #[.agg #[.int .i64 kk, .int .i64 zk, .string x5, .string y5, .slice A5 n5 cap5, .bool b5], .bool ok5]) (by simp [results, Tryz.results12, go_sem, q0, q1, q2, q3, q4, q5]) rfl ⟨⟨kk, x5, y5, A5, n5, cap5, b5, ok5, r5, by rw [HZK.out], six_tx T7.out (by have := HGT.out; have := S5.out.lt; omega) _ _ _ _ _ _, ?_⟩, ?_⟩
    · exact I7.out.keep (six_keepA D7.out (by decide) _ _ _ _ _ _)
    · rw [HQ.out]; exact six_tn N7.out (Nat.le_refl _) _ _ _ _ _ _
  · skip
    have HO2 := Lib.hid (HOV.out ⟨#[60, 47]⟩ r W1 T1.out (by first | (show 2 ≤ 1000; omega) | (show 1 ≤ 1000; omega)))
    rw [show (⟨#[60, 47]⟩ : ByteArray).data.toList = [60, 47] from rfl, hp, ho] at HO2
    clear hp ho
    rcases hcase with ⟨x, hr, ht⟩ | ⟨hne, ht⟩
    · have HT : Hid (tokL r = openL x) := ht
      have hp : [60].isPrefixOf r = true := by rw [hr]; simp
      have ho : over [60] r = x := by rw [hr]; unfold over; simp
      have HO3 := Lib.hid (fun (W : World) (a : TX 35 W T s r) => HOV.out ⟨#[60]⟩ r W a (by show 1 ≤ 1000; omega))
      rw [show (⟨#[60]⟩ : ByteArray).data.toList = [60] from rfl, hp, ho] at HO3
      clear hr hp ho ht
      refine HO2.out.mono ?_
      rintro e w2 ⟨rfl, t2, n2⟩
      have T2 := Lib.hid t2
      have S2 := Lib.hid (S1.out.step n2)
      have F2 := Lib.hid (n2.bk F1.out F1.out.lt (by have := HGT.out; omega))
      clear t2 n2
      go_wp2_with fail
      refine (HO3.out w2 T2.out).mono ?_
      rintro e w3 ⟨rfl, t3, n3⟩
      have T3 := Lib.hid t3
      have S3 := Lib.hid (S2.out.step n3)
      have F3 := Lib.hid (n3.bk F2.out F2.out.lt (by have := HGT.out; omega))
      clear t3 n3
      go_wp2_with fail
      refine (HOP.out x _ T3.out S3.out.env).mono ?_
      rintro e w5 ⟨⟨kk, x5, y5, A5, n5, cap5, b5, ok5, r5, rfl, t5, i5⟩, n5'⟩
      have T5 := Lib.hid t5
      have I5 := Lib.hid i5
      have S5 := Lib.hid (S3.out.step n5')
      have F5 := Lib.hid (n5'.bk F3.out F3.out.lt (by have := HGT.out; omega))
      clear t5 i5 n5'
      obtain ⟨v0, c0⟩ : ∃ v, w5.cell? ⟨g, 0, none⟩ = some v := ⟨_, F5.out.cell 0⟩
      obtain ⟨v1, c1⟩ : ∃ v, w5.cell? ⟨g, 1, none⟩ = some v := ⟨_, F5.out.cell 1⟩
      obtain ⟨v2, c2⟩ : ∃ v, w5.cell? ⟨g, 2, none⟩ = some v := ⟨_, F5.out.cell 2⟩
      obtain ⟨v3, c3⟩ : ∃ v, w5.cell? ⟨g, 3, none⟩ = some v := ⟨_, F5.out.cell 3⟩
      obtain ⟨v4, c4⟩ : ∃ v, w5.cell? ⟨g, 4, none⟩ = some v := ⟨_, F5.out.cell 4⟩
      obtain ⟨v5, c5⟩ : ∃ v, w5.cell? ⟨g, 5, none⟩ = some v := ⟨_, F5.out.cell 5⟩
      have f0 : w5.frozen? ⟨g, 0, none⟩ = false := F5.out.free 0
      have f1 : w5.frozen? ⟨g, 1, none⟩ = false := F5.out.free 1
      have f2 : w5.frozen? ⟨g, 2, none⟩ = false := F5.out.free 2
      have f3 : w5.frozen? ⟨g, 3, none⟩ = false := F5.out.free 3
      have f4 : w5.frozen? ⟨g, 4, none⟩ = false := F5.out.free 4
      have f5 : w5.frozen? ⟨g, 5, none⟩ = false := F5.out.free 5
      go_upto_region 9 with fail
      obtain ⟨W6, hW6⟩ : ∃ W6, (World.setCell (World.setCell (World.setCell (World.setCell (World.setCell (World.setCell w5 ⟨g, 0, none⟩ (.int .i64 kk)) ⟨g, 1, none⟩ (.int .i64 0)) ⟨g, 2, none⟩ (.string x5)) ⟨g, 3, none⟩ (.string y5)) ⟨g, 4, none⟩ (.slice A5 n5 cap5)) ⟨g, 5, none⟩ (.bool b5)) = W6 := ⟨_, rfl⟩
      have hQg : Q ≠ g := Nat.ne_of_lt HGQ.out
      have F6 : Hid (Bk W6 g 30 #[.int .i64 kk, .int .i64 0, .string x5, .string y5, .slice A5 n5 cap5, .bool b5]) := by rw [← hW6]; exact F5.out.six (.int .i64 kk) (.int .i64 0) (.string x5) (.string y5) (.slice A5 n5 cap5) (.bool b5)
      have D6 : Hid (Bk W6 Q 30 tok0) := by rw [← hW6]; exact six_far S5.out.bk hQg _ _ _ _ _ _
      have T6 : Hid (TX 35 W6 T s r5) := by rw [← hW6]; exact six_tx T5.out (Nat.ne_of_lt HGT.out) _ _ _ _ _ _
      have N6 : Hid (Tn T Q w W6) := by rw [← hW6]; exact six_tn S5.out.tn (Nat.le_of_lt HGQ.out) _ _ _ _ _ _
      have I6 : Hid (TokIs W6 (tokL r) kk x5 y5 (.slice A5 n5 cap5) b5 ok5 r5) := by rw [← hW6, HT.out]; exact I5.out.keep (six_keepA F5.out (by decide) _ _ _ _ _ _)
      rw [hW6]
      clear hW6 c0 c1 c2 c3 c4 c5 f0 f1 f2 f3 f4 f5
      have c1 : W6.cell? ⟨g, 1, none⟩ = some (.int .i64 0) := F6.out.cell 1
      have f1 : W6.frozen? ⟨g, 1, none⟩ = false := F6.out.free 1
      obtain ⟨zk, hzk⟩ : ∃ zk : Int, (k' : Int) = zk := ⟨_, rfl⟩
      have HZK := Lib.hid hzk
      rw [hzk]
      clear hzk
      obtain ⟨zz, hzz⟩ : ∃ zz : Value, (.int .i64 0 : Value) = zz := ⟨_, rfl⟩
      rw [hzz] at c1
      clear hzz
      go_upto_region 10 with fail
      obtain ⟨W7, hW7⟩ : ∃ W7, W6.setCell ⟨g, 1, none⟩ (.int .i64 zk) = W7 := ⟨_, rfl⟩
      have F7 : Hid (Bk W7 g 30 #[.int .i64 kk, .int .i64 zk, .string x5, .string y5, .slice A5 n5 cap5, .bool b5]) := by
        have h7 := F6.out.put 1 (.int .i64 zk)
        rw [hW7] at h7
        unfold Hid
        simpa using h7
      have D7 : Hid (Bk W7 Q 30 tok0) := by rw [← hW7]; exact D6.out.far (p := ⟨g, 1, none⟩) hQg _
      have T7 : Hid (TX 35 W7 T s r5) := by rw [← hW7]; exact T6.out.far (p := ⟨g, 1, none⟩) (Nat.ne_of_lt HGT.out) _
      have N7 : Hid (Tn T Q w W7) := by rw [← hW7]; exact N6.out.setHigh (p := ⟨g, 1, none⟩) (Nat.le_of_lt HGQ.out) _
      have I7 : Hid (TokIs W7 (tokL r) kk x5 y5 (.slice A5 n5 cap5) b5 ok5 r5) := by rw [← hW7]; exact I6.out.keep (KeepA.set F6.out (by decide) _ _)
      rw [hW7]
      clear hW7 c1 f1
      have c0 : W7.cell? ⟨g, 0, none⟩ = some (.int .i64 kk) := F7.out.cell 0
      have c1 : W7.cell? ⟨g, 1, none⟩ = some (.int .i64 zk) := F7.out.cell 1
      have c2 : W7.cell? ⟨g, 2, none⟩ = some (.string x5) := F7.out.cell 2
      have c3 : W7.cell? ⟨g, 3, none⟩ = some (.string y5) := F7.out.cell 3
      have c4 : W7.cell? ⟨g, 4, none⟩ = some (.slice A5 n5 cap5) := F7.out.cell 4
      have c5 : W7.cell? ⟨g, 5, none⟩ = some (.bool b5) := F7.out.cell 5
      obtain ⟨y0, d0⟩ : ∃ v, W7.cell? ⟨Q, 0, none⟩ = some v := ⟨_, D7.out.cell 0⟩
      obtain ⟨y1, d1⟩ : ∃ v, W7.cell? ⟨Q, 1, none⟩ = some v := ⟨_, D7.out.cell 1⟩
      obtain ⟨y2, d2⟩ : ∃ v, W7.cell? ⟨Q, 2, none⟩ = some v := ⟨_, D7.out.cell 2⟩
      obtain ⟨y3, d3⟩ : ∃ v, W7.cell? ⟨Q, 3, none⟩ = some v := ⟨_, D7.out.cell 3⟩
      obtain ⟨y4, d4⟩ : ∃ v, W7.cell? ⟨Q, 4, none⟩ = some v := ⟨_, D7.out.cell 4⟩
      obtain ⟨y6, d5⟩ : ∃ v, W7.cell? ⟨Q, 5, none⟩ = some v := ⟨_, D7.out.cell 5⟩
      have h0 : W7.frozen? ⟨Q, 0, none⟩ = false := D7.out.free 0
      have h1 : W7.frozen? ⟨Q, 1, none⟩ = false := D7.out.free 1
      have h2 : W7.frozen? ⟨Q, 2, none⟩ = false := D7.out.free 2
      have h3 : W7.frozen? ⟨Q, 3, none⟩ = false := D7.out.free 3
      have h4 : W7.frozen? ⟨Q, 4, none⟩ = false := D7.out.free 4
      have h5 : W7.frozen? ⟨Q, 5, none⟩ = false := D7.out.free 5
      go_wp2_with fail
      have KF := D7.out.six (.int .i64 kk) (.int .i64 zk) (.string x5) (.string y5) (.slice A5 n5 cap5) (.bool b5)
      have q0 : World.cell? (six Q W7 (.int .i64 kk) (.int .i64 zk) (.string x5) (.string y5) (.slice A5 n5 cap5) (.bool b5)) ⟨Q, 0, none⟩ = some (.int .i64 kk) := KF.cell 0
      have q1 : World.cell? (six Q W7 (.int .i64 kk) (.int .i64 zk) (.string x5) (.string y5) (.slice A5 n5 cap5) (.bool b5)) ⟨Q, 1, none⟩ = some (.int .i64 zk) := KF.cell 1
      have q2 : World.cell? (six Q W7 (.int .i64 kk) (.int .i64 zk) (.string x5) (.string y5) (.slice A5 n5 cap5) (.bool b5)) ⟨Q, 2, none⟩ = some (.string x5) := KF.cell 2
      have q3 : World.cell? (six Q W7 (.int .i64 kk) (.int .i64 zk) (.string x5) (.string y5) (.slice A5 n5 cap5) (.bool b5)) ⟨Q, 3, none⟩ = some (.string y5) := KF.cell 3
      have q4 : World.cell? (six Q W7 (.int .i64 kk) (.int .i64 zk) (.string x5) (.string y5) (.slice A5 n5 cap5) (.bool b5)) ⟨Q, 4, none⟩ = some (.slice A5 n5 cap5) := KF.cell 4
      have q5 : World.cell? (six Q W7 (.int .i64 kk) (.int .i64 zk) (.string x5) (.string y5) (.slice A5 n5 cap5) (.bool b5)) ⟨Q, 5, none⟩ = some (.bool b5) := KF.cell 5
      refine bodyPost_ret (v := .tuple #[.agg #[.int .i64 kk, .int .i64 zk, .string x5, .string y5, .slice A5 n5 cap5, .bool b5], .bool ok5]) (by simp [results, Tryz.results12, go_sem, q0, q1, q2, q3, q4, q5]) rfl ⟨⟨kk, x5, y5, A5, n5, cap5, b5, ok5, r5, by rw [HZK.out], six_tx T7.out (by have := HGT.out; have := S5.out.lt; omega) _ _ _ _ _ _, ?_⟩, ?_⟩
      · exact I7.out.keep (six_keepA D7.out (by decide) _ _ _ _ _ _)
      · rw [HQ.out]; exact six_tn N7.out (Nat.le_refl _) _ _ _ _ _ _
    · have HT : Hid (tokL r = textL r) := ht
      have h1 := one_prefix 60 r
      have hp : [60].isPrefixOf r = false := by
        rcases h1 with ⟨_, t, e, _⟩ | ⟨hp, _⟩
        · exact absurd e (hne t)
        · exact hp
      have ho : over [60] r = r := by unfold over; rw [hp]; rfl
      have HO3 := Lib.hid (fun (W : World) (a : TX 35 W T s r) => HOV.out ⟨#[60]⟩ r W a (by show 1 ≤ 1000; omega))
      rw [show (⟨#[60]⟩ : ByteArray).data.toList = [60] from rfl, hp, ho] at HO3
      clear hp ho ht h1 hne
      refine HO2.out.mono ?_
      rintro e w2 ⟨rfl, t2, n2⟩
      have T2 := Lib.hid t2
      have S2 := Lib.hid (S1.out.step n2)
      have F2 := Lib.hid (n2.bk F1.out F1.out.lt (by have := HGT.out; omega))
      clear t2 n2
      go_wp2_with fail
      refine (HO3.out w2 T2.out).mono ?_
      rintro e w3 ⟨rfl, t3, n3⟩
      have T3 := Lib.hid t3
      have S3 := Lib.hid (S2.out.step n3)
      have F3 := Lib.hid (n3.bk F2.out F2.out.lt (by have := HGT.out; omega))
      clear t3 n3
      go_wp2_with fail
      refine (HWO.out r _ T3.out S3.out.env).mono ?_
      rintro e w5 ⟨⟨kk, x5, y5, A5, n5, cap5, b5, ok5, r5, rfl, t5, i5⟩, n5'⟩
      have T5 := Lib.hid t5
      have I5 := Lib.hid i5
      have S5 := Lib.hid (S3.out.step n5')
      have F5 := Lib.hid (n5'.bk F3.out F3.out.lt (by have := HGT.out; omega))
      clear t5 i5 n5'
      obtain ⟨v0, c0⟩ : ∃ v, w5.cell? ⟨g, 0, none⟩ = some v := ⟨_, F5.out.cell 0⟩
      obtain ⟨v1, c1⟩ : ∃ v, w5.cell? ⟨g, 1, none⟩ = some v := ⟨_, F5.out.cell 1⟩
      obtain ⟨v2, c2⟩ : ∃ v, w5.cell? ⟨g, 2, none⟩ = some v := ⟨_, F5.out.cell 2⟩
      obtain ⟨v3, c3⟩ : ∃ v, w5.cell? ⟨g, 3, none⟩ = some v := ⟨_, F5.out.cell 3⟩
      obtain ⟨v4, c4⟩ : ∃ v, w5.cell? ⟨g, 4, none⟩ = some v := ⟨_, F5.out.cell 4⟩
      obtain ⟨v5, c5⟩ : ∃ v, w5.cell? ⟨g, 5, none⟩ = some v := ⟨_, F5.out.cell 5⟩
      have f0 : w5.frozen? ⟨g, 0, none⟩ = false := F5.out.free 0
      have f1 : w5.frozen? ⟨g, 1, none⟩ = false := F5.out.free 1
      have f2 : w5.frozen? ⟨g, 2, none⟩ = false := F5.out.free 2
      have f3 : w5.frozen? ⟨g, 3, none⟩ = false := F5.out.free 3
      have f4 : w5.frozen? ⟨g, 4, none⟩ = false := F5.out.free 4
      have f5 : w5.frozen? ⟨g, 5, none⟩ = false := F5.out.free 5
      go_upto_region 9 with fail
      obtain ⟨W6, hW6⟩ : ∃ W6, (World.setCell (World.setCell (World.setCell (World.setCell (World.setCell (World.setCell w5 ⟨g, 0, none⟩ (.int .i64 kk)) ⟨g, 1, none⟩ (.int .i64 0)) ⟨g, 2, none⟩ (.string x5)) ⟨g, 3, none⟩ (.string y5)) ⟨g, 4, none⟩ (.slice A5 n5 cap5)) ⟨g, 5, none⟩ (.bool b5)) = W6 := ⟨_, rfl⟩
      have hQg : Q ≠ g := Nat.ne_of_lt HGQ.out
      have F6 : Hid (Bk W6 g 30 #[.int .i64 kk, .int .i64 0, .string x5, .string y5, .slice A5 n5 cap5, .bool b5]) := by rw [← hW6]; exact F5.out.six (.int .i64 kk) (.int .i64 0) (.string x5) (.string y5) (.slice A5 n5 cap5) (.bool b5)
      have D6 : Hid (Bk W6 Q 30 tok0) := by rw [← hW6]; exact six_far S5.out.bk hQg _ _ _ _ _ _
      have T6 : Hid (TX 35 W6 T s r5) := by rw [← hW6]; exact six_tx T5.out (Nat.ne_of_lt HGT.out) _ _ _ _ _ _
      have N6 : Hid (Tn T Q w W6) := by rw [← hW6]; exact six_tn S5.out.tn (Nat.le_of_lt HGQ.out) _ _ _ _ _ _
      have I6 : Hid (TokIs W6 (tokL r) kk x5 y5 (.slice A5 n5 cap5) b5 ok5 r5) := by rw [← hW6, HT.out]; exact I5.out.keep (six_keepA F5.out (by decide) _ _ _ _ _ _)
      rw [hW6]
      clear hW6 c0 c1 c2 c3 c4 c5 f0 f1 f2 f3 f4 f5
      have c1 : W6.cell? ⟨g, 1, none⟩ = some (.int .i64 0) := F6.out.cell 1
      have f1 : W6.frozen? ⟨g, 1, none⟩ = false := F6.out.free 1
      obtain ⟨zk, hzk⟩ : ∃ zk : Int, (k' : Int) = zk := ⟨_, rfl⟩
      have HZK := Lib.hid hzk
      rw [hzk]
      clear hzk
      obtain ⟨zz, hzz⟩ : ∃ zz : Value, (.int .i64 0 : Value) = zz := ⟨_, rfl⟩
      rw [hzz] at c1
      clear hzz
      go_upto_region 10 with fail
      obtain ⟨W7, hW7⟩ : ∃ W7, W6.setCell ⟨g, 1, none⟩ (.int .i64 zk) = W7 := ⟨_, rfl⟩
      have F7 : Hid (Bk W7 g 30 #[.int .i64 kk, .int .i64 zk, .string x5, .string y5, .slice A5 n5 cap5, .bool b5]) := by
        have h7 := F6.out.put 1 (.int .i64 zk)
        rw [hW7] at h7
        unfold Hid
        simpa using h7
      have D7 : Hid (Bk W7 Q 30 tok0) := by rw [← hW7]; exact D6.out.far (p := ⟨g, 1, none⟩) hQg _
      have T7 : Hid (TX 35 W7 T s r5) := by rw [← hW7]; exact T6.out.far (p := ⟨g, 1, none⟩) (Nat.ne_of_lt HGT.out) _
      have N7 : Hid (Tn T Q w W7) := by rw [← hW7]; exact N6.out.setHigh (p := ⟨g, 1, none⟩) (Nat.le_of_lt HGQ.out) _
      have I7 : Hid (TokIs W7 (tokL r) kk x5 y5 (.slice A5 n5 cap5) b5 ok5 r5) := by rw [← hW7]; exact I6.out.keep (KeepA.set F6.out (by decide) _ _)
      rw [hW7]
      clear hW7 c1 f1
      have c0 : W7.cell? ⟨g, 0, none⟩ = some (.int .i64 kk) := F7.out.cell 0
      have c1 : W7.cell? ⟨g, 1, none⟩ = some (.int .i64 zk) := F7.out.cell 1
      have c2 : W7.cell? ⟨g, 2, none⟩ = some (.string x5) := F7.out.cell 2
      have c3 : W7.cell? ⟨g, 3, none⟩ = some (.string y5) := F7.out.cell 3
      have c4 : W7.cell? ⟨g, 4, none⟩ = some (.slice A5 n5 cap5) := F7.out.cell 4
      have c5 : W7.cell? ⟨g, 5, none⟩ = some (.bool b5) := F7.out.cell 5
      obtain ⟨y0, d0⟩ : ∃ v, W7.cell? ⟨Q, 0, none⟩ = some v := ⟨_, D7.out.cell 0⟩
      obtain ⟨y1, d1⟩ : ∃ v, W7.cell? ⟨Q, 1, none⟩ = some v := ⟨_, D7.out.cell 1⟩
      obtain ⟨y2, d2⟩ : ∃ v, W7.cell? ⟨Q, 2, none⟩ = some v := ⟨_, D7.out.cell 2⟩
      obtain ⟨y3, d3⟩ : ∃ v, W7.cell? ⟨Q, 3, none⟩ = some v := ⟨_, D7.out.cell 3⟩
      obtain ⟨y4, d4⟩ : ∃ v, W7.cell? ⟨Q, 4, none⟩ = some v := ⟨_, D7.out.cell 4⟩
      obtain ⟨y6, d5⟩ : ∃ v, W7.cell? ⟨Q, 5, none⟩ = some v := ⟨_, D7.out.cell 5⟩
      have h0 : W7.frozen? ⟨Q, 0, none⟩ = false := D7.out.free 0
      have h1 : W7.frozen? ⟨Q, 1, none⟩ = false := D7.out.free 1
      have h2 : W7.frozen? ⟨Q, 2, none⟩ = false := D7.out.free 2
      have h3 : W7.frozen? ⟨Q, 3, none⟩ = false := D7.out.free 3
      have h4 : W7.frozen? ⟨Q, 4, none⟩ = false := D7.out.free 4
      have h5 : W7.frozen? ⟨Q, 5, none⟩ = false := D7.out.free 5
      go_wp2_with fail
      have KF := D7.out.six (.int .i64 kk) (.int .i64 zk) (.string x5) (.string y5) (.slice A5 n5 cap5) (.bool b5)
      have q0 : World.cell? (six Q W7 (.int .i64 kk) (.int .i64 zk) (.string x5) (.string y5) (.slice A5 n5 cap5) (.bool b5)) ⟨Q, 0, none⟩ = some (.int .i64 kk) := KF.cell 0
      have q1 : World.cell? (six Q W7 (.int .i64 kk) (.int .i64 zk) (.string x5) (.string y5) (.slice A5 n5 cap5) (.bool b5)) ⟨Q, 1, none⟩ = some (.int .i64 zk) := KF.cell 1
      have q2 : World.cell? (six Q W7 (.int .i64 kk) (.int .i64 zk) (.string x5) (.string y5) (.slice A5 n5 cap5) (.bool b5)) ⟨Q, 2, none⟩ = some (.string x5) := KF.cell 2
      have q3 : World.cell? (six Q W7 (.int .i64 kk) (.int .i64 zk) (.string x5) (.string y5) (.slice A5 n5 cap5) (.bool b5)) ⟨Q, 3, none⟩ = some (.string y5) := KF.cell 3
      have q4 : World.cell? (six Q W7 (.int .i64 kk) (.int .i64 zk) (.string x5) (.string y5) (.slice A5 n5 cap5) (.bool b5)) ⟨Q, 4, none⟩ = some (.slice A5 n5 cap5) := KF.cell 4
      have q5 : World.cell? (six Q W7 (.int .i64 kk) (.int .i64 zk) (.string x5) (.string y5) (.slice A5 n5 cap5) (.bool b5)) ⟨Q, 5, none⟩ = some (.bool b5) := KF.cell 5
      refine bodyPost_ret (v := .tuple #[.agg #[.int .i64 kk, .int .i64 zk, .string x5, .string y5, .slice A5 n5 cap5, .bool b5], .bool ok5]) (by simp [results, Tryz.results12, go_sem, q0, q1, q2, q3, q4, q5]) rfl ⟨⟨kk, x5, y5, A5, n5, cap5, b5, ok5, r5, by rw [HZK.out], six_tx T7.out (by have := HGT.out; have := S5.out.lt; omega) _ _ _ _ _ _, ?_⟩, ?_⟩
      · exact I7.out.keep (six_keepA D7.out (by decide) _ _ _ _ _ _)
      · rw [HQ.out]; exact six_tn N7.out (Nat.le_refl _) _ _ _ _ _ _
end Go.Proofs.YtlpjealcmnnbnaaGreatDoor
