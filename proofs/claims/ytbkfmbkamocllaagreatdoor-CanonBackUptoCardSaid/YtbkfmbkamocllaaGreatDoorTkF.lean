/- Texts laid together: TkF TkG TkH -/
import Derived.Test.YtbkfmbkamocllaaGreatDoorTkE
import Derived.Deep.Cut
/-
  package token: a token.
-/
namespace Go.Proofs.YtbkfmbkamocllaaGreatDoor
open Go.RowKit Tk

theorem over_two (r : List UInt8) : (∃ x, r = 60 :: 47 :: x ∧ [60, 47].isPrefixOf r = true ∧ over [60, 47] r = x ∧ tokL r = closeL x) ∨
    ([60, 47].isPrefixOf r = false ∧ over [60, 47] r = r ∧ ((∃ x, r = 60 :: x ∧ tokL r = openL x) ∨ ((∀ x, r ≠ 60 :: x) ∧ tokL r = textL r))) := by
  rcases cases_tok r with ⟨x, rfl⟩ | ⟨x, rfl, hx⟩ | hx
  · exact .inl ⟨x, rfl, by simp, by unfold over; simp, tok_close x⟩
  · have e : [60, 47].isPrefixOf (60 :: x) = false := by
      cases x with
      | nil => rfl
      | cons c t =>
        have : c ≠ 47 := fun e => hx t (by rw [e])
        show ((60 : UInt8) == 60 && (47 == c && _)) = false
        rw [beq_eq_false_iff_ne.2 (fun e => this e.symm)]
        simp
    exact .inr ⟨e, by unfold over; rw [e]; rfl, .inl ⟨x, rfl, tok_open hx⟩⟩
  · have e : [60, 47].isPrefixOf r = false := by
      cases r with
      | nil => rfl
      | cons c t =>
        have : c ≠ 60 := fun e => hx t (by rw [e])
        show (60 == c && _) = false
        rw [beq_eq_false_iff_ne.2 (fun e => this e.symm)]
        rfl
    exact .inr ⟨e, by unfold over; rw [e]; rfl, .inr ⟨hx, tok_text hx⟩⟩
set_option maxHeartbeats 2000000 in
set_option maxRecDepth 100000 in
theorem token_any (T k : Nat) (s : ByteArray) (r : List UInt8) (w : World) (h : TX 58 w T s r) (hs : s.size ≤ 100000000) (hE : Env T w) (hk : s.size - r.length = k) :
    Calls Tryz.prog 27 #[.pointer (some ⟨T, 0, none⟩)] w fun e w' => TokOut 58 T s k (tokL r) e w' ∧ Tn T w.heap.size w w' := by
  have HOV := Lib.hid (fun (m : ByteArray) (l : List UInt8) (W : World) (a : TX 58 W T s l) (b : m.size ≤ 1000) => over_any T s m l W a hs b)
  have HCL := Lib.hid (fun (l : List UInt8) (W : World) (a : TX 58 W T s l) (b : Env T W) => closed_any T s l W a hs b)
  have HOP := Lib.hid (fun (l : List UInt8) (W : World) (a : TX 58 W T s l) (b : Env T W) => opened_any T s l W a hs b)
  have HWO := Lib.hid (fun (l : List UInt8) (W : World) (a : TX 58 W T s l) (b : Env T W) => words_any T s l W a hs b)
  obtain ⟨k', _, _, hb0, hk'⟩ := h.at
  obtain rfl : k' = k := hk'.symm.trans hk
  obtain ⟨Q, hQ⟩ : ∃ Q, w.heap.size = Q := ⟨_, rfl⟩
  obtain ⟨W0, hW0⟩ : ∃ W0, w.alloc (.cells tok0 63) = W0 := ⟨_, rfl⟩
  obtain ⟨W1, hW1⟩ : ∃ W1, W0.alloc (.cells tok0 63) = W1 := ⟨_, rfl⟩
  obtain ⟨g, hg⟩ : ∃ g, W0.heap.size = g := ⟨_, rfl⟩
  have S0 : Sk T Q 63 tok0 w W0 := by rw [← hW0, ← hQ]; exact Sk.start _ _ hE h.lt
  have S1 : Hid (Sk T Q 63 tok0 w W1) := by rw [← hW1]; exact S0.belo ((Below.refl _ _).alloc (Nat.le_refl _) _)
  have F1 : Hid (Bk W1 g 63 tok0) := by rw [← hW1, ← hg]; exact Bk.new _ _ _
  have T1 : Hid (TX 58 W1 T s r) := by rw [← hW1, ← hW0]; exact (h.alloc _).alloc _
  have c0 : W0.cell? ⟨T, 1, none⟩ = some (.int .i64 k') := by rw [← hW0]; exact (hb0.alloc _).cell 1
  have hgT : T < g := by have := S0.lt; have := S0.bk.lt; omega
  have hgQ : Q < g := by have := S0.bk.lt; omega
  have HGT := Lib.hid hgT
  have HGQ := Lib.hid hgQ
  have HQ := Lib.hid hQ
  clear h hE hk hk' hb0 S0 hgT hgQ
  simp only [tok0] at hW0 hW1
  go_enter Tryz.func27, Tryz.ntmps27
  go_wp2_with fail
  clear hW0 hW1 hg c0
  rcases over_two r with ⟨x, hr, hp, ho, ht⟩ | ⟨hp, ho, hcase⟩
  · have HT : Hid (tokL r = closeL x) := ht
    have HO2 := Lib.hid (HOV.out ⟨#[60, 47]⟩ r W1 T1.out (by first | (show 2 ≤ 1000; omega) | (show 1 ≤ 1000; omega)))
    rw [show (⟨#[60, 47]⟩ : ByteArray).data.toList = [60, 47] from rfl, hp, ho] at HO2
    clear hr hp ho ht
    refine HO2.out.mono ?_
    rintro e w2 ⟨rfl, t2, n2⟩
    have T2 := Lib.hid t2
    have S2 := Lib.hid (S1.out.step n2)
    have F2 := Lib.hid (n2.bk F1.out F1.out.lt (by have := HGT.out; omega))
    clear t2 n2
    go_wp2_with fail
    refine (HCL.out x _ T2.out S2.out.env).mono ?_
    rintro e w5 ⟨⟨kk, x5, y5, A5, n5, cap5, b5, ok5, r5, rfl, t5, i5⟩, n5'⟩
    have T5 := Lib.hid t5
    have I5 := Lib.hid i5
    have S5 := Lib.hid (S2.out.step n5')
    have F5 := Lib.hid (n5'.bk F2.out F2.out.lt (by have := HGT.out; omega))
    clear t5 i5 n5'
    obtain ⟨v0, c0⟩ : ∃ v, w5.cell? ⟨g, 0, none⟩ = some v := ⟨_, F5.out.cell 0⟩
    obtain ⟨v1, c1⟩ : ∃ v, w5.cell? ⟨g, 1, none⟩ = some v := ⟨_, F5.out.cell 1⟩
    obtain ⟨v2, c2⟩ : ∃ v, w5.cell? ⟨g, 2, none⟩ = some v := ⟨_, F5.out.cell 2⟩
    obtain ⟨v3, c3⟩ : ∃ v, w5.cell? ⟨g, 3, none⟩ = some v := ⟨_, F5.out.cell 3⟩
    obtain ⟨v4, c4⟩ : ∃ v, w5.cell? ⟨g, 4, none⟩ = some v := ⟨_, F5.out.cell 4⟩
    obtain ⟨v5, c5⟩ : ∃ v, w5.cell? ⟨g, 5, none⟩ = some v := ⟨_, F5.out.cell 5⟩
    have f0 : w5.frozen? ⟨g, 0, none⟩ = false := F5.out.free 0
    have f1 : w5.frozen? ⟨g, 1, none⟩ = false := F5.out.free 1
    have f2 : w5.frozen? ⟨g, 2, none⟩ = false := F5.out.free 2
    have f3 : w5.frozen? ⟨g, 3, none⟩ = false := F5.out.free 3
    have f4 : w5.frozen? ⟨g, 4, none⟩ = false := F5.out.free 4
    have f5 : w5.frozen? ⟨g, 5, none⟩ = false := F5.out.free 5
    go_upto_region 9 with fail
    obtain ⟨W6, hW6⟩ : ∃ W6, (World.setCell (World.setCell (World.setCell (World.setCell (World.setCell (World.setCell w5 ⟨g, 0, none⟩ (.int .i64 kk)) ⟨g, 1, none⟩ (.int .i64 0)) ⟨g, 2, none⟩ (.string x5)) ⟨g, 3, none⟩ (.string y5)) ⟨g, 4, none⟩ (.slice A5 n5 cap5)) ⟨g, 5, none⟩ (.bool b5)) = W6 := ⟨_, rfl⟩
    have hQg : Q ≠ g := Nat.ne_of_lt HGQ.out
    have F6 : Hid (Bk W6 g 63 #[.int .i64 kk, .int .i64 0, .string x5, .string y5, .slice A5 n5 cap5, .bool b5]) := by rw [← hW6]; exact F5.out.six (.int .i64 kk) (.int .i64 0) (.string x5) (.string y5) (.slice A5 n5 cap5) (.bool b5)
    have D6 : Hid (Bk W6 Q 63 tok0) := by rw [← hW6]; exact six_far S5.out.bk hQg _ _ _ _ _ _
    have T6 : Hid (TX 58 W6 T s r5) := by rw [← hW6]; exact six_tx T5.out (Nat.ne_of_lt HGT.out) _ _ _ _ _ _
    have N6 : Hid (Tn T Q w W6) := by rw [← hW6]; exact six_tn S5.out.tn (Nat.le_of_lt HGQ.out) _ _ _ _ _ _
    have I6 : Hid (TokIs W6 (tokL r) kk x5 y5 (.slice A5 n5 cap5) b5 ok5 r5) := by rw [← hW6, HT.out]; exact I5.out.keep (six_keepA F5.out (by decide) _ _ _ _ _ _)
    rw [hW6]
    clear hW6 c0 c1 c2 c3 c4 c5 f0 f1 f2 f3 f4 f5
    have c1 : W6.cell? ⟨g, 1, none⟩ = some (.int .i64 0) := F6.out.cell 1
    have f1 : W6.frozen? ⟨g, 1, none⟩ = false := F6.out.free 1
    obtain ⟨zk, hzk⟩ : ∃ zk : Int, (k' : Int) = zk := ⟨_, rfl⟩
    have HZK := Lib.hid hzk
    rw [hzk]
    clear hzk
    obtain ⟨zz, hzz⟩ : ∃ zz : Value, (.int .i64 0 : Value) = zz := ⟨_, rfl⟩
    rw [hzz] at c1
    clear hzz
    go_upto_region 10 with fail
    obtain ⟨W7, hW7⟩ : ∃ W7, W6.setCell ⟨g, 1, none⟩ (.int .i64 zk) = W7 := ⟨_, rfl⟩
    have F7 : Hid (Bk W7 g 63 #[.int .i64 kk, .int .i64 zk, .string x5, .string y5, .slice A5 n5 cap5, .bool b5]) := by
      have h7 := F6.out.put 1 (.int .i64 zk)
      rw [hW7] at h7
      unfold Hid
      simpa using h7
    have D7 : Hid (Bk W7 Q 63 tok0) := by rw [← hW7]; exact D6.out.far (p := ⟨g, 1, none⟩) hQg _
    have T7 : Hid (TX 58 W7 T s r5) := by rw [← hW7]; exact T6.out.far (p := ⟨g, 1, none⟩) (Nat.ne_of_lt HGT.out) _
    have N7 : Hid (Tn T Q w W7) := by rw [← hW7]; exact N6.out.setHigh (p := ⟨g, 1, none⟩) (Nat.le_of_lt HGQ.out) _
    have I7 : Hid (TokIs W7 (tokL r) kk x5 y5 (.slice A5 n5 cap5) b5 ok5 r5) := by rw [← hW7]; exact I6.out.keep (KeepA.set F6.out (by decide) _ _)
    rw [hW7]
    clear hW7 c1 f1
    have c0 : W7.cell? ⟨g, 0, none⟩ = some (.int .i64 kk) := F7.out.cell 0
    have c1 : W7.cell? ⟨g, 1, none⟩ = some (.int .i64 zk) := F7.out.cell 1
    have c2 : W7.cell? ⟨g, 2, none⟩ = some (.string x5) := F7.out.cell 2
    have c3 : W7.cell? ⟨g, 3, none⟩ = some (.string y5) := F7.out.cell 3
    have c4 : W7.cell? ⟨g, 4, none⟩ = some (.slice A5 n5 cap5) := F7.out.cell 4
    have c5 : W7.cell? ⟨g, 5, none⟩ = some (.bool b5) := F7.out.cell 5
    obtain ⟨y0, d0⟩ : ∃ v, W7.cell? ⟨Q, 0, none⟩ = some v := ⟨_, D7.out.cell 0⟩
    obtain ⟨y1, d1⟩ : ∃ v, W7.cell? ⟨Q, 1, none⟩ = some v := ⟨_, D7.out.cell 1⟩
    obtain ⟨y2, d2⟩ : ∃ v, W7.cell? ⟨Q, 2, none⟩ = some v := ⟨_, D7.out.cell 2⟩
    obtain ⟨y3, d3⟩ : ∃ v, W7.cell? ⟨Q, 3, none⟩ = some v := ⟨_, D7.out.cell 3⟩
    obtain ⟨y4, d4⟩ : ∃ v, W7.cell? ⟨Q, 4, none⟩ = some v := ⟨_, D7.out.cell 4⟩
    obtain ⟨y6, d5⟩ : ∃ v, W7.cell? ⟨Q, 5, none⟩ = some v := ⟨_, D7.out.cell 5⟩
    have h0 : W7.frozen? ⟨Q, 0, none⟩ = false := D7.out.free 0
    have h1 : W7.frozen? ⟨Q, 1, none⟩ = false := D7.out.free 1
    have h2 : W7.frozen? ⟨Q, 2, none⟩ = false := D7.out.free 2
    have h3 : W7.frozen? ⟨Q, 3, none⟩ = false := D7.out.free 3
    have h4 : W7.frozen? ⟨Q, 4, none⟩ = false := D7.out.free 4
    have h5 : W7.frozen? ⟨Q, 5, none⟩ = false := D7.out.free 5
    go_wp2_with fail
    have KF := D7.out.six (.int .i64 kk) (.int .i64 zk) (.string x5) (.string y5) (.slice A5 n5 cap5) (.bool b5)
    have q0 : World.cell? (six Q W7 (.int .i64 kk) (.int .i64 zk) (.string x5) (.string y5) (.slice A5 n5 cap5) (.bool b5)) ⟨Q, 0, none⟩ = some (.int .i64 kk) := KF.cell 0
    have q1 : World.cell? (six Q W7 (.int .i64 kk) (.int .i64 zk) (.string x5) (.string y5) (.slice A5 n5 cap5) (.bool b5)) ⟨Q, 1, none⟩ = some (.int .i64 zk) := KF.cell 1
    have q2 : World.cell? (six Q W7 (.int .i64 kk) (.int .i64 zk) (.string x5) (.string y5) (.slice A5 n5 cap5) (.bool b5)) ⟨Q, 2, none⟩ = some (.string x5) := KF.cell 2
    have q3 : World.cell? (six Q W7 (.int .i64 kk) (.int .i64 zk) (.string x5) (.string y5) (.slice A5 n5 cap5) (.bool b5)) ⟨Q, 3, none⟩ = some (.string y5) := KF.cell 3
    have q4 : World.cell? (six Q W7 (.int .i64 kk) (.int .i64 zk) (.string x5) (.string y5) (.slice A5 n5 cap5) (.bool b5)) ⟨Q, 4, none⟩ = some (.slice A5 n5 cap5) := KF.cell 4
    have q5 : World.cell? (six Q W7 (.int .i64 kk) (.int .i64 zk) (.string x5) (.string y5) (.slice A5 n5 cap5) (.bool b5)) ⟨Q, 5, none⟩ = some (.bool b5) := KF.cell 5
    refine bodyPost_ret (v := .tuple #[.agg #[.int .i64 kk, .int .i64 zk, .string x5, .string y5, .slice A5 n5 cap5, .bool b5], .bool ok5]) (by simp [results, Tryz.results27, go_sem, q0, q1, q2, q3, q4, q5]) rfl ⟨⟨kk, x5, y5, A5, n5, cap5, b5, ok5, r5, by rw [HZK.out], six_tx T7.out (by have := HGT.out; have := S5.out.lt; omega) _ _ _ _ _ _, ?_⟩, ?_⟩
    · exact I7.out.keep (six_keepA D7.out (by decide) _ _ _ _ _ _)
    · rw [HQ.out]; exact six_tn N7.out (Nat.le_refl _) _ _ _ _ _ _
  · skip
    have HO2 := Lib.hid (HOV.out ⟨#[60, 47]⟩ r W1 T1.out (by first | (show 2 ≤ 1000; omega) | (show 1 ≤ 1000; omega)))
    rw [show (⟨#[60, 47]⟩ : ByteArray).data.toList = [60, 47] from rfl, hp, ho] at HO2
    clear hp ho
    rcases hcase with ⟨x, hr, ht⟩ | ⟨hne, ht⟩
    · have HT : Hid (tokL r = openL x) := ht
      have hp : [60].isPrefixOf r = true := by rw [hr]; simp
      have ho : over [60] r = x := by rw [hr]; unfold over; simp
      have HO3 := Lib.hid (fun (W : World) (a : TX 58 W T s r) => HOV.out ⟨#[60]⟩ r W a (by show 1 ≤ 1000; omega))
      rw [show (⟨#[60]⟩ : ByteArray).data.toList = [60] from rfl, hp, ho] at HO3
      clear hr hp ho ht
      refine HO2.out.mono ?_
      rintro e w2 ⟨rfl, t2, n2⟩
      have T2 := Lib.hid t2
      have S2 := Lib.hid (S1.out.step n2)
      have F2 := Lib.hid (n2.bk F1.out F1.out.lt (by have := HGT.out; omega))
      clear t2 n2
      go_wp2_with fail
      refine (HO3.out w2 T2.out).mono ?_
      rintro e w3 ⟨rfl, t3, n3⟩
      have T3 := Lib.hid t3
      have S3 := Lib.hid (S2.out.step n3)
      have F3 := Lib.hid (n3.bk F2.out F2.out.lt (by have := HGT.out; omega))
      clear t3 n3
      go_wp2_with fail
      refine (HOP.out x _ T3.out S3.out.env).mono ?_
      rintro e w5 ⟨⟨kk, x5, y5, A5, n5, cap5, b5, ok5, r5, rfl, t5, i5⟩, n5'⟩
      have T5 := Lib.hid t5
      have I5 := Lib.hid i5
      have S5 := Lib.hid (S3.out.step n5')
      have F5 := Lib.hid (n5'.bk F3.out F3.out.lt (by have := HGT.out; omega))
      clear t5 i5 n5'
      obtain ⟨v0, c0⟩ : ∃ v, w5.cell? ⟨g, 0, none⟩ = some v := ⟨_, F5.out.cell 0⟩
      obtain ⟨v1, c1⟩ : ∃ v, w5.cell? ⟨g, 1, none⟩ = some v := ⟨_, F5.out.cell 1⟩
      obtain ⟨v2, c2⟩ : ∃ v, w5.cell? ⟨g, 2, none⟩ = some v := ⟨_, F5.out.cell 2⟩
      obtain ⟨v3, c3⟩ : ∃ v, w5.cell? ⟨g, 3, none⟩ = some v := ⟨_, F5.out.cell 3⟩
      obtain ⟨v4, c4⟩ : ∃ v, w5.cell? ⟨g, 4, none⟩ = some v := ⟨_, F5.out.cell 4⟩
      obtain ⟨v5, c5⟩ : ∃ v, w5.cell? ⟨g, 5, none⟩ = some v := ⟨_, F5.out.cell 5⟩
      have f0 : w5.frozen? ⟨g, 0, none⟩ = false := F5.out.free 0
      have f1 : w5.frozen? ⟨g, 1, none⟩ = false := F5.out.free 1
      have f2 : w5.frozen? ⟨g, 2, none⟩ = false := F5.out.free 2
      have f3 : w5.frozen? ⟨g, 3, none⟩ = false := F5.out.free 3
      have f4 : w5.frozen? ⟨g, 4, none⟩ = false := F5.out.free 4
      have f5 : w5.frozen? ⟨g, 5, none⟩ = false := F5.out.free 5
      go_upto_region 9 with fail
      obtain ⟨W6, hW6⟩ : ∃ W6, (World.setCell (World.setCell (World.setCell (World.setCell (World.setCell (World.setCell w5 ⟨g, 0, none⟩ (.int .i64 kk)) ⟨g, 1, none⟩ (.int .i64 0)) ⟨g, 2, none⟩ (.string x5)) ⟨g, 3, none⟩ (.string y5)) ⟨g, 4, none⟩ (.slice A5 n5 cap5)) ⟨g, 5, none⟩ (.bool b5)) = W6 := ⟨_, rfl⟩
      have hQg : Q ≠ g := Nat.ne_of_lt HGQ.out
      have F6 : Hid (Bk W6 g 63 #[.int .i64 kk, .int .i64 0, .string x5, .string y5, .slice A5 n5 cap5, .bool b5]) := by rw [← hW6]; exact F5.out.six (.int .i64 kk) (.int .i64 0) (.string x5) (.string y5) (.slice A5 n5 cap5) (.bool b5)
      have D6 : Hid (Bk W6 Q 63 tok0) := by rw [← hW6]; exact six_far S5.out.bk hQg _ _ _ _ _ _
      have T6 : Hid (TX 58 W6 T s r5) := by rw [← hW6]; exact six_tx T5.out (Nat.ne_of_lt HGT.out) _ _ _ _ _ _
      have N6 : Hid (Tn T Q w W6) := by rw [← hW6]; exact six_tn S5.out.tn (Nat.le_of_lt HGQ.out) _ _ _ _ _ _
      have I6 : Hid (TokIs W6 (tokL r) kk x5 y5 (.slice A5 n5 cap5) b5 ok5 r5) := by rw [← hW6, HT.out]; exact I5.out.keep (six_keepA F5.out (by decide) _ _ _ _ _ _)
      rw [hW6]
      clear hW6 c0 c1 c2 c3 c4 c5 f0 f1 f2 f3 f4 f5
      have c1 : W6.cell? ⟨g, 1, none⟩ = some (.int .i64 0) := F6.out.cell 1
      have f1 : W6.frozen? ⟨g, 1, none⟩ = false := F6.out.free 1
      obtain ⟨zk, hzk⟩ : ∃ zk : Int, (k' : Int) = zk := ⟨_, rfl⟩
      have HZK := Lib.hid hzk
      rw [hzk]
      clear hzk
      obtain ⟨zz, hzz⟩ : ∃ zz : Value, (.int .i64 0 : Value) = zz := ⟨_, rfl⟩
      rw [hzz] at c1
      clear hzz
      go_upto_region 10 with fail
      obtain ⟨W7, hW7⟩ : ∃ W7, W6.setCell ⟨g, 1, none⟩ (.int .i64 zk) = W7 := ⟨_, rfl⟩
      have F7 : Hid (Bk W7 g 63 #[.int .i64 kk, .int .i64 zk, .string x5, .string y5, .slice A5 n5 cap5, .bool b5]) := by
        have h7 := F6.out.put 1 (.int .i64 zk)
        rw [hW7] at h7
        unfold Hid
        simpa using h7
      have D7 : Hid (Bk W7 Q 63 tok0) := by rw [← hW7]; exact D6.out.far (p := ⟨g, 1, none⟩) hQg _
      have T7 : Hid (TX 58 W7 T s r5) := by rw [← hW7]; exact T6.out.far (p := ⟨g, 1, none⟩) (Nat.ne_of_lt HGT.out) _
      have N7 : Hid (Tn T Q w W7) := by rw [← hW7]; exact N6.out.setHigh (p := ⟨g, 1, none⟩) (Nat.le_of_lt HGQ.out) _
      have I7 : Hid (TokIs W7 (tokL r) kk x5 y5 (.slice A5 n5 cap5) b5 ok5 r5) := by rw [← hW7]; exact I6.out.keep (KeepA.set F6.out (by decide) _ _)
      rw [hW7]
      clear hW7 c1 f1
      have c0 : W7.cell? ⟨g, 0, none⟩ = some (.int .i64 kk) := F7.out.cell 0
      have c1 : W7.cell? ⟨g, 1, none⟩ = some (.int .i64 zk) := F7.out.cell 1
      have c2 : W7.cell? ⟨g, 2, none⟩ = some (.string x5) := F7.out.cell 2
      have c3 : W7.cell? ⟨g, 3, none⟩ = some (.string y5) := F7.out.cell 3
      have c4 : W7.cell? ⟨g, 4, none⟩ = some (.slice A5 n5 cap5) := F7.out.cell 4
      have c5 : W7.cell? ⟨g, 5, none⟩ = some (.bool b5) := F7.out.cell 5
      obtain ⟨y0, d0⟩ : ∃ v, W7.cell? ⟨Q, 0, none⟩ = some v := ⟨_, D7.out.cell 0⟩
      obtain ⟨y1, d1⟩ : ∃ v, W7.cell? ⟨Q, 1, none⟩ = some v := ⟨_, D7.out.cell 1⟩
      obtain ⟨y2, d2⟩ : ∃ v, W7.cell? ⟨Q, 2, none⟩ = some v := ⟨_, D7.out.cell 2⟩
      obtain ⟨y3, d3⟩ : ∃ v, W7.cell? ⟨Q, 3, none⟩ = some v := ⟨_, D7.out.cell 3⟩
      obtain ⟨y4, d4⟩ : ∃ v, W7.cell? ⟨Q, 4, none⟩ = some v := ⟨_, D7.out.cell 4⟩
      obtain ⟨y6, d5⟩ : ∃ v, W7.cell? ⟨Q, 5, none⟩ = some v := ⟨_, D7.out.cell 5⟩
      have h0 : W7.frozen? ⟨Q, 0, none⟩ = false := D7.out.free 0
      have h1 : W7.frozen? ⟨Q, 1, none⟩ = false := D7.out.free 1
      have h2 : W7.frozen? ⟨Q, 2, none⟩ = false := D7.out.free 2
      have h3 : W7.frozen? ⟨Q, 3, none⟩ = false := D7.out.free 3
      have h4 : W7.frozen? ⟨Q, 4, none⟩ = false := D7.out.free 4
      have h5 : W7.frozen? ⟨Q, 5, none⟩ = false := D7.out.free 5
      go_wp2_with fail
      have KF := D7.out.six (.int .i64 kk) (.int .i64 zk) (.string x5) (.string y5) (.slice A5 n5 cap5) (.bool b5)
      have q0 : World.cell? (six Q W7 (.int .i64 kk) (.int .i64 zk) (.string x5) (.string y5) (.slice A5 n5 cap5) (.bool b5)) ⟨Q, 0, none⟩ = some (.int .i64 kk) := KF.cell 0
      have q1 : World.cell? (six Q W7 (.int .i64 kk) (.int .i64 zk) (.string x5) (.string y5) (.slice A5 n5 cap5) (.bool b5)) ⟨Q, 1, none⟩ = some (.int .i64 zk) := KF.cell 1
      have q2 : World.cell? (six Q W7 (.int .i64 kk) (.int .i64 zk) (.string x5) (.string y5) (.slice A5 n5 cap5) (.bool b5)) ⟨Q, 2, none⟩ = some (.string x5) := KF.cell 2
      have q3 : World.cell? (six Q W7 (.int .i64 kk) (.int .i64 zk) (.string x5) (.string y5) (.slice A5 n5 cap5) (.bool b5)) ⟨Q, 3, none⟩ = some (.string y5) := KF.cell 3
      have q4 : World.cell? (six Q W7 (.int .i64 kk) (.int .i64 zk) (.string x5) (.string y5) (.slice A5 n5 cap5) (.bool b5)) ⟨Q, 4, none⟩ = some (.slice A5 n5 cap5) := KF.cell 4
      have q5 : World.cell? (six Q W7 (.int .i64 kk) (.int .i64 zk) (.string x5) (.string y5) (.slice A5 n5 cap5) (.bool b5)) ⟨Q, 5, none⟩ = some (.bool b5) := KF.cell 5
      refine bodyPost_ret (v := .tuple #[.agg #[.int .i64 kk, .int .i64 zk, .string x5, .string y5, .slice A5 n5 cap5, .bool b5], .bool ok5]) (by simp [results, Tryz.results27, go_sem, q0, q1, q2, q3, q4, q5]) rfl ⟨⟨kk, x5, y5, A5, n5, cap5, b5, ok5, r5, by rw [HZK.out], six_tx T7.out (by have := HGT.out; have := S5.out.lt; omega) _ _ _ _ _ _, ?_⟩, ?_⟩
      · exact I7.out.keep (six_keepA D7.out (by decide) _ _ _ _ _ _)
      · rw [HQ.out]; exact six_tn N7.out (Nat.le_refl _) _ _ _ _ _ _
    · have HT : Hid (tokL r = textL r) := ht
      have h1 := one_prefix 60 r
      have hp : [60].isPrefixOf r = false := by
        rcases h1 with ⟨_, t, e, _⟩ | ⟨hp, _⟩
        · exact absurd e (hne t)
        · exact hp
      have ho : over [60] r = r := by unfold over; rw [hp]; rfl
      have HO3 := Lib.hid (fun (W : World) (a : TX 58 W T s r) => HOV.out ⟨#[60]⟩ r W a (by show 1 ≤ 1000; omega))
      rw [show (⟨#[60]⟩ : ByteArray).data.toList = [60] from rfl, hp, ho] at HO3
      clear hp ho ht h1 hne
      refine HO2.out.mono ?_
      rintro e w2 ⟨rfl, t2, n2⟩
      have T2 := Lib.hid t2
      have S2 := Lib.hid (S1.out.step n2)
      have F2 := Lib.hid (n2.bk F1.out F1.out.lt (by have := HGT.out; omega))
      clear t2 n2
      go_wp2_with fail
      refine (HO3.out w2 T2.out).mono ?_
      rintro e w3 ⟨rfl, t3, n3⟩
      have T3 := Lib.hid t3
      have S3 := Lib.hid (S2.out.step n3)
      have F3 := Lib.hid (n3.bk F2.out F2.out.lt (by have := HGT.out; omega))
      clear t3 n3
      go_wp2_with fail
      refine (HWO.out r _ T3.out S3.out.env).mono ?_
      rintro e w5 ⟨⟨kk, x5, y5, A5, n5, cap5, b5, ok5, r5, rfl, t5, i5⟩, n5'⟩
      have T5 := Lib.hid t5
      have I5 := Lib.hid i5
      have S5 := Lib.hid (S3.out.step n5')
      have F5 := Lib.hid (n5'.bk F3.out F3.out.lt (by have := HGT.out; omega))
      clear t5 i5 n5'
      obtain ⟨v0, c0⟩ : ∃ v, w5.cell? ⟨g, 0, none⟩ = some v := ⟨_, F5.out.cell 0⟩
      obtain ⟨v1, c1⟩ : ∃ v, w5.cell? ⟨g, 1, none⟩ = some v := ⟨_, F5.out.cell 1⟩
      obtain ⟨v2, c2⟩ : ∃ v, w5.cell? ⟨g, 2, none⟩ = some v := ⟨_, F5.out.cell 2⟩
      obtain ⟨v3, c3⟩ : ∃ v, w5.cell? ⟨g, 3, none⟩ = some v := ⟨_, F5.out.cell 3⟩
      obtain ⟨v4, c4⟩ : ∃ v, w5.cell? ⟨g, 4, none⟩ = some v := ⟨_, F5.out.cell 4⟩
      obtain ⟨v5, c5⟩ : ∃ v, w5.cell? ⟨g, 5, none⟩ = some v := ⟨_, F5.out.cell 5⟩
      have f0 : w5.frozen? ⟨g, 0, none⟩ = false := F5.out.free 0
      have f1 : w5.frozen? ⟨g, 1, none⟩ = false := F5.out.free 1
      have f2 : w5.frozen? ⟨g, 2, none⟩ = false := F5.out.free 2
      have f3 : w5.frozen? ⟨g, 3, none⟩ = false := F5.out.free 3
      have f4 : w5.frozen? ⟨g, 4, none⟩ = false := F5.out.free 4
      have f5 : w5.frozen? ⟨g, 5, none⟩ = false := F5.out.free 5
      go_upto_region 9 with fail
      obtain ⟨W6, hW6⟩ : ∃ W6, (World.setCell (World.setCell (World.setCell (World.setCell (World.setCell (World.setCell w5 ⟨g, 0, none⟩ (.int .i64 kk)) ⟨g, 1, none⟩ (.int .i64 0)) ⟨g, 2, none⟩ (.string x5)) ⟨g, 3, none⟩ (.string y5)) ⟨g, 4, none⟩ (.slice A5 n5 cap5)) ⟨g, 5, none⟩ (.bool b5)) = W6 := ⟨_, rfl⟩
      have hQg : Q ≠ g := Nat.ne_of_lt HGQ.out
      have F6 : Hid (Bk W6 g 63 #[.int .i64 kk, .int .i64 0, .string x5, .string y5, .slice A5 n5 cap5, .bool b5]) := by rw [← hW6]; exact F5.out.six (.int .i64 kk) (.int .i64 0) (.string x5) (.string y5) (.slice A5 n5 cap5) (.bool b5)
      have D6 : Hid (Bk W6 Q 63 tok0) := by rw [← hW6]; exact six_far S5.out.bk hQg _ _ _ _ _ _
      have T6 : Hid (TX 58 W6 T s r5) := by rw [← hW6]; exact six_tx T5.out (Nat.ne_of_lt HGT.out) _ _ _ _ _ _
      have N6 : Hid (Tn T Q w W6) := by rw [← hW6]; exact six_tn S5.out.tn (Nat.le_of_lt HGQ.out) _ _ _ _ _ _
      have I6 : Hid (TokIs W6 (tokL r) kk x5 y5 (.slice A5 n5 cap5) b5 ok5 r5) := by rw [← hW6, HT.out]; exact I5.out.keep (six_keepA F5.out (by decide) _ _ _ _ _ _)
      rw [hW6]
      clear hW6 c0 c1 c2 c3 c4 c5 f0 f1 f2 f3 f4 f5
      have c1 : W6.cell? ⟨g, 1, none⟩ = some (.int .i64 0) := F6.out.cell 1
      have f1 : W6.frozen? ⟨g, 1, none⟩ = false := F6.out.free 1
      obtain ⟨zk, hzk⟩ : ∃ zk : Int, (k' : Int) = zk := ⟨_, rfl⟩
      have HZK := Lib.hid hzk
      rw [hzk]
      clear hzk
      obtain ⟨zz, hzz⟩ : ∃ zz : Value, (.int .i64 0 : Value) = zz := ⟨_, rfl⟩
      rw [hzz] at c1
      clear hzz
      go_upto_region 10 with fail
      obtain ⟨W7, hW7⟩ : ∃ W7, W6.setCell ⟨g, 1, none⟩ (.int .i64 zk) = W7 := ⟨_, rfl⟩
      have F7 : Hid (Bk W7 g 63 #[.int .i64 kk, .int .i64 zk, .string x5, .string y5, .slice A5 n5 cap5, .bool b5]) := by
        have h7 := F6.out.put 1 (.int .i64 zk)
        rw [hW7] at h7
        unfold Hid
        simpa using h7
      have D7 : Hid (Bk W7 Q 63 tok0) := by rw [← hW7]; exact D6.out.far (p := ⟨g, 1, none⟩) hQg _
      have T7 : Hid (TX 58 W7 T s r5) := by rw [← hW7]; exact T6.out.far (p := ⟨g, 1, none⟩) (Nat.ne_of_lt HGT.out) _
      have N7 : Hid (Tn T Q w W7) := by rw [← hW7]; exact N6.out.setHigh (p := ⟨g, 1, none⟩) (Nat.le_of_lt HGQ.out) _
      have I7 : Hid (TokIs W7 (tokL r) kk x5 y5 (.slice A5 n5 cap5) b5 ok5 r5) := by rw [← hW7]; exact I6.out.keep (KeepA.set F6.out (by decide) _ _)
      rw [hW7]
      clear hW7 c1 f1
      have c0 : W7.cell? ⟨g, 0, none⟩ = some (.int .i64 kk) := F7.out.cell 0
      have c1 : W7.cell? ⟨g, 1, none⟩ = some (.int .i64 zk) := F7.out.cell 1
      have c2 : W7.cell? ⟨g, 2, none⟩ = some (.string x5) := F7.out.cell 2
      have c3 : W7.cell? ⟨g, 3, none⟩ = some (.string y5) := F7.out.cell 3
      have c4 : W7.cell? ⟨g, 4, none⟩ = some (.slice A5 n5 cap5) := F7.out.cell 4
      have c5 : W7.cell? ⟨g, 5, none⟩ = some (.bool b5) := F7.out.cell 5
      obtain ⟨y0, d0⟩ : ∃ v, W7.cell? ⟨Q, 0, none⟩ = some v := ⟨_, D7.out.cell 0⟩
      obtain ⟨y1, d1⟩ : ∃ v, W7.cell? ⟨Q, 1, none⟩ = some v := ⟨_, D7.out.cell 1⟩
      obtain ⟨y2, d2⟩ : ∃ v, W7.cell? ⟨Q, 2, none⟩ = some v := ⟨_, D7.out.cell 2⟩
      obtain ⟨y3, d3⟩ : ∃ v, W7.cell? ⟨Q, 3, none⟩ = some v := ⟨_, D7.out.cell 3⟩
      obtain ⟨y4, d4⟩ : ∃ v, W7.cell? ⟨Q, 4, none⟩ = some v := ⟨_, D7.out.cell 4⟩
      obtain ⟨y6, d5⟩ : ∃ v, W7.cell? ⟨Q, 5, none⟩ = some v := ⟨_, D7.out.cell 5⟩
      have h0 : W7.frozen? ⟨Q, 0, none⟩ = false := D7.out.free 0
      have h1 : W7.frozen? ⟨Q, 1, none⟩ = false := D7.out.free 1
      have h2 : W7.frozen? ⟨Q, 2, none⟩ = false := D7.out.free 2
      have h3 : W7.frozen? ⟨Q, 3, none⟩ = false := D7.out.free 3
      have h4 : W7.frozen? ⟨Q, 4, none⟩ = false := D7.out.free 4
      have h5 : W7.frozen? ⟨Q, 5, none⟩ = false := D7.out.free 5
      go_wp2_with fail
      have KF := D7.out.six (.int .i64 kk) (.int .i64 zk) (.string x5) (.string y5) (.slice A5 n5 cap5) (.bool b5)
      have q0 : World.cell? (six Q W7 (.int .i64 kk) (.int .i64 zk) (.string x5) (.string y5) (.slice A5 n5 cap5) (.bool b5)) ⟨Q, 0, none⟩ = some (.int .i64 kk) := KF.cell 0
      have q1 : World.cell? (six Q W7 (.int .i64 kk) (.int .i64 zk) (.string x5) (.string y5) (.slice A5 n5 cap5) (.bool b5)) ⟨Q, 1, none⟩ = some (.int .i64 zk) := KF.cell 1
      have q2 : World.cell? (six Q W7 (.int .i64 kk) (.int .i64 zk) (.string x5) (.string y5) (.slice A5 n5 cap5) (.bool b5)) ⟨Q, 2, none⟩ = some (.string x5) := KF.cell 2
      have q3 : World.cell? (six Q W7 (.int .i64 kk) (.int .i64 zk) (.string x5) (.string y5) (.slice A5 n5 cap5) (.bool b5)) ⟨Q, 3, none⟩ = some (.string y5) := KF.cell 3
      have q4 : World.cell? (six Q W7 (.int .i64 kk) (.int .i64 zk) (.string x5) (.string y5) (.slice A5 n5 cap5) (.bool b5)) ⟨Q, 4, none⟩ = some (.slice A5 n5 cap5) := KF.cell 4
      have q5 : World.cell? (six Q W7 (.int .i64 kk) (.int .i64 zk) (.string x5) (.string y5) (.slice A5 n5 cap5) (.bool b5)) ⟨Q, 5, none⟩ = some (.bool b5) := KF.cell 5
      refine bodyPost_ret (v := .tuple #[.agg #[.int .i64 kk, .int .i64 zk, .string x5, .string y5, .slice A5 n5 cap5, .bool b5], .bool ok5]) (by simp [results, Tryz.results27, go_sem, q0, q1, q2, q3, q4, q5]) rfl ⟨⟨kk, x5, y5, A5, n5, cap5, b5, ok5, r5, by rw [HZK.out], six_tx T7.out (by have := HGT.out; have := S5.out.lt; omega) _ _ _ _ _ _, ?_⟩, ?_⟩
      · exact I7.out.keep (six_keepA D7.out (by decide) _ _ _ _ _ _)
      · rw [HQ.out]; exact six_tn N7.out (Nat.le_refl _) _ _ _ _ _ _
end Go.Proofs.YtbkfmbkamocllaaGreatDoor
/-
  package token: all tokens of a text.
-/
namespace Go.Proofs.YtbkfmbkamocllaaGreatDoor
open Go.RowKit Tk

theorem OwnK.far {B : Nat} {w : World} {v : Value} {l : List TokA} (h : OwnK B w v l) {g : Nat} {t : TypeId} {cs : Array Value} (hb : Bk w g t cs) (ht : t ≠ 63) : some g ≠ v.ownBlock := by
  obtain ⟨ks, _, h', _⟩ := h
  rcases h'.2 with ⟨rfl, h0⟩ | ⟨g', cap, cur, rfl, hg, hh, h1, h2, h3, h4⟩
  · intro e; cases e
  · intro e
    injection e with e
    subst e
    exact hb.type_ne (show Bk w g _ _ from hh) ht rfl
set_option maxHeartbeats 4000000 in
set_option maxRecDepth 100000 in
theorem throughT_any (T G : Nat) (s : ByteArray) (r : List UInt8) (w : World) (h : TX 58 w T s r) (hs : s.size ≤ 100000000) (hE : Env T w) (hTG : T < G)
    (hG : Bk w G 60 #[.slice none 0 0]) :
    Calls Tryz.prog 26 #[.pointer (some ⟨G, 0, none⟩), .pointer (some ⟨T, 0, none⟩), .func (.func 27) #[.pointer (some ⟨T, 0, none⟩)] #[]] w fun e w' =>
      e = .returned (.tuple #[]) ∧ ∃ v, Bk w' G 60 #[v] ∧ OwnK (G + 1) w' v (many (nextT s.size) [] r).1 ∧ TX 58 w' T s (many (nextT s.size) [] r).2 ∧ Tn T G w w' := by
  have eg : ∀ args w, (callFunc 27 args).run Tryz.prog w = .ok (.enter 27 args) w := Go.Proofs.enters_of Tryz.func27 (by kernel_rfl) rfl
  have HTX := Lib.hid h
  have HENV := Lib.hid hE
  have HG := Lib.hid hG
  have HPL := Lib.hid (fun (j : Nat) (W : World) (h : Bk W T 58 #[.string s, .int .i64 j]) => place_of h)
  obtain ⟨M, hM⟩ : ∃ M, many (nextT s.size) [] r = M := ⟨_, rfl⟩
  rw [hM]
  have HM := Lib.hid hM
  clear h hE hG hM
  go_enter Tryz.func26, Tryz.ntmps26
  go_wp2_with fail
  go_loopw [] (fun wr => ∃ (al : List TokA) (l : List UInt8) (v : Value), Hid (M = many (nextT s.size) al l) ∧ Hid (Bk wr G 60 #[v]) ∧ Hid (OwnK (G + 1) wr v al) ∧ Hid (TX 58 wr T s l) ∧ Hid (Tn T G w wr) ∧ Hid (al.length + l.length ≤ s.size)) (fun wr => s.size - placeOf T wr)
  case atStart => exact ⟨[], r, _, HM.out.symm, HG.out, OwnK.nil _ _, HTX.out, Tn.refl _ _ _, by unfold Hid; have := HTX.out.len; simpa using this⟩
  case round =>
    obtain ⟨al, l, v, hm, hg, ho, htx, htn, hlen⟩ := hrel
    obtain ⟨A, cap, rfl⟩ := ho.out.len
    have hx := htx
    obtain ⟨k, hk, hlk, hbk, hkl⟩ := hx.out.at
    have hpl := Lib.hid (HPL.out k wr hbk)
    have c1 : wr.cell? ⟨T, 1, none⟩ = some (.int .i64 k) := hbk.cell 1
    have hgs : G < wr.heap.size := hg.out.lt
    have HER : Hid (Env T wr) := Base.tn HENV.out htn.out (by omega)
    have HNX := Lib.hid (token_any T k s l wr htx.out hs HER.out hkl)
    have HLK := Lib.hid hlk
    have HBK := Lib.hid hbk
    have HKL := Lib.hid hkl
    have ZG := Lib.hid hgs
    have HKS := Lib.hid hk
    clear hlk hbk hkl hgs
    go_wp2_with fail
    refine HNX.out.mono ?_
    rintro e w1 ⟨⟨kk, x5, y5, A5, n5, cap5, b5, ok5, r1, rfl, t1, i1⟩, n1⟩
    have N1 := Lib.hid n1
    have G1 := Lib.hid (n1.bk hg.out hg.out.lt (by omega))
    have hown1 := Lib.hid (ho.out.tn n1 HBK.out (by decide) (by decide))
    have z1 : Hid (wr.heap.size ≤ w1.heap.size) := n1.size
    clear n1
    obtain ⟨zk, hzk⟩ : ∃ zk : Int, (k : Int) = zk := ⟨_, rfl⟩
    have HZK := Lib.hid hzk
    rw [hzk] at c1
    cases ha : tokL l with
    | none =>
      rw [ha] at i1
      have hok : ok5 = false := i1
      subst hok
      have HMS : Hid (M = (al, l)) := by unfold Hid; rw [hm.out]; exact many_stop (nextT_none ha)
      obtain ⟨W2, hW2⟩ : ∃ W2, w1.alloc (.cells #[.int .i64 kk, .int .i64 zk, .string x5, .string y5, .slice A5 n5 cap5, .bool b5] 63) = W2 := ⟨_, rfl⟩
      have T2 : Hid (TX 58 W2 T s r1) := by rw [← hW2]; exact t1.alloc _
      have G2 : Hid (Bk W2 G 60 #[.slice A al.length cap]) := by rw [← hW2]; exact G1.out.alloc _
      have O2 : Hid (OwnK (G + 1) W2 (.slice A al.length cap) al) := by rw [← hW2]; exact hown1.out.below ((Below.refl _ _).alloc (Nat.le_refl _) _)
      have N2 : Hid (Tn T G w W2) := by rw [← hW2]; exact (htn.out.then N1.out (by have := ZG.out; omega)).alloc (by have := ZG.out; have := z1.out; omega) _
      obtain ⟨j, _, _, hb2, _⟩ := T2.out.at
      obtain ⟨zj, d1⟩ : ∃ v, W2.cell? ⟨T, 1, none⟩ = some v := ⟨_, hb2.cell 1⟩
      have f1 : W2.frozen? ⟨T, 1, none⟩ = false := hb2.free 1
      have TB2 := Lib.hid hb2
      clear t1 ha hb2 i1
      rw [hzk]
      clear hzk
      go_wp2_with fail
      refine bodyPost_ret (results_none rfl _ _ _) rfl ?_
      refine ⟨rfl, .slice A al.length cap, ?_, ?_, ?_, ?_⟩
      · exact G2.out.far (p := ⟨T, 1, none⟩) (by show G ≠ T; omega) _
      · rw [HMS.out]
        exact O2.out.stored TB2.out (by decide) (by decide) 1 _
      · rw [HMS.out]
        show TX _ _ T s l
        rw [HLK.out, ← HZK.out]
        exact T2.out.back HKS.out
      · exact N2.out.set 1 _
    | some p =>
      obtain ⟨t, r2⟩ := p
      rw [ha] at i1
      obtain ⟨h1, h2, h3, h4, h5, h6, h7⟩ := i1
      simp only at h2 h3 h4 h5 h6 h7
      subst h1 h7 h3 h4 h6
      have HMS : Hid (M = many (nextT s.size) (al ++ [(k, t)]) r1) := by unfold Hid; rw [hm.out, many_step (shrinksT s.size) (nextT_some ha), HKL.out]
      have HRL := Lib.hid (tok_len ha)
      obtain ⟨W2, hW2⟩ : ∃ W2, w1.alloc (.cells #[.int .i64 t.1, .int .i64 k, .string (bts t.2.1), .string (bts t.2.2.1), .slice A5 n5 cap5, .bool t.2.2.2.2] 63) = W2 := ⟨_, rfl⟩
      obtain ⟨b, hb⟩ : ∃ b, w1.heap.size = b := ⟨_, rfl⟩
      have T2 : Hid (TX 58 W2 T s r1) := by rw [← hW2]; exact t1.alloc _
      have B2 : Hid (Bk W2 b 63 #[.int .i64 t.1, .int .i64 k, .string (bts t.2.1), .string (bts t.2.2.1), .slice A5 n5 cap5, .bool t.2.2.2.2]) := by rw [← hW2, ← hb]; exact Bk.new _ _ _
      have G2 : Hid (Bk W2 G 60 #[.slice A al.length cap]) := by rw [← hW2]; exact G1.out.alloc _
      have O2 : Hid (OwnK (G + 1) W2 (.slice A al.length cap) al) := by rw [← hW2]; exact hown1.out.below ((Below.refl _ _).alloc (Nat.le_refl _) _)
      have U2 : Hid (RowA W2 (.slice A5 n5 cap5) t.2.2.2.1) := by rw [← hW2]; exact h5.keep (KeepA.below ((Below.refl _ _).alloc (Nat.le_refl _) _))
      have N2 : Hid (Tn T G w W2) := by rw [← hW2]; exact (htn.out.then N1.out (by have := ZG.out; omega)).alloc (by have := ZG.out; have := z1.out; omega) _
      have O2d : Hid (OwnK (G + 1) W2.drew (.slice A al.length cap) al) := O2.out.below ((Below.refl _ _).drew)
      have U2d : Hid (RowA W2.drew (.slice A5 n5 cap5) t.2.2.2.1) := U2.out.keep (KeepA.below ((Below.refl _ _).drew))
      have hal : al.length ≤ 1000000000 := by have := hlen.out; omega
      have hfar := Lib.hid (O2.out.far G2.out (by decide))
      have ZW : Hid (G + 1 ≤ W2.heap.size) := G2.out.lt
      have ZWd : G + 1 ≤ W2.drew.heap.size := ZW.out
      have e0 : W2.cell? ⟨b, 0, none⟩ = some (.int .i64 t.1) := B2.out.cell 0
      have e1 : W2.cell? ⟨b, 1, none⟩ = some (.int .i64 k) := B2.out.cell 1
      have e2 : W2.cell? ⟨b, 2, none⟩ = some (.string (bts t.2.1)) := B2.out.cell 2
      have e3 : W2.cell? ⟨b, 3, none⟩ = some (.string (bts t.2.2.1)) := B2.out.cell 3
      have e4 : W2.cell? ⟨b, 4, none⟩ = some (.slice A5 n5 cap5) := B2.out.cell 4
      have e5 : W2.cell? ⟨b, 5, none⟩ = some (.bool t.2.2.2.2) := B2.out.cell 5
      have e0a : (W2.alloc (.cells #[.int .i64 t.1, .int .i64 k, .string (bts t.2.1), .string (bts t.2.2.1), .slice A5 n5 cap5, .bool t.2.2.2.2] 63)).cell? ⟨b, 0, none⟩ = some (.int .i64 t.1) := (B2.out.alloc _).cell 0
      have e1a : (W2.alloc (.cells #[.int .i64 t.1, .int .i64 k, .string (bts t.2.1), .string (bts t.2.2.1), .slice A5 n5 cap5, .bool t.2.2.2.2] 63)).cell? ⟨b, 1, none⟩ = some (.int .i64 k) := (B2.out.alloc _).cell 1
      have e2a : (W2.alloc (.cells #[.int .i64 t.1, .int .i64 k, .string (bts t.2.1), .string (bts t.2.2.1), .slice A5 n5 cap5, .bool t.2.2.2.2] 63)).cell? ⟨b, 2, none⟩ = some (.string (bts t.2.1)) := (B2.out.alloc _).cell 2
      have e3a : (W2.alloc (.cells #[.int .i64 t.1, .int .i64 k, .string (bts t.2.1), .string (bts t.2.2.1), .slice A5 n5 cap5, .bool t.2.2.2.2] 63)).cell? ⟨b, 3, none⟩ = some (.string (bts t.2.2.1)) := (B2.out.alloc _).cell 3
      have e4a : (W2.alloc (.cells #[.int .i64 t.1, .int .i64 k, .string (bts t.2.1), .string (bts t.2.2.1), .slice A5 n5 cap5, .bool t.2.2.2.2] 63)).cell? ⟨b, 4, none⟩ = some (.slice A5 n5 cap5) := (B2.out.alloc _).cell 4
      have e5a : (W2.alloc (.cells #[.int .i64 t.1, .int .i64 k, .string (bts t.2.1), .string (bts t.2.2.1), .slice A5 n5 cap5, .bool t.2.2.2.2] 63)).cell? ⟨b, 5, none⟩ = some (.bool t.2.2.2.2) := (B2.out.alloc _).cell 5
      have g0 : W2.cell? ⟨G, 0, none⟩ = some (.slice A al.length cap) := G2.out.cell 0
      have fg : W2.frozen? ⟨G, 0, none⟩ = false := G2.out.free 0
      have g0a : (W2.alloc (.cells #[.int .i64 t.1, .int .i64 k, .string (bts t.2.1), .string (bts t.2.2.1), .slice A5 n5 cap5, .bool t.2.2.2.2] 63)).cell? ⟨G, 0, none⟩ = some (.slice A al.length cap) := (G2.out.alloc _).cell 0
      clear t1 ha h5
      rw [← hzk] at c1
      clear hzk
      go_wp2_with fail
      clear hW2 hb
      go_region_law (refine step_tok rfl _ _ rfl (G + 1) (.slice A al.length cap) al (k, t) (.slice A5 n5 cap5) W2.drew rfl O2d.out U2d.out rfl hal ZWd ?_; intro v3 w3 o3 b3 k3; have G3 : Hid (Bk w3 G 60 #[.slice A al.length cap]) := (k3 G ZW.out hfar.out).trans G2.out; have g3 : w3.cell? ⟨G, 0, none⟩ = some (.slice A al.length cap) := G3.out.cell 0; have h3 : w3.frozen? ⟨G, 0, none⟩ = false := G3.out.free 0; obtain ⟨A3, cap3, rfl⟩ := o3.len; rw [List.length_append, List.length_singleton]; have O3 := Lib.hid o3; have B3 := Lib.hid b3; clear o3 b3 k3)
      all_goals
        go_wp2_with fail
        have O3' : OwnK (G + 1) w3 (.slice A3 (al.length + 1) cap3) (al ++ [(k, t)]) := by
          have := O3.out
          rwa [List.length_append, List.length_singleton] at this
        have B3' : Below (G + 1) W2 w3 := ⟨B3.out.os, B3.out.tape, B3.out.output, B3.out.size, B3.out.block⟩
        have X3 : TX 58 w3 T s r1 := T2.out.below B3' (by omega)
        have X4 : TX 58 (w3.setCell ⟨G, 0, none⟩ (.slice A3 (al.length + 1) cap3)) T s r1 := X3.far (p := ⟨G, 0, none⟩) (by show T ≠ G; omega) _
        have N3 : Tn T G w w3 := N2.out.trans (.of (B3'.mono (Nat.le_succ G)))
        refine ⟨⟨al ++ [(k, t)], r1, _, HMS.out, G3.out.one _, O3'.stored G3.out (by decide) (by decide) 0 _, X4, N3.setHigh (p := ⟨G, 0, none⟩) (Nat.le_refl _) _, ?_⟩, ?_⟩
        · have := hlen.out
          have := HRL.out
          unfold Hid
          rw [List.length_append, List.length_singleton]
          omega
        · obtain ⟨j, _, _, hj, hj2⟩ := X4.at
          rw [place_of hj, hpl.out]
          have := HRL.out
          have := HKL.out
          have := X4.len
          have := htx.out.len
          omega
end Go.Proofs.YtbkfmbkamocllaaGreatDoor
/-
  package token: Tokens.
-/
namespace Go.Proofs.YtbkfmbkamocllaaGreatDoor
open Go.RowKit Tk

set_option maxHeartbeats 1000000 in
theorem great_any (t : TokA) (A : Option Addr) (n cap : Nat) (w : World) (hn : n = t.2.2.2.2.1.length) (hn2 : n ≤ 1000000000) :
    Calls Tryz.prog 29 #[agK (t, .slice A n cap)] w fun e w' => e = .returned (.bool (great t)) ∧ Below w.heap.size w w' := by
  have hg : Hid (great t = decide ((n : Int) > 10)) := by
    unfold Hid great
    rw [← hn]
    by_cases h : 10 < n
    · rw [decide_eq_true h, decide_eq_true (by omega)]
    · rw [decide_eq_false h, decide_eq_false (by omega)]
  rw [hg.out]
  unfold agK
  simp only
  obtain ⟨a0, h0⟩ : ∃ a : Int, (t.2.1 : Int) = a := ⟨_, rfl⟩
  obtain ⟨a1, h1⟩ : ∃ a : Int, (t.1 : Int) = a := ⟨_, rfl⟩
  obtain ⟨a2, h2⟩ : ∃ a, bts t.2.2.1 = a := ⟨_, rfl⟩
  obtain ⟨a3, h3⟩ : ∃ a, bts t.2.2.2.1 = a := ⟨_, rfl⟩
  obtain ⟨a5, h5⟩ : ∃ a, t.2.2.2.2.2 = a := ⟨_, rfl⟩
  rw [h0, h1, h2, h3, h5]
  clear h0 h1 h2 h3 h5 hn
  go_enter Tryz.func29, Tryz.ntmps29
  go_wp2
  go_ret
  exact ⟨rfl, (Below.refl _ _).alloc (Nat.le_refl _) _⟩
theorem find_hit {x : List TokA} {k : Nat} {t : TokA} (h : x[k]? = some t) (hp : great t = true) (hno : ∀ j a, j < k → x[j]? = some a → great a = false) : x.find? great = some t := by
  rw [List.find?_eq_some_iff_getElem]
  obtain ⟨h1, h2⟩ := List.getElem?_eq_some_iff.1 h
  exact ⟨hp, k, h1, h2, fun j hj => by rw [hno j _ hj (List.getElem?_eq_getElem (by omega))]; rfl⟩
theorem find_miss {x : List TokA} (hno : ∀ j a, j < x.length → x[j]? = some a → great a = false) : x.find? great = none := by
  rw [List.find?_eq_none]
  intro a ha
  obtain ⟨j, hj, rfl⟩ := List.getElem_of_mem ha
  rw [hno j _ hj (List.getElem?_eq_getElem hj)]
  simp
set_option maxHeartbeats 2000000 in
theorem indexT_any (v : Value) (x : List TokA) (w : World) (hv : ReadK w v x) (hl : x.length ≤ 1000000000) (hal : ∀ t ∈ x, t.2.2.2.2.1.length ≤ 1000000000) :
    Calls Tryz.prog 28 #[v, .func (.func 29) #[] #[]] w fun e w' =>
      ((∃ (i : Nat) (t : TokA), e = .returned (.int .i64 i) ∧ x[i]? = some t ∧ x.find? great = some t) ∨ (e = .returned (.int .i64 (-1)) ∧ x.find? great = none)) ∧ Below w.heap.size w w' := by
  have eg : ∀ args w, (callFunc 29 args).run Tryz.prog w = .ok (.enter 29 args) w := Go.Proofs.enters_of Tryz.func29 (by kernel_rfl) rfl
  obtain ⟨A, cap, rfl, _, _, hx⟩ := hv
  have HX := Lib.hid hx
  have HAL := Lib.hid hal
  clear hx hal
  go_enter Tryz.func28, Tryz.ntmps28
  go_wp2_with fail
  go_loopw [8] (fun i wr => ∃ (k : Nat), k ≤ x.length ∧ i = .int .i64 k ∧ Hid (∀ j a, j < k → x[j]? = some a → great a = false) ∧ Below w.heap.size w wr) (fun i _ => x.length - (intOf i).toNat)
  case atStart => exact ⟨0, Nat.zero_le _, rfl, Lib.hid (fun j a h => absurd h (Nat.not_lt_zero _)), Below.refl _ _⟩
  case round =>
    obtain ⟨k, hk, rfl, hno, hb⟩ := hrel
    have hsw := hb.size
    by_cases hlt : k < x.length
    · obtain ⟨g, o, rfl, hlb, hc⟩ := HX.out (by omega)
      obtain ⟨c, hcx⟩ : ∃ c, x[k]? = some c := ⟨_, List.getElem?_eq_getElem hlt⟩
      obtain ⟨u, ⟨c0, c1, c2, c3, c4, c5⟩, hu⟩ := hc k c hcx
      obtain ⟨A5, cap5, rfl, _⟩ := hu
      rw [← hb.cell (p := ⟨g, o + k * 6, none⟩) hlb] at c0
      rw [← hb.cell (p := ⟨g, o + k * 6 + 1, none⟩) hlb] at c1
      rw [← hb.cell (p := ⟨g, o + k * 6 + 2, none⟩) hlb] at c2
      rw [← hb.cell (p := ⟨g, o + k * 6 + 3, none⟩) hlb] at c3
      rw [← hb.cell (p := ⟨g, o + k * 6 + 4, none⟩) hlb] at c4
      rw [← hb.cell (p := ⟨g, o + k * 6 + 5, none⟩) hlb] at c5
      have HC := Lib.hid hcx
      obtain ⟨nA, hnA⟩ : ∃ nA, c.2.2.2.2.1.length = nA := ⟨_, rfl⟩
      have hnB : nA ≤ 1000000000 := by rw [← hnA]; exact HAL.out c (List.mem_of_getElem? hcx)
      have HQ := Lib.hid (great_any c A5 nA cap5 wr hnA.symm hnB)
      unfold agK at HQ
      rw [hnA] at c4
      obtain ⟨a0, h0⟩ : ∃ a : Int, (c.2.1 : Int) = a := ⟨_, rfl⟩
      obtain ⟨a1, h1⟩ : ∃ a : Int, (c.1 : Int) = a := ⟨_, rfl⟩
      obtain ⟨a2, h2⟩ : ∃ a, bts c.2.2.1 = a := ⟨_, rfl⟩
      obtain ⟨a3, h3⟩ : ∃ a, bts c.2.2.2.1 = a := ⟨_, rfl⟩
      obtain ⟨a5, h5⟩ : ∃ a, c.2.2.2.2.2 = a := ⟨_, rfl⟩
      simp only at HQ
      rw [h0, h1, h2, h3, h5] at HQ
      rw [h0] at c0
      rw [h1] at c1
      rw [h2] at c2
      rw [h3] at c3
      rw [h5] at c5
      clear hc hcx h0 h1 h2 h3 h5 hnA
      go_wp2_with fail
      refine HQ.out.mono ?_
      rintro e w2 ⟨rfl, b2⟩
      have hb2 : Below w.heap.size w w2 := hb.trans (b2.mono hsw)
      cases hq : great c with
      | true =>
        have hf := Lib.hid (find_hit HC.out hq hno.out)
        clear hq b2
        go_wp2_with fail
        go_ret
        exact ⟨.inl ⟨k, c, rfl, HC.out, hf.out⟩, hb2⟩
      | false =>
        have hno2 : Hid (∀ j a, j < k + 1 → x[j]? = some a → great a = false) := Lib.hid (fun j a hj ha => by
          rcases Nat.lt_or_ge j k with h | h
          · exact hno.out j a h ha
          · obtain rfl : j = k := by omega
            rw [HC.out] at ha
            cases ha
            exact hq)
        clear hq b2
        go_wp2_with fail
        go_roundw
        case rel => exact ⟨k + 1, by omega, by go_num, hno2, hb2⟩
        case measure => simp [intOf]; omega
    · have hke : Hid (x.length ≤ k) := by unfold Hid; omega
      have hf := Lib.hid (find_miss (x := x) (fun j a hj ha => hno.out j a (by have := hke.out; omega) ha))
      go_wp2_with fail
      go_ret
      exact ⟨.inr ⟨rfl, hf.out⟩, hb⟩
end Go.Proofs.YtbkfmbkamocllaaGreatDoor
