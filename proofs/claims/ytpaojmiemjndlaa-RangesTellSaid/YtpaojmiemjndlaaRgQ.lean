/-
  cardexref01.Join.
-/
import Derived.Test.YtpaojmiemjndlaaRgF
import Derived.Test.YtpaojmiemjndlaaRgJ
namespace Go.Proofs.Ytpaojmiemjndlaa
open Go.RowKit Rg

def lenV : Value → Nat
  | .slice _ n _ => n
  | _ => 0

theorem boxed {wr w3 : World} {t : TypeId} {a b : Value} {nq : Nat} (b3 : Below wr.heap.size wr w3) (hk3 : Bk w3 wr.heap.size t #[a, b]) (u v : Value) :
    Below wr.heap.size wr (((w3.drewN nq).setCell ⟨wr.heap.size, 0, none⟩ u).setCell ⟨wr.heap.size, 1, none⟩ v) ∧ Bk (((w3.drewN nq).setCell ⟨wr.heap.size, 0, none⟩ u).setCell ⟨wr.heap.size, 1, none⟩ v) wr.heap.size t #[u, v] := by
  have hk : Bk (w3.drewN nq) wr.heap.size t #[a, b] := hk3
  refine ⟨⟨b3.os, b3.tape, b3.output, ?_, fun k hk => ?_⟩, hk.two u v⟩
  · have := b3.size
    simpa [World.setCell] using this
  · rw [Below.heap_setCell _ _ _ _ (by show k ≠ wr.heap.size; omega), Below.heap_setCell _ _ _ _ (by show k ≠ wr.heap.size; omega)]
    exact b3.block k hk

set_option maxHeartbeats 40000000 in
set_option maxRecDepth 100000 in
theorem refJoin_any (va vb : Value) (a b : List R) (w : World) (ha : ReadR w.heap.size w va a) (hb : ReadR w.heap.size w vb b) (fa : Fits a) (fb : Fits b) (hl : a.length ≤ 10000000000) (hm : b.length ≤ 10000000000) :
    Calls Try.prog 15 #[va, vb] w fun e w' => ∃ v, e = .returned v ∧ OwnR w.heap.size w' v (joinL a b) ∧ Below w.heap.size w w' := by
  have HRA := Lib.hid (refRight_any va a w ha (by omega))
  have HRB := Lib.hid (fun W (h : Below w.heap.size w W) => refRight_any vb b W ((hb.below h).more h.size) (by omega))
  have HA := Lib.hid ha
  have HB := Lib.hid hb
  obtain ⟨Aa, ca, rfl, _, _⟩ := ha
  obtain ⟨Ab, cb, rfl, _, _⟩ := hb
  cases hra : rightB a with
  | false =>
    rw [hra] at HRA
    rw [joinL_wrong (by rw [hra]; simp)]
    go_enter Try.func15, Try.ntmps15
    go_wp2_with (go_at_call 10; refine HRA.out.mono ?_; rintro e w1 ⟨rfl, b1⟩)
    go_ret
    exact ⟨_, rfl, OwnR.nil _ _, b1⟩
  | true =>
    cases hrb : rightB b with
    | false =>
      rw [hra] at HRA
      rw [hrb] at HRB
      rw [joinL_wrong (by rw [hrb]; simp)]
      go_enter Try.func15, Try.ntmps15
      go_wp2_with fail
      refine HRA.out.mono ?_
      rintro e w1 ⟨rfl, b1⟩
      go_wp2_with fail
      refine (HRB.out w1 b1).mono ?_
      rintro e w2 ⟨rfl, b2⟩
      have b3 := b1.trans (b2.mono b1.size)
      clear b2
      go_wp2_with fail
      go_ret
      exact ⟨_, rfl, OwnR.nil _ _, b3⟩
    | true =>
      have HM := Lib.hid (Mrg.start hra hrb fa fb)
      have HD := Lib.hid (fun out (h : Mrg a b [] [] out) => h.done hra hrb)
      rw [hra] at HRA
      rw [hrb] at HRB
      clear hra hrb fa fb
      go_enter Try.func15, Try.ntmps15
      go_wp2_with fail
      refine HRA.out.mono ?_
      rintro e w1 ⟨rfl, b1⟩
      go_wp2_with fail
      refine (HRB.out w1 b1).mono ?_
      rintro e w2 ⟨rfl, b2⟩
      have b3 := b1.trans (b2.mono b1.size)
      clear b2 b1 HRA HRB
      go_wp2_with fail
      go_loopw [0, 1, 5] (fun sa sb so wr => ∃ (a' b' out : List R) (x y z : Value), sa = x ∧ sb = y ∧ so = z ∧ Below w.heap.size w wr ∧ Hid (ReadR w.heap.size wr x a') ∧ Hid (ReadR w.heap.size wr y b') ∧ Hid (OwnR w.heap.size wr z out) ∧ Hid (Mrg a b a' b' out)) (fun sa sb _ _ => lenV sa + lenV sb)
      case atStart => exact ⟨a, b, [], _, _, _, rfl, rfl, rfl, b3, HA.out.below b3, HB.out.below b3, OwnR.nil _ _, HM.out⟩
      case round =>
        obtain ⟨a', b', out, x, y, z, hx, hy, hz, bw, hra, hrb, ho, hm'⟩ := hrel
        have hx2 := hx.symm
        have hy2 := hy.symm
        have hz2 := hz.symm
        clear hx hy hz
        subst hx2
        subst hy2
        subst hz2
        have hsw := bw.size
        -- the round, by mkrefjoin.py
        obtain ⟨A, cap, rfl, _, _⟩ := hra.out
        obtain ⟨A', cap', rfl, _, _⟩ := hrb.out
        by_cases hend : a' = [] ∧ b' = []
        · obtain ⟨rfl, rfl⟩ := hend
          have hd := HD.out out hm'.out
          have ho2 : Hid (OwnR w.heap.size wr z (joinL a b)) := by rw [← hd]; exact ho
          clear hd
          go_wp2_with fail
          go_ret
          exact ⟨_, rfl, ho2.out, bw⟩
        rcases List.eq_nil_or_concat out with rfl | ⟨ys, p0, hout⟩
        · obtain ⟨O, co, rfl⟩ := ho.out.slice
          rcases a' with _ | ⟨⟨p1, p2⟩, t⟩
          · rcases b' with _ | ⟨⟨u, v⟩, s⟩
            · exact absurd ⟨rfl, rfl⟩ hend
            · clear hend
              obtain ⟨hn, hnc, hcm, ad, ea, hlb, c0, c1⟩ := hrb.out.first
              subst ea
              have hsz : ((s.length : Int) + 1 == 0) = false := by simp; omega
              rw [hn] at hnc
              have hcm2 : cap' ≤ 9223372036854775807 := by unfold maxLen at hcm; omega
              clear hn hcm
              have HO : Hid (∀ W, Below w.heap.size wr W → ReadR w.heap.size W (.slice A ([] : List R).length cap) []) := fun W h => hra.out.below h
              have HM2 := Lib.hid (hm'.out.right1)
              have hfu : Fit u := (hm'.out.fb (u, v) (by simp)).1
              by_cases hcap : cap' = 1
              · subst hcap
                obtain rfl : s = [] := List.eq_nil_of_length_eq_zero (by omega)
                have HT : Hid (∀ W, Below w.heap.size wr W → ReadR w.heap.size W (.slice (some ad) 0 0) []) := fun W h => (hrb.out.below h).tail1
                clear hfu hm' hrb hra
                go_wp2_with fail
                obtain ⟨w3, hw3⟩ : ∃ w3, wr.alloc (.cells #[.int .i64 0, .int .i64 0] 26) = w3 := ⟨_, rfl⟩
                have hk3 : Bk w3 wr.heap.size 26 #[.int .i64 0, .int .i64 0] := by rw [← hw3]; exact Bk.new wr _ _
                have b3 : Below wr.heap.size wr w3 := by rw [← hw3]; exact (Below.refl _ wr).alloc (Nat.le_refl _) _
                rw [← b3.cell (p := ad) (by omega)] at c0
                rw [← b3.cell (p := ⟨ad.block, ad.off + 1, none⟩) (by show ad.block < _; omega)] at c1
                have e0 := hk3.cell 0
                have e1 := hk3.cell 1
                have f0 := hk3.free 0
                have f1 := hk3.free 1
                simp at e0 e1
                rw [hw3]
                clear hw3
                go_big_quiet (fail)
                go_wp2_with fail
                go_region
                obtain ⟨b4', hk4'⟩ := boxed (nq := nq + 1) b3 hk3 (.int .i64 u) (.int .i64 v)
                obtain ⟨w4, hw4⟩ : ∃ w4, ((w3.drewN (nq + 1)).setCell ⟨wr.heap.size, 0, none⟩ (.int .i64 u)).setCell ⟨wr.heap.size, 1, none⟩ (.int .i64 v) = w4 := ⟨_, rfl⟩
                rw [hw4] at b4' hk4'
                have b4 := Lib.hid b4'
                have g0 := hk4'.cell 0
                have g1 := hk4'.cell 1
                simp at g0 g1
                go_wp2_with fail
                try rw [hw4]
                clear b4' hk4' hw4 e0 e1 f0 f1 b3 hk3 c0 c1
                go_big_quiet (fail)
                obtain ⟨w5, hw5⟩ : ∃ w5, w4.drewN nq = w5 := ⟨_, rfl⟩
                have b5 : Hid (Below wr.heap.size wr w5) := by rw [← hw5]; exact drewN_below b4.out _
                have g2 : w5.cell? ⟨wr.heap.size, 0, none⟩ = some (.int .i64 u) := by rw [← hw5]; exact g0
                have g3 : w5.cell? ⟨wr.heap.size, 1, none⟩ = some (.int .i64 v) := by rw [← hw5]; exact g1
                rw [hw5]
                clear hw5 g0 g1 b4
                have ho5 : Hid (OwnR w.heap.size w5 (.slice O ([] : List R).length co) []) := ho.out.below b5.out
                go_wp2_with (at_builtin; refine push_rng rfl _ _ rfl w.heap.size (.slice O ([] : List R).length co) [] u v w5 rfl ho5.out rfl (by simp; try omega) (Nat.le_trans hsw b5.out.size) ?_)
                intro v2 w2 o2 b2
                have o2' : Hid (OwnR w.heap.size w2 v2 (Rg.step [] (u, v))) := by rw [step_nil]; exact o2
                have b7 : Hid (Below w.heap.size wr w2) := (b5.out.mono hsw).trans b2
                have b6 := bw.trans b7.out
                clear o2 b2
                go_wp2_with fail
                go_roundw
                case rel => exact ⟨[], [], _, _, _, _, rfl, rfl, rfl, b6, HO.out _ b7.out, HT.out _ b7.out, o2', HM2⟩
                case measure => simp [lenV]; try omega
              · have HT : Hid (∀ W, Below w.heap.size wr W → ReadR w.heap.size W (.slice (some ⟨ad.block, ad.off + 2, none⟩) s.length (cap' - 1)) s) := fun W h => (hrb.out.below h).tail2
                clear hfu hm' hrb hra
                go_wp2_with fail
                obtain ⟨w3, hw3⟩ : ∃ w3, wr.alloc (.cells #[.int .i64 0, .int .i64 0] 26) = w3 := ⟨_, rfl⟩
                have hk3 : Bk w3 wr.heap.size 26 #[.int .i64 0, .int .i64 0] := by rw [← hw3]; exact Bk.new wr _ _
                have b3 : Below wr.heap.size wr w3 := by rw [← hw3]; exact (Below.refl _ wr).alloc (Nat.le_refl _) _
                rw [← b3.cell (p := ad) (by omega)] at c0
                rw [← b3.cell (p := ⟨ad.block, ad.off + 1, none⟩) (by show ad.block < _; omega)] at c1
                have e0 := hk3.cell 0
                have e1 := hk3.cell 1
                have f0 := hk3.free 0
                have f1 := hk3.free 1
                simp at e0 e1
                rw [hw3]
                clear hw3
                go_big_quiet (fail)
                go_wp2_with fail
                go_region
                obtain ⟨b4', hk4'⟩ := boxed (nq := nq + 1) b3 hk3 (.int .i64 u) (.int .i64 v)
                obtain ⟨w4, hw4⟩ : ∃ w4, ((w3.drewN (nq + 1)).setCell ⟨wr.heap.size, 0, none⟩ (.int .i64 u)).setCell ⟨wr.heap.size, 1, none⟩ (.int .i64 v) = w4 := ⟨_, rfl⟩
                rw [hw4] at b4' hk4'
                have b4 := Lib.hid b4'
                have g0 := hk4'.cell 0
                have g1 := hk4'.cell 1
                simp at g0 g1
                go_wp2_with fail
                try rw [hw4]
                clear b4' hk4' hw4 e0 e1 f0 f1 b3 hk3 c0 c1
                go_big_quiet (fail)
                obtain ⟨w5, hw5⟩ : ∃ w5, w4.drewN nq = w5 := ⟨_, rfl⟩
                have b5 : Hid (Below wr.heap.size wr w5) := by rw [← hw5]; exact drewN_below b4.out _
                have g2 : w5.cell? ⟨wr.heap.size, 0, none⟩ = some (.int .i64 u) := by rw [← hw5]; exact g0
                have g3 : w5.cell? ⟨wr.heap.size, 1, none⟩ = some (.int .i64 v) := by rw [← hw5]; exact g1
                rw [hw5]
                clear hw5 g0 g1 b4
                have ho5 : Hid (OwnR w.heap.size w5 (.slice O ([] : List R).length co) []) := ho.out.below b5.out
                go_wp2_with (at_builtin; refine push_rng rfl _ _ rfl w.heap.size (.slice O ([] : List R).length co) [] u v w5 rfl ho5.out rfl (by simp; try omega) (Nat.le_trans hsw b5.out.size) ?_)
                intro v2 w2 o2 b2
                have o2' : Hid (OwnR w.heap.size w2 v2 (Rg.step [] (u, v))) := by rw [step_nil]; exact o2
                have b7 : Hid (Below w.heap.size wr w2) := (b5.out.mono hsw).trans b2
                have b6 := bw.trans b7.out
                clear o2 b2
                go_wp2_with fail
                go_roundw
                case rel => exact ⟨[], s, _, _, _, _, rfl, rfl, rfl, b6, HO.out _ b7.out, HT.out _ b7.out, o2', HM2⟩
                case measure => simp [lenV]; try omega
          · rcases b' with _ | ⟨⟨q1, q2⟩, s⟩
            · clear hend
              revert hra hm'
              generalize p1 = u
              generalize p2 = v
              intro hra hm'
              obtain ⟨hn, hnc, hcm, ad, ea, hlb, c0, c1⟩ := hra.out.first
              subst ea
              rw [hn] at hnc
              have hcm2 : cap ≤ 9223372036854775807 := by unfold maxLen at hcm; omega
              clear hn hcm
              have HO : Hid (∀ W, Below w.heap.size wr W → ReadR w.heap.size W (.slice A' ([] : List R).length cap') []) := fun W h => hrb.out.below h
              have HM2 := Lib.hid (hm'.out.left1)
              have hfu : Fit u := (hm'.out.fa (u, v) (by simp)).1
              by_cases hcap : cap = 1
              · subst hcap
                obtain rfl : t = [] := List.eq_nil_of_length_eq_zero (by omega)
                have HT : Hid (∀ W, Below w.heap.size wr W → ReadR w.heap.size W (.slice (some ad) 0 0) []) := fun W h => (hra.out.below h).tail1
                clear hfu hm' hrb hra
                go_wp2_with fail
                obtain ⟨w3, hw3⟩ : ∃ w3, wr.alloc (.cells #[.int .i64 0, .int .i64 0] 26) = w3 := ⟨_, rfl⟩
                have hk3 : Bk w3 wr.heap.size 26 #[.int .i64 0, .int .i64 0] := by rw [← hw3]; exact Bk.new wr _ _
                have b3 : Below wr.heap.size wr w3 := by rw [← hw3]; exact (Below.refl _ wr).alloc (Nat.le_refl _) _
                rw [← b3.cell (p := ad) (by omega)] at c0
                rw [← b3.cell (p := ⟨ad.block, ad.off + 1, none⟩) (by show ad.block < _; omega)] at c1
                have e0 := hk3.cell 0
                have e1 := hk3.cell 1
                have f0 := hk3.free 0
                have f1 := hk3.free 1
                simp at e0 e1
                rw [hw3]
                clear hw3
                go_big_quiet (fail)
                go_wp2_with fail
                go_region
                obtain ⟨b4', hk4'⟩ := boxed (nq := nq + 1) b3 hk3 (.int .i64 u) (.int .i64 v)
                obtain ⟨w4, hw4⟩ : ∃ w4, ((w3.drewN (nq + 1)).setCell ⟨wr.heap.size, 0, none⟩ (.int .i64 u)).setCell ⟨wr.heap.size, 1, none⟩ (.int .i64 v) = w4 := ⟨_, rfl⟩
                rw [hw4] at b4' hk4'
                have b4 := Lib.hid b4'
                have g0 := hk4'.cell 0
                have g1 := hk4'.cell 1
                simp at g0 g1
                go_wp2_with fail
                try rw [hw4]
                clear b4' hk4' hw4 e0 e1 f0 f1 b3 hk3 c0 c1
                go_big_quiet (fail)
                obtain ⟨w5, hw5⟩ : ∃ w5, w4.drewN nq = w5 := ⟨_, rfl⟩
                have b5 : Hid (Below wr.heap.size wr w5) := by rw [← hw5]; exact drewN_below b4.out _
                have g2 : w5.cell? ⟨wr.heap.size, 0, none⟩ = some (.int .i64 u) := by rw [← hw5]; exact g0
                have g3 : w5.cell? ⟨wr.heap.size, 1, none⟩ = some (.int .i64 v) := by rw [← hw5]; exact g1
                rw [hw5]
                clear hw5 g0 g1 b4
                have ho5 : Hid (OwnR w.heap.size w5 (.slice O ([] : List R).length co) []) := ho.out.below b5.out
                go_wp2_with (at_builtin; refine push_rng rfl _ _ rfl w.heap.size (.slice O ([] : List R).length co) [] u v w5 rfl ho5.out rfl (by simp; try omega) (Nat.le_trans hsw b5.out.size) ?_)
                intro v2 w2 o2 b2
                have o2' : Hid (OwnR w.heap.size w2 v2 (Rg.step [] (u, v))) := by rw [step_nil]; exact o2
                have b7 : Hid (Below w.heap.size wr w2) := (b5.out.mono hsw).trans b2
                have b6 := bw.trans b7.out
                clear o2 b2
                go_wp2_with fail
                go_roundw
                case rel => exact ⟨[], [], _, _, _, _, rfl, rfl, rfl, b6, HT.out _ b7.out, HO.out _ b7.out, o2', HM2⟩
                case measure => simp [lenV]; try omega
              · have HT : Hid (∀ W, Below w.heap.size wr W → ReadR w.heap.size W (.slice (some ⟨ad.block, ad.off + 2, none⟩) t.length (cap - 1)) t) := fun W h => (hra.out.below h).tail2
                clear hfu hm' hrb hra
                go_wp2_with fail
                obtain ⟨w3, hw3⟩ : ∃ w3, wr.alloc (.cells #[.int .i64 0, .int .i64 0] 26) = w3 := ⟨_, rfl⟩
                have hk3 : Bk w3 wr.heap.size 26 #[.int .i64 0, .int .i64 0] := by rw [← hw3]; exact Bk.new wr _ _
                have b3 : Below wr.heap.size wr w3 := by rw [← hw3]; exact (Below.refl _ wr).alloc (Nat.le_refl _) _
                rw [← b3.cell (p := ad) (by omega)] at c0
                rw [← b3.cell (p := ⟨ad.block, ad.off + 1, none⟩) (by show ad.block < _; omega)] at c1
                have e0 := hk3.cell 0
                have e1 := hk3.cell 1
                have f0 := hk3.free 0
                have f1 := hk3.free 1
                simp at e0 e1
                rw [hw3]
                clear hw3
                go_big_quiet (fail)
                go_wp2_with fail
                go_region
                obtain ⟨b4', hk4'⟩ := boxed (nq := nq + 1) b3 hk3 (.int .i64 u) (.int .i64 v)
                obtain ⟨w4, hw4⟩ : ∃ w4, ((w3.drewN (nq + 1)).setCell ⟨wr.heap.size, 0, none⟩ (.int .i64 u)).setCell ⟨wr.heap.size, 1, none⟩ (.int .i64 v) = w4 := ⟨_, rfl⟩
                rw [hw4] at b4' hk4'
                have b4 := Lib.hid b4'
                have g0 := hk4'.cell 0
                have g1 := hk4'.cell 1
                simp at g0 g1
                go_wp2_with fail
                try rw [hw4]
                clear b4' hk4' hw4 e0 e1 f0 f1 b3 hk3 c0 c1
                go_big_quiet (fail)
                obtain ⟨w5, hw5⟩ : ∃ w5, w4.drewN nq = w5 := ⟨_, rfl⟩
                have b5 : Hid (Below wr.heap.size wr w5) := by rw [← hw5]; exact drewN_below b4.out _
                have g2 : w5.cell? ⟨wr.heap.size, 0, none⟩ = some (.int .i64 u) := by rw [← hw5]; exact g0
                have g3 : w5.cell? ⟨wr.heap.size, 1, none⟩ = some (.int .i64 v) := by rw [← hw5]; exact g1
                rw [hw5]
                clear hw5 g0 g1 b4
                have ho5 : Hid (OwnR w.heap.size w5 (.slice O ([] : List R).length co) []) := ho.out.below b5.out
                go_wp2_with (at_builtin; refine push_rng rfl _ _ rfl w.heap.size (.slice O ([] : List R).length co) [] u v w5 rfl ho5.out rfl (by simp; try omega) (Nat.le_trans hsw b5.out.size) ?_)
                intro v2 w2 o2 b2
                have o2' : Hid (OwnR w.heap.size w2 v2 (Rg.step [] (u, v))) := by rw [step_nil]; exact o2
                have b7 : Hid (Below w.heap.size wr w2) := (b5.out.mono hsw).trans b2
                have b6 := bw.trans b7.out
                clear o2 b2
                go_wp2_with fail
                go_roundw
                case rel => exact ⟨t, [], _, _, _, _, rfl, rfl, rfl, b6, HT.out _ b7.out, HO.out _ b7.out, o2', HM2⟩
                case measure => simp [lenV]; try omega
            · clear hend
              rcases Bool.eq_false_or_eq_true (decide (p1 ≤ q1)) with hle | hle
              · revert hra hm' hle
                generalize p1 = u
                generalize p2 = v
                intro hra hm' hle
                obtain ⟨hn, hnc, hcm, ad, ea, hlb, c0, c1⟩ := hra.out.first
                subst ea
                obtain ⟨hn', hnc', hcm', bd, eb, hlb', d0, d1⟩ := hrb.out.first
                subst eb
                clear hn' hcm' hnc'
                have hsz : ((s.length : Int) + 1 == 0) = false := by simp; omega
                rw [hn] at hnc
                have hcm2 : cap ≤ 9223372036854775807 := by unfold maxLen at hcm; omega
                clear hn hcm
                have HO : Hid (∀ W, Below w.heap.size wr W → ReadR w.heap.size W (.slice (some bd) ((q1, q2) :: s).length cap') ((q1, q2) :: s)) := fun W h => hrb.out.below h
                have HM2 := Lib.hid (hm'.out.left2 (by simpa using hle))
                have hfu : Fit u := (hm'.out.fa (u, v) (by simp)).1
                by_cases hcap : cap = 1
                · subst hcap
                  obtain rfl : t = [] := List.eq_nil_of_length_eq_zero (by omega)
                  have HT : Hid (∀ W, Below w.heap.size wr W → ReadR w.heap.size W (.slice (some ad) 0 0) []) := fun W h => (hra.out.below h).tail1
                  clear hfu hm' hrb hra
                  go_wp2_with fail
                  obtain ⟨w3, hw3⟩ : ∃ w3, wr.alloc (.cells #[.int .i64 0, .int .i64 0] 26) = w3 := ⟨_, rfl⟩
                  have hk3 : Bk w3 wr.heap.size 26 #[.int .i64 0, .int .i64 0] := by rw [← hw3]; exact Bk.new wr _ _
                  have b3 : Below wr.heap.size wr w3 := by rw [← hw3]; exact (Below.refl _ wr).alloc (Nat.le_refl _) _
                  rw [← b3.cell (p := ad) (by omega)] at c0
                  rw [← b3.cell (p := ⟨ad.block, ad.off + 1, none⟩) (by show ad.block < _; omega)] at c1
                  rw [← b3.cell (p := bd) (by omega)] at d0
                  rw [← b3.cell (p := ⟨bd.block, bd.off + 1, none⟩) (by show bd.block < _; omega)] at d1
                  have e0 := hk3.cell 0
                  have e1 := hk3.cell 1
                  have f0 := hk3.free 0
                  have f1 := hk3.free 1
                  simp at e0 e1
                  rw [hw3]
                  clear hw3
                  go_big_quiet (fail)
                  go_wp2_with fail
                  go_region
                  obtain ⟨b4', hk4'⟩ := boxed (nq := nq + 1) b3 hk3 (.int .i64 u) (.int .i64 v)
                  obtain ⟨w4, hw4⟩ : ∃ w4, ((w3.drewN (nq + 1)).setCell ⟨wr.heap.size, 0, none⟩ (.int .i64 u)).setCell ⟨wr.heap.size, 1, none⟩ (.int .i64 v) = w4 := ⟨_, rfl⟩
                  rw [hw4] at b4' hk4'
                  have b4 := Lib.hid b4'
                  have g0 := hk4'.cell 0
                  have g1 := hk4'.cell 1
                  simp at g0 g1
                  go_wp2_with fail
                  try rw [hw4]
                  clear b4' hk4' hw4 e0 e1 f0 f1 b3 hk3 c0 c1 d0 d1
                  go_big_quiet (fail)
                  obtain ⟨w5, hw5⟩ : ∃ w5, w4.drewN nq = w5 := ⟨_, rfl⟩
                  have b5 : Hid (Below wr.heap.size wr w5) := by rw [← hw5]; exact drewN_below b4.out _
                  have g2 : w5.cell? ⟨wr.heap.size, 0, none⟩ = some (.int .i64 u) := by rw [← hw5]; exact g0
                  have g3 : w5.cell? ⟨wr.heap.size, 1, none⟩ = some (.int .i64 v) := by rw [← hw5]; exact g1
                  rw [hw5]
                  clear hw5 g0 g1 b4
                  have ho5 : Hid (OwnR w.heap.size w5 (.slice O ([] : List R).length co) []) := ho.out.below b5.out
                  go_wp2_with (at_builtin; refine push_rng rfl _ _ rfl w.heap.size (.slice O ([] : List R).length co) [] u v w5 rfl ho5.out rfl (by simp; try omega) (Nat.le_trans hsw b5.out.size) ?_)
                  intro v2 w2 o2 b2
                  have o2' : Hid (OwnR w.heap.size w2 v2 (Rg.step [] (u, v))) := by rw [step_nil]; exact o2
                  have b7 : Hid (Below w.heap.size wr w2) := (b5.out.mono hsw).trans b2
                  have b6 := bw.trans b7.out
                  clear o2 b2
                  go_wp2_with fail
                  go_roundw
                  case rel => exact ⟨[], ((q1, q2) :: s), _, _, _, _, rfl, rfl, rfl, b6, HT.out _ b7.out, HO.out _ b7.out, o2', HM2⟩
                  case measure => simp [lenV]; try omega
                · have HT : Hid (∀ W, Below w.heap.size wr W → ReadR w.heap.size W (.slice (some ⟨ad.block, ad.off + 2, none⟩) t.length (cap - 1)) t) := fun W h => (hra.out.below h).tail2
                  clear hfu hm' hrb hra
                  go_wp2_with fail
                  obtain ⟨w3, hw3⟩ : ∃ w3, wr.alloc (.cells #[.int .i64 0, .int .i64 0] 26) = w3 := ⟨_, rfl⟩
                  have hk3 : Bk w3 wr.heap.size 26 #[.int .i64 0, .int .i64 0] := by rw [← hw3]; exact Bk.new wr _ _
                  have b3 : Below wr.heap.size wr w3 := by rw [← hw3]; exact (Below.refl _ wr).alloc (Nat.le_refl _) _
                  rw [← b3.cell (p := ad) (by omega)] at c0
                  rw [← b3.cell (p := ⟨ad.block, ad.off + 1, none⟩) (by show ad.block < _; omega)] at c1
                  rw [← b3.cell (p := bd) (by omega)] at d0
                  rw [← b3.cell (p := ⟨bd.block, bd.off + 1, none⟩) (by show bd.block < _; omega)] at d1
                  have e0 := hk3.cell 0
                  have e1 := hk3.cell 1
                  have f0 := hk3.free 0
                  have f1 := hk3.free 1
                  simp at e0 e1
                  rw [hw3]
                  clear hw3
                  go_big_quiet (fail)
                  go_wp2_with fail
                  go_region
                  obtain ⟨b4', hk4'⟩ := boxed (nq := nq + 1) b3 hk3 (.int .i64 u) (.int .i64 v)
                  obtain ⟨w4, hw4⟩ : ∃ w4, ((w3.drewN (nq + 1)).setCell ⟨wr.heap.size, 0, none⟩ (.int .i64 u)).setCell ⟨wr.heap.size, 1, none⟩ (.int .i64 v) = w4 := ⟨_, rfl⟩
                  rw [hw4] at b4' hk4'
                  have b4 := Lib.hid b4'
                  have g0 := hk4'.cell 0
                  have g1 := hk4'.cell 1
                  simp at g0 g1
                  go_wp2_with fail
                  try rw [hw4]
                  clear b4' hk4' hw4 e0 e1 f0 f1 b3 hk3 c0 c1 d0 d1
                  go_big_quiet (fail)
                  obtain ⟨w5, hw5⟩ : ∃ w5, w4.drewN nq = w5 := ⟨_, rfl⟩
                  have b5 : Hid (Below wr.heap.size wr w5) := by rw [← hw5]; exact drewN_below b4.out _
                  have g2 : w5.cell? ⟨wr.heap.size, 0, none⟩ = some (.int .i64 u) := by rw [← hw5]; exact g0
                  have g3 : w5.cell? ⟨wr.heap.size, 1, none⟩ = some (.int .i64 v) := by rw [← hw5]; exact g1
                  rw [hw5]
                  clear hw5 g0 g1 b4
                  have ho5 : Hid (OwnR w.heap.size w5 (.slice O ([] : List R).length co) []) := ho.out.below b5.out
                  go_wp2_with (at_builtin; refine push_rng rfl _ _ rfl w.heap.size (.slice O ([] : List R).length co) [] u v w5 rfl ho5.out rfl (by simp; try omega) (Nat.le_trans hsw b5.out.size) ?_)
                  intro v2 w2 o2 b2
                  have o2' : Hid (OwnR w.heap.size w2 v2 (Rg.step [] (u, v))) := by rw [step_nil]; exact o2
                  have b7 : Hid (Below w.heap.size wr w2) := (b5.out.mono hsw).trans b2
                  have b6 := bw.trans b7.out
                  clear o2 b2
                  go_wp2_with fail
                  go_roundw
                  case rel => exact ⟨t, ((q1, q2) :: s), _, _, _, _, rfl, rfl, rfl, b6, HT.out _ b7.out, HO.out _ b7.out, o2', HM2⟩
                  case measure => simp [lenV]; try omega
              · revert hrb hm' hle
                generalize q1 = u
                generalize q2 = v
                intro hrb hm' hle
                obtain ⟨hn, hnc, hcm, ad, ea, hlb, c0, c1⟩ := hrb.out.first
                subst ea
                obtain ⟨hn', hnc', hcm', bd, eb, hlb', d0, d1⟩ := hra.out.first
                subst eb
                clear hn' hcm' hnc'
                have hsz : ((s.length : Int) + 1 == 0) = false := by simp; omega
                rw [hn] at hnc
                have hcm2 : cap' ≤ 9223372036854775807 := by unfold maxLen at hcm; omega
                clear hn hcm
                have HO : Hid (∀ W, Below w.heap.size wr W → ReadR w.heap.size W (.slice (some bd) ((p1, p2) :: t).length cap) ((p1, p2) :: t)) := fun W h => hra.out.below h
                have HM2 := Lib.hid (hm'.out.right2 (by simpa using hle))
                have hfu : Fit u := (hm'.out.fb (u, v) (by simp)).1
                by_cases hcap : cap' = 1
                · subst hcap
                  obtain rfl : s = [] := List.eq_nil_of_length_eq_zero (by omega)
                  have HT : Hid (∀ W, Below w.heap.size wr W → ReadR w.heap.size W (.slice (some ad) 0 0) []) := fun W h => (hrb.out.below h).tail1
                  clear hfu hm' hrb hra
                  go_wp2_with fail
                  obtain ⟨w3, hw3⟩ : ∃ w3, wr.alloc (.cells #[.int .i64 0, .int .i64 0] 26) = w3 := ⟨_, rfl⟩
                  have hk3 : Bk w3 wr.heap.size 26 #[.int .i64 0, .int .i64 0] := by rw [← hw3]; exact Bk.new wr _ _
                  have b3 : Below wr.heap.size wr w3 := by rw [← hw3]; exact (Below.refl _ wr).alloc (Nat.le_refl _) _
                  rw [← b3.cell (p := ad) (by omega)] at c0
                  rw [← b3.cell (p := ⟨ad.block, ad.off + 1, none⟩) (by show ad.block < _; omega)] at c1
                  rw [← b3.cell (p := bd) (by omega)] at d0
                  rw [← b3.cell (p := ⟨bd.block, bd.off + 1, none⟩) (by show bd.block < _; omega)] at d1
                  have e0 := hk3.cell 0
                  have e1 := hk3.cell 1
                  have f0 := hk3.free 0
                  have f1 := hk3.free 1
                  simp at e0 e1
                  rw [hw3]
                  clear hw3
                  go_big_quiet (fail)
                  go_wp2_with fail
                  go_region
                  obtain ⟨b4', hk4'⟩ := boxed (nq := nq + 1) b3 hk3 (.int .i64 u) (.int .i64 v)
                  obtain ⟨w4, hw4⟩ : ∃ w4, ((w3.drewN (nq + 1)).setCell ⟨wr.heap.size, 0, none⟩ (.int .i64 u)).setCell ⟨wr.heap.size, 1, none⟩ (.int .i64 v) = w4 := ⟨_, rfl⟩
                  rw [hw4] at b4' hk4'
                  have b4 := Lib.hid b4'
                  have g0 := hk4'.cell 0
                  have g1 := hk4'.cell 1
                  simp at g0 g1
                  go_wp2_with fail
                  try rw [hw4]
                  clear b4' hk4' hw4 e0 e1 f0 f1 b3 hk3 c0 c1 d0 d1
                  go_big_quiet (fail)
                  obtain ⟨w5, hw5⟩ : ∃ w5, w4.drewN nq = w5 := ⟨_, rfl⟩
                  have b5 : Hid (Below wr.heap.size wr w5) := by rw [← hw5]; exact drewN_below b4.out _
                  have g2 : w5.cell? ⟨wr.heap.size, 0, none⟩ = some (.int .i64 u) := by rw [← hw5]; exact g0
                  have g3 : w5.cell? ⟨wr.heap.size, 1, none⟩ = some (.int .i64 v) := by rw [← hw5]; exact g1
                  rw [hw5]
                  clear hw5 g0 g1 b4
                  have ho5 : Hid (OwnR w.heap.size w5 (.slice O ([] : List R).length co) []) := ho.out.below b5.out
                  go_wp2_with (at_builtin; refine push_rng rfl _ _ rfl w.heap.size (.slice O ([] : List R).length co) [] u v w5 rfl ho5.out rfl (by simp; try omega) (Nat.le_trans hsw b5.out.size) ?_)
                  intro v2 w2 o2 b2
                  have o2' : Hid (OwnR w.heap.size w2 v2 (Rg.step [] (u, v))) := by rw [step_nil]; exact o2
                  have b7 : Hid (Below w.heap.size wr w2) := (b5.out.mono hsw).trans b2
                  have b6 := bw.trans b7.out
                  clear o2 b2
                  go_wp2_with fail
                  go_roundw
                  case rel => exact ⟨((p1, p2) :: t), [], _, _, _, _, rfl, rfl, rfl, b6, HO.out _ b7.out, HT.out _ b7.out, o2', HM2⟩
                  case measure => simp [lenV]; try omega
                · have HT : Hid (∀ W, Below w.heap.size wr W → ReadR w.heap.size W (.slice (some ⟨ad.block, ad.off + 2, none⟩) s.length (cap' - 1)) s) := fun W h => (hrb.out.below h).tail2
                  clear hfu hm' hrb hra
                  go_wp2_with fail
                  obtain ⟨w3, hw3⟩ : ∃ w3, wr.alloc (.cells #[.int .i64 0, .int .i64 0] 26) = w3 := ⟨_, rfl⟩
                  have hk3 : Bk w3 wr.heap.size 26 #[.int .i64 0, .int .i64 0] := by rw [← hw3]; exact Bk.new wr _ _
                  have b3 : Below wr.heap.size wr w3 := by rw [← hw3]; exact (Below.refl _ wr).alloc (Nat.le_refl _) _
                  rw [← b3.cell (p := ad) (by omega)] at c0
                  rw [← b3.cell (p := ⟨ad.block, ad.off + 1, none⟩) (by show ad.block < _; omega)] at c1
                  rw [← b3.cell (p := bd) (by omega)] at d0
                  rw [← b3.cell (p := ⟨bd.block, bd.off + 1, none⟩) (by show bd.block < _; omega)] at d1
                  have e0 := hk3.cell 0
                  have e1 := hk3.cell 1
                  have f0 := hk3.free 0
                  have f1 := hk3.free 1
                  simp at e0 e1
                  rw [hw3]
                  clear hw3
                  go_big_quiet (fail)
                  go_wp2_with fail
                  go_region
                  obtain ⟨b4', hk4'⟩ := boxed (nq := nq + 1) b3 hk3 (.int .i64 u) (.int .i64 v)
                  obtain ⟨w4, hw4⟩ : ∃ w4, ((w3.drewN (nq + 1)).setCell ⟨wr.heap.size, 0, none⟩ (.int .i64 u)).setCell ⟨wr.heap.size, 1, none⟩ (.int .i64 v) = w4 := ⟨_, rfl⟩
                  rw [hw4] at b4' hk4'
                  have b4 := Lib.hid b4'
                  have g0 := hk4'.cell 0
                  have g1 := hk4'.cell 1
                  simp at g0 g1
                  go_wp2_with fail
                  try rw [hw4]
                  clear b4' hk4' hw4 e0 e1 f0 f1 b3 hk3 c0 c1 d0 d1
                  go_big_quiet (fail)
                  obtain ⟨w5, hw5⟩ : ∃ w5, w4.drewN nq = w5 := ⟨_, rfl⟩
                  have b5 : Hid (Below wr.heap.size wr w5) := by rw [← hw5]; exact drewN_below b4.out _
                  have g2 : w5.cell? ⟨wr.heap.size, 0, none⟩ = some (.int .i64 u) := by rw [← hw5]; exact g0
                  have g3 : w5.cell? ⟨wr.heap.size, 1, none⟩ = some (.int .i64 v) := by rw [← hw5]; exact g1
                  rw [hw5]
                  clear hw5 g0 g1 b4
                  have ho5 : Hid (OwnR w.heap.size w5 (.slice O ([] : List R).length co) []) := ho.out.below b5.out
                  go_wp2_with (at_builtin; refine push_rng rfl _ _ rfl w.heap.size (.slice O ([] : List R).length co) [] u v w5 rfl ho5.out rfl (by simp; try omega) (Nat.le_trans hsw b5.out.size) ?_)
                  intro v2 w2 o2 b2
                  have o2' : Hid (OwnR w.heap.size w2 v2 (Rg.step [] (u, v))) := by rw [step_nil]; exact o2
                  have b7 : Hid (Below w.heap.size wr w2) := (b5.out.mono hsw).trans b2
                  have b6 := bw.trans b7.out
                  clear o2 b2
                  go_wp2_with fail
                  go_roundw
                  case rel => exact ⟨((p1, p2) :: t), s, _, _, _, _, rfl, rfl, rfl, b6, HO.out _ b7.out, HT.out _ b7.out, o2', HM2⟩
                  case measure => simp [lenV]; try omega
        · rw [List.concat_eq_append] at hout
          subst hout
          obtain ⟨x, y⟩ := p0
          have HY := (hm'.out.fo (x, y) (by simp)).2
          have hlen := hm'.out.len
          obtain ⟨g, cO, cur, rfl, hBg, hgk, hc1, hc2, hc3, hc4⟩ := ho.out.full (by simp)
          have hn : (ys ++ [(x, y)]).length = ys.length + 1 := by simp
          have hcell := ho.out.reads
          obtain ⟨A1, cap1, e', _, hx⟩ := hcell
          injection e' with e1 e2 e3
          subst e1
          subst e3
          obtain ⟨ad1, e4, _, hc⟩ := hx (by rw [hn]; omega)
          injection e4 with e4
          subst e4
          have hcc := hc ys.length (x, y) (by simp)
          rw [add_at, Nat.zero_add] at hcc
          have HK1 := Lib.hid hcc.2
          have HKF := Lib.hid (hgk.free (ys.length * 2 + 1))
          have HG := Lib.hid hgk.lt
          simp only at HK1
          rw [hn] at hlen ho ⊢
          obtain ⟨n, hn1, hn2⟩ : ∃ n : Nat, ys.length + 1 = n ∧ (n : Int) - 1 = (ys.length : Int) := ⟨_, rfl, by omega⟩
          have hlt : ys.length < n := by omega
          have hn0 : 0 < n := by omega
          have hbig : ys.length ≤ 100000000000 := by omega
          rw [hn1] at ho ⊢
          clear hc1 hc2 hc3 hc4 hc hx hcc hgk hn hn1 hlen hBg
          rcases a' with _ | ⟨⟨p1, p2⟩, t⟩
          · rcases b' with _ | ⟨⟨u, v⟩, s⟩
            · exact absurd ⟨rfl, rfl⟩ hend
            · clear hend
              obtain ⟨hn, hnc, hcm, ad, ea, hlb, c0, c1⟩ := hrb.out.first
              subst ea
              have hsz : ((s.length : Int) + 1 == 0) = false := by simp; omega
              rw [hn] at hnc
              have hcm2 : cap' ≤ 9223372036854775807 := by unfold maxLen at hcm; omega
              clear hn hcm
              have HO : Hid (∀ W, Below w.heap.size wr W → ReadR w.heap.size W (.slice A ([] : List R).length cap) []) := fun W h => hra.out.below h
              have HM2 := Lib.hid (hm'.out.right1)
              have hfu : Fit u := (hm'.out.fb (u, v) (by simp)).1
              by_cases hcap : cap' = 1
              · subst hcap
                obtain rfl : s = [] := List.eq_nil_of_length_eq_zero (by omega)
                have HT : Hid (∀ W, Below w.heap.size wr W → ReadR w.heap.size W (.slice (some ad) 0 0) []) := fun W h => (hrb.out.below h).tail1
                have hwu : y + 1 < u → wrap64 (u - 1) = u - 1 := fun _ => by unfold Fit at hfu HY; unfold wrap64; omega
                have hwt : y < u → wrap64 (u - 1) = u - 1 := fun _ => by unfold Fit at hfu HY; unfold wrap64; omega
                clear hm' hrb hra
                by_cases h1 : u ≤ y
                · have hap := Lib.hid (show ¬ (y + 1 < u) by omega)
                  have hb1 : decide (u ≤ y) = true := decide_eq_true h1
                  clear hwu hwt h1 HY hfu
                  go_wp2_with fail
                  obtain ⟨w3, hw3⟩ : ∃ w3, wr.alloc (.cells #[.int .i64 0, .int .i64 0] 26) = w3 := ⟨_, rfl⟩
                  have hk3 : Bk w3 wr.heap.size 26 #[.int .i64 0, .int .i64 0] := by rw [← hw3]; exact Bk.new wr _ _
                  have b3 : Below wr.heap.size wr w3 := by rw [← hw3]; exact (Below.refl _ wr).alloc (Nat.le_refl _) _
                  rw [← b3.cell (p := ad) (by omega)] at c0
                  rw [← b3.cell (p := ⟨ad.block, ad.off + 1, none⟩) (by show ad.block < _; omega)] at c1
                  have e0 := hk3.cell 0
                  have e1 := hk3.cell 1
                  have f0 := hk3.free 0
                  have f1 := hk3.free 1
                  simp at e0 e1
                  rw [hw3]
                  clear hw3
                  go_big_quiet (fail)
                  go_wp2_with fail
                  go_region
                  obtain ⟨b4', hk4'⟩ := boxed (nq := nq + 1) b3 hk3 (.int .i64 u) (.int .i64 v)
                  obtain ⟨w4, hw4⟩ : ∃ w4, ((w3.drewN (nq + 1)).setCell ⟨wr.heap.size, 0, none⟩ (.int .i64 u)).setCell ⟨wr.heap.size, 1, none⟩ (.int .i64 v) = w4 := ⟨_, rfl⟩
                  rw [hw4] at b4' hk4'
                  have b4 := Lib.hid b4'
                  have g0 := hk4'.cell 0
                  have g1 := hk4'.cell 1
                  simp at g0 g1
                  go_wp2_with fail
                  try rw [hw4]
                  clear b4' hk4' hw4 e0 e1 f0 f1 b3 hk3 c0 c1
                  have k1 := (b4.out.cell (p := ⟨g, ys.length * 2 + 1, none⟩) HG.out).trans HK1.out
                  have kf := (b4.out.frozen (p := ⟨g, ys.length * 2 + 1, none⟩) HG.out).trans HKF.out
                  go_big_quiet (fail)
                  obtain ⟨w5, hw5⟩ : ∃ w5, w4.drewN nq = w5 := ⟨_, rfl⟩
                  have b5 : Hid (Below wr.heap.size wr w5) := by rw [← hw5]; exact drewN_below b4.out _
                  have g2 : w5.cell? ⟨wr.heap.size, 0, none⟩ = some (.int .i64 u) := by rw [← hw5]; exact g0
                  have g3 : w5.cell? ⟨wr.heap.size, 1, none⟩ = some (.int .i64 v) := by rw [← hw5]; exact g1
                  have k2 : w5.cell? ⟨g, ys.length * 2 + 1, none⟩ = some (.int .i64 y) := by rw [← hw5]; exact k1
                  have kg : w5.frozen? ⟨g, ys.length * 2 + 1, none⟩ = false := by rw [← hw5]; exact kf
                  rw [hw5]
                  clear hw5 g0 g1 b4 k1 kf
                  have ho5 : Hid (OwnR w.heap.size w5 (.slice (some ⟨g, 0, none⟩) n cO) (ys ++ [(x, y)])) := ho.out.below b5.out
                  go_wp2_with fail
                  go_region
                  obtain ⟨o2, b2⟩ := ho5.out.moved (z := (x, max y v)) rfl
                  have o2' : Hid (OwnR w.heap.size (w5.setCell ⟨g, ys.length * 2 + 1, none⟩ (.int .i64 (max y v))).drew (.slice (some ⟨g, 0, none⟩) n cO) (Rg.step (ys ++ [(x, y)]) (u, v))) := by rw [step_joined ys (x, y) (u, v) (by show ¬ (y + 1 < u); have := hap.out; omega)]; exact o2
                  have b7 : Hid (Below w.heap.size wr (w5.setCell ⟨g, ys.length * 2 + 1, none⟩ (.int .i64 (max y v))).drew) := ((b5.out.mono hsw).trans b2).drew
                  have b6 := bw.trans b7.out
                  clear o2 b2
                  go_wp2_with fail
                  go_roundw
                  case rel => exact ⟨[], [], _, _, _, _, rfl, rfl, rfl, b6, HO.out _ b7.out, HT.out _ b7.out, o2', HM2⟩
                  case measure => simp [lenV]; try omega
                · by_cases h2 : y + 1 < u
                  · have hap := Lib.hid h2
                    have hb1 : decide (u ≤ y) = false := decide_eq_false h1
                    have hw := hwt (by omega)
                    have hb2 : (u - 1 == y) = false := by simp; omega
                    have hb3 : decide (u - 1 = y) = false := by simp; omega
                    clear hwu hwt h1 h2 HY hfu
                    go_wp2_with fail
                    obtain ⟨w3, hw3⟩ : ∃ w3, wr.alloc (.cells #[.int .i64 0, .int .i64 0] 26) = w3 := ⟨_, rfl⟩
                    have hk3 : Bk w3 wr.heap.size 26 #[.int .i64 0, .int .i64 0] := by rw [← hw3]; exact Bk.new wr _ _
                    have b3 : Below wr.heap.size wr w3 := by rw [← hw3]; exact (Below.refl _ wr).alloc (Nat.le_refl _) _
                    rw [← b3.cell (p := ad) (by omega)] at c0
                    rw [← b3.cell (p := ⟨ad.block, ad.off + 1, none⟩) (by show ad.block < _; omega)] at c1
                    have e0 := hk3.cell 0
                    have e1 := hk3.cell 1
                    have f0 := hk3.free 0
                    have f1 := hk3.free 1
                    simp at e0 e1
                    rw [hw3]
                    clear hw3
                    go_big_quiet (fail)
                    go_wp2_with fail
                    go_region
                    obtain ⟨b4', hk4'⟩ := boxed (nq := nq + 1) b3 hk3 (.int .i64 u) (.int .i64 v)
                    obtain ⟨w4, hw4⟩ : ∃ w4, ((w3.drewN (nq + 1)).setCell ⟨wr.heap.size, 0, none⟩ (.int .i64 u)).setCell ⟨wr.heap.size, 1, none⟩ (.int .i64 v) = w4 := ⟨_, rfl⟩
                    rw [hw4] at b4' hk4'
                    have b4 := Lib.hid b4'
                    have g0 := hk4'.cell 0
                    have g1 := hk4'.cell 1
                    simp at g0 g1
                    go_wp2_with fail
                    try rw [hw4]
                    clear b4' hk4' hw4 e0 e1 f0 f1 b3 hk3 c0 c1
                    have k1 := (b4.out.cell (p := ⟨g, ys.length * 2 + 1, none⟩) HG.out).trans HK1.out
                    have kf := (b4.out.frozen (p := ⟨g, ys.length * 2 + 1, none⟩) HG.out).trans HKF.out
                    go_big_quiet (fail)
                    obtain ⟨w5, hw5⟩ : ∃ w5, w4.drewN nq = w5 := ⟨_, rfl⟩
                    have b5 : Hid (Below wr.heap.size wr w5) := by rw [← hw5]; exact drewN_below b4.out _
                    have g2 : w5.cell? ⟨wr.heap.size, 0, none⟩ = some (.int .i64 u) := by rw [← hw5]; exact g0
                    have g3 : w5.cell? ⟨wr.heap.size, 1, none⟩ = some (.int .i64 v) := by rw [← hw5]; exact g1
                    rw [hw5]
                    clear hw5 g0 g1 b4 k1 kf
                    have ho5 : Hid (OwnR w.heap.size w5 (.slice (some ⟨g, 0, none⟩) n cO) (ys ++ [(x, y)])) := ho.out.below b5.out
                    go_wp2_with (at_builtin; refine push_rng rfl _ _ rfl w.heap.size (.slice (some ⟨g, 0, none⟩) n cO) (ys ++ [(x, y)]) u v w5 rfl ho5.out rfl (by simp; try omega) (Nat.le_trans hsw b5.out.size) ?_)
                    intro v2 w2 o2 b2
                    have o2' : Hid (OwnR w.heap.size w2 v2 (Rg.step (ys ++ [(x, y)]) (u, v))) := by rw [step_apart ys (x, y) (u, v) (by show y + 1 < u; have := hap.out; omega), List.append_assoc]; exact o2
                    have b7 : Hid (Below w.heap.size wr w2) := (b5.out.mono hsw).trans b2
                    have b6 := bw.trans b7.out
                    clear o2 b2
                    go_wp2_with fail
                    go_roundw
                    case rel => exact ⟨[], [], _, _, _, _, rfl, rfl, rfl, b6, HO.out _ b7.out, HT.out _ b7.out, o2', HM2⟩
                    case measure => simp [lenV]; try omega
                  · have hap := Lib.hid h2
                    have hb1 : decide (u ≤ y) = false := decide_eq_false h1
                    have hw := hwt (by omega)
                    have hb2 : (u - 1 == y) = true := by simp; omega
                    have hb3 : decide (u - 1 = y) = true := by simp; omega
                    clear hwu hwt h1 h2 HY hfu
                    go_wp2_with fail
                    obtain ⟨w3, hw3⟩ : ∃ w3, wr.alloc (.cells #[.int .i64 0, .int .i64 0] 26) = w3 := ⟨_, rfl⟩
                    have hk3 : Bk w3 wr.heap.size 26 #[.int .i64 0, .int .i64 0] := by rw [← hw3]; exact Bk.new wr _ _
                    have b3 : Below wr.heap.size wr w3 := by rw [← hw3]; exact (Below.refl _ wr).alloc (Nat.le_refl _) _
                    rw [← b3.cell (p := ad) (by omega)] at c0
                    rw [← b3.cell (p := ⟨ad.block, ad.off + 1, none⟩) (by show ad.block < _; omega)] at c1
                    have e0 := hk3.cell 0
                    have e1 := hk3.cell 1
                    have f0 := hk3.free 0
                    have f1 := hk3.free 1
                    simp at e0 e1
                    rw [hw3]
                    clear hw3
                    go_big_quiet (fail)
                    go_wp2_with fail
                    go_region
                    obtain ⟨b4', hk4'⟩ := boxed (nq := nq + 1) b3 hk3 (.int .i64 u) (.int .i64 v)
                    obtain ⟨w4, hw4⟩ : ∃ w4, ((w3.drewN (nq + 1)).setCell ⟨wr.heap.size, 0, none⟩ (.int .i64 u)).setCell ⟨wr.heap.size, 1, none⟩ (.int .i64 v) = w4 := ⟨_, rfl⟩
                    rw [hw4] at b4' hk4'
                    have b4 := Lib.hid b4'
                    have g0 := hk4'.cell 0
                    have g1 := hk4'.cell 1
                    simp at g0 g1
                    go_wp2_with fail
                    try rw [hw4]
                    clear b4' hk4' hw4 e0 e1 f0 f1 b3 hk3 c0 c1
                    have k1 := (b4.out.cell (p := ⟨g, ys.length * 2 + 1, none⟩) HG.out).trans HK1.out
                    have kf := (b4.out.frozen (p := ⟨g, ys.length * 2 + 1, none⟩) HG.out).trans HKF.out
                    go_big_quiet (fail)
                    obtain ⟨w5, hw5⟩ : ∃ w5, w4.drewN nq = w5 := ⟨_, rfl⟩
                    have b5 : Hid (Below wr.heap.size wr w5) := by rw [← hw5]; exact drewN_below b4.out _
                    have g2 : w5.cell? ⟨wr.heap.size, 0, none⟩ = some (.int .i64 u) := by rw [← hw5]; exact g0
                    have g3 : w5.cell? ⟨wr.heap.size, 1, none⟩ = some (.int .i64 v) := by rw [← hw5]; exact g1
                    have k2 : w5.cell? ⟨g, ys.length * 2 + 1, none⟩ = some (.int .i64 y) := by rw [← hw5]; exact k1
                    have kg : w5.frozen? ⟨g, ys.length * 2 + 1, none⟩ = false := by rw [← hw5]; exact kf
                    rw [hw5]
                    clear hw5 g0 g1 b4 k1 kf
                    have ho5 : Hid (OwnR w.heap.size w5 (.slice (some ⟨g, 0, none⟩) n cO) (ys ++ [(x, y)])) := ho.out.below b5.out
                    go_wp2_with fail
                    go_region
                    obtain ⟨o2, b2⟩ := ho5.out.moved (z := (x, max y v)) rfl
                    have o2' : Hid (OwnR w.heap.size (w5.setCell ⟨g, ys.length * 2 + 1, none⟩ (.int .i64 (max y v))).drew (.slice (some ⟨g, 0, none⟩) n cO) (Rg.step (ys ++ [(x, y)]) (u, v))) := by rw [step_joined ys (x, y) (u, v) (by show ¬ (y + 1 < u); have := hap.out; omega)]; exact o2
                    have b7 : Hid (Below w.heap.size wr (w5.setCell ⟨g, ys.length * 2 + 1, none⟩ (.int .i64 (max y v))).drew) := ((b5.out.mono hsw).trans b2).drew
                    have b6 := bw.trans b7.out
                    clear o2 b2
                    go_wp2_with fail
                    go_roundw
                    case rel => exact ⟨[], [], _, _, _, _, rfl, rfl, rfl, b6, HO.out _ b7.out, HT.out _ b7.out, o2', HM2⟩
                    case measure => simp [lenV]; try omega
              · have HT : Hid (∀ W, Below w.heap.size wr W → ReadR w.heap.size W (.slice (some ⟨ad.block, ad.off + 2, none⟩) s.length (cap' - 1)) s) := fun W h => (hrb.out.below h).tail2
                have hwu : y + 1 < u → wrap64 (u - 1) = u - 1 := fun _ => by unfold Fit at hfu HY; unfold wrap64; omega
                have hwt : y < u → wrap64 (u - 1) = u - 1 := fun _ => by unfold Fit at hfu HY; unfold wrap64; omega
                clear hm' hrb hra
                by_cases h1 : u ≤ y
                · have hap := Lib.hid (show ¬ (y + 1 < u) by omega)
                  have hb1 : decide (u ≤ y) = true := decide_eq_true h1
                  clear hwu hwt h1 HY hfu
                  go_wp2_with fail
                  obtain ⟨w3, hw3⟩ : ∃ w3, wr.alloc (.cells #[.int .i64 0, .int .i64 0] 26) = w3 := ⟨_, rfl⟩
                  have hk3 : Bk w3 wr.heap.size 26 #[.int .i64 0, .int .i64 0] := by rw [← hw3]; exact Bk.new wr _ _
                  have b3 : Below wr.heap.size wr w3 := by rw [← hw3]; exact (Below.refl _ wr).alloc (Nat.le_refl _) _
                  rw [← b3.cell (p := ad) (by omega)] at c0
                  rw [← b3.cell (p := ⟨ad.block, ad.off + 1, none⟩) (by show ad.block < _; omega)] at c1
                  have e0 := hk3.cell 0
                  have e1 := hk3.cell 1
                  have f0 := hk3.free 0
                  have f1 := hk3.free 1
                  simp at e0 e1
                  rw [hw3]
                  clear hw3
                  go_big_quiet (fail)
                  go_wp2_with fail
                  go_region
                  obtain ⟨b4', hk4'⟩ := boxed (nq := nq + 1) b3 hk3 (.int .i64 u) (.int .i64 v)
                  obtain ⟨w4, hw4⟩ : ∃ w4, ((w3.drewN (nq + 1)).setCell ⟨wr.heap.size, 0, none⟩ (.int .i64 u)).setCell ⟨wr.heap.size, 1, none⟩ (.int .i64 v) = w4 := ⟨_, rfl⟩
                  rw [hw4] at b4' hk4'
                  have b4 := Lib.hid b4'
                  have g0 := hk4'.cell 0
                  have g1 := hk4'.cell 1
                  simp at g0 g1
                  go_wp2_with fail
                  try rw [hw4]
                  clear b4' hk4' hw4 e0 e1 f0 f1 b3 hk3 c0 c1
                  have k1 := (b4.out.cell (p := ⟨g, ys.length * 2 + 1, none⟩) HG.out).trans HK1.out
                  have kf := (b4.out.frozen (p := ⟨g, ys.length * 2 + 1, none⟩) HG.out).trans HKF.out
                  go_big_quiet (fail)
                  obtain ⟨w5, hw5⟩ : ∃ w5, w4.drewN nq = w5 := ⟨_, rfl⟩
                  have b5 : Hid (Below wr.heap.size wr w5) := by rw [← hw5]; exact drewN_below b4.out _
                  have g2 : w5.cell? ⟨wr.heap.size, 0, none⟩ = some (.int .i64 u) := by rw [← hw5]; exact g0
                  have g3 : w5.cell? ⟨wr.heap.size, 1, none⟩ = some (.int .i64 v) := by rw [← hw5]; exact g1
                  have k2 : w5.cell? ⟨g, ys.length * 2 + 1, none⟩ = some (.int .i64 y) := by rw [← hw5]; exact k1
                  have kg : w5.frozen? ⟨g, ys.length * 2 + 1, none⟩ = false := by rw [← hw5]; exact kf
                  rw [hw5]
                  clear hw5 g0 g1 b4 k1 kf
                  have ho5 : Hid (OwnR w.heap.size w5 (.slice (some ⟨g, 0, none⟩) n cO) (ys ++ [(x, y)])) := ho.out.below b5.out
                  go_wp2_with fail
                  go_region
                  obtain ⟨o2, b2⟩ := ho5.out.moved (z := (x, max y v)) rfl
                  have o2' : Hid (OwnR w.heap.size (w5.setCell ⟨g, ys.length * 2 + 1, none⟩ (.int .i64 (max y v))).drew (.slice (some ⟨g, 0, none⟩) n cO) (Rg.step (ys ++ [(x, y)]) (u, v))) := by rw [step_joined ys (x, y) (u, v) (by show ¬ (y + 1 < u); have := hap.out; omega)]; exact o2
                  have b7 : Hid (Below w.heap.size wr (w5.setCell ⟨g, ys.length * 2 + 1, none⟩ (.int .i64 (max y v))).drew) := ((b5.out.mono hsw).trans b2).drew
                  have b6 := bw.trans b7.out
                  clear o2 b2
                  go_wp2_with fail
                  go_roundw
                  case rel => exact ⟨[], s, _, _, _, _, rfl, rfl, rfl, b6, HO.out _ b7.out, HT.out _ b7.out, o2', HM2⟩
                  case measure => simp [lenV]; try omega
                · by_cases h2 : y + 1 < u
                  · have hap := Lib.hid h2
                    have hb1 : decide (u ≤ y) = false := decide_eq_false h1
                    have hw := hwt (by omega)
                    have hb2 : (u - 1 == y) = false := by simp; omega
                    have hb3 : decide (u - 1 = y) = false := by simp; omega
                    clear hwu hwt h1 h2 HY hfu
                    go_wp2_with fail
                    obtain ⟨w3, hw3⟩ : ∃ w3, wr.alloc (.cells #[.int .i64 0, .int .i64 0] 26) = w3 := ⟨_, rfl⟩
                    have hk3 : Bk w3 wr.heap.size 26 #[.int .i64 0, .int .i64 0] := by rw [← hw3]; exact Bk.new wr _ _
                    have b3 : Below wr.heap.size wr w3 := by rw [← hw3]; exact (Below.refl _ wr).alloc (Nat.le_refl _) _
                    rw [← b3.cell (p := ad) (by omega)] at c0
                    rw [← b3.cell (p := ⟨ad.block, ad.off + 1, none⟩) (by show ad.block < _; omega)] at c1
                    have e0 := hk3.cell 0
                    have e1 := hk3.cell 1
                    have f0 := hk3.free 0
                    have f1 := hk3.free 1
                    simp at e0 e1
                    rw [hw3]
                    clear hw3
                    go_big_quiet (fail)
                    go_wp2_with fail
                    go_region
                    obtain ⟨b4', hk4'⟩ := boxed (nq := nq + 1) b3 hk3 (.int .i64 u) (.int .i64 v)
                    obtain ⟨w4, hw4⟩ : ∃ w4, ((w3.drewN (nq + 1)).setCell ⟨wr.heap.size, 0, none⟩ (.int .i64 u)).setCell ⟨wr.heap.size, 1, none⟩ (.int .i64 v) = w4 := ⟨_, rfl⟩
                    rw [hw4] at b4' hk4'
                    have b4 := Lib.hid b4'
                    have g0 := hk4'.cell 0
                    have g1 := hk4'.cell 1
                    simp at g0 g1
                    go_wp2_with fail
                    try rw [hw4]
                    clear b4' hk4' hw4 e0 e1 f0 f1 b3 hk3 c0 c1
                    have k1 := (b4.out.cell (p := ⟨g, ys.length * 2 + 1, none⟩) HG.out).trans HK1.out
                    have kf := (b4.out.frozen (p := ⟨g, ys.length * 2 + 1, none⟩) HG.out).trans HKF.out
                    go_big_quiet (fail)
                    obtain ⟨w5, hw5⟩ : ∃ w5, w4.drewN nq = w5 := ⟨_, rfl⟩
                    have b5 : Hid (Below wr.heap.size wr w5) := by rw [← hw5]; exact drewN_below b4.out _
                    have g2 : w5.cell? ⟨wr.heap.size, 0, none⟩ = some (.int .i64 u) := by rw [← hw5]; exact g0
                    have g3 : w5.cell? ⟨wr.heap.size, 1, none⟩ = some (.int .i64 v) := by rw [← hw5]; exact g1
                    rw [hw5]
                    clear hw5 g0 g1 b4 k1 kf
                    have ho5 : Hid (OwnR w.heap.size w5 (.slice (some ⟨g, 0, none⟩) n cO) (ys ++ [(x, y)])) := ho.out.below b5.out
                    go_wp2_with (at_builtin; refine push_rng rfl _ _ rfl w.heap.size (.slice (some ⟨g, 0, none⟩) n cO) (ys ++ [(x, y)]) u v w5 rfl ho5.out rfl (by simp; try omega) (Nat.le_trans hsw b5.out.size) ?_)
                    intro v2 w2 o2 b2
                    have o2' : Hid (OwnR w.heap.size w2 v2 (Rg.step (ys ++ [(x, y)]) (u, v))) := by rw [step_apart ys (x, y) (u, v) (by show y + 1 < u; have := hap.out; omega), List.append_assoc]; exact o2
                    have b7 : Hid (Below w.heap.size wr w2) := (b5.out.mono hsw).trans b2
                    have b6 := bw.trans b7.out
                    clear o2 b2
                    go_wp2_with fail
                    go_roundw
                    case rel => exact ⟨[], s, _, _, _, _, rfl, rfl, rfl, b6, HO.out _ b7.out, HT.out _ b7.out, o2', HM2⟩
                    case measure => simp [lenV]; try omega
                  · have hap := Lib.hid h2
                    have hb1 : decide (u ≤ y) = false := decide_eq_false h1
                    have hw := hwt (by omega)
                    have hb2 : (u - 1 == y) = true := by simp; omega
                    have hb3 : decide (u - 1 = y) = true := by simp; omega
                    clear hwu hwt h1 h2 HY hfu
                    go_wp2_with fail
                    obtain ⟨w3, hw3⟩ : ∃ w3, wr.alloc (.cells #[.int .i64 0, .int .i64 0] 26) = w3 := ⟨_, rfl⟩
                    have hk3 : Bk w3 wr.heap.size 26 #[.int .i64 0, .int .i64 0] := by rw [← hw3]; exact Bk.new wr _ _
                    have b3 : Below wr.heap.size wr w3 := by rw [← hw3]; exact (Below.refl _ wr).alloc (Nat.le_refl _) _
                    rw [← b3.cell (p := ad) (by omega)] at c0
                    rw [← b3.cell (p := ⟨ad.block, ad.off + 1, none⟩) (by show ad.block < _; omega)] at c1
                    have e0 := hk3.cell 0
                    have e1 := hk3.cell 1
                    have f0 := hk3.free 0
                    have f1 := hk3.free 1
                    simp at e0 e1
                    rw [hw3]
                    clear hw3
                    go_big_quiet (fail)
                    go_wp2_with fail
                    go_region
                    obtain ⟨b4', hk4'⟩ := boxed (nq := nq + 1) b3 hk3 (.int .i64 u) (.int .i64 v)
                    obtain ⟨w4, hw4⟩ : ∃ w4, ((w3.drewN (nq + 1)).setCell ⟨wr.heap.size, 0, none⟩ (.int .i64 u)).setCell ⟨wr.heap.size, 1, none⟩ (.int .i64 v) = w4 := ⟨_, rfl⟩
                    rw [hw4] at b4' hk4'
                    have b4 := Lib.hid b4'
                    have g0 := hk4'.cell 0
                    have g1 := hk4'.cell 1
                    simp at g0 g1
                    go_wp2_with fail
                    try rw [hw4]
                    clear b4' hk4' hw4 e0 e1 f0 f1 b3 hk3 c0 c1
                    have k1 := (b4.out.cell (p := ⟨g, ys.length * 2 + 1, none⟩) HG.out).trans HK1.out
                    have kf := (b4.out.frozen (p := ⟨g, ys.length * 2 + 1, none⟩) HG.out).trans HKF.out
                    go_big_quiet (fail)
                    obtain ⟨w5, hw5⟩ : ∃ w5, w4.drewN nq = w5 := ⟨_, rfl⟩
                    have b5 : Hid (Below wr.heap.size wr w5) := by rw [← hw5]; exact drewN_below b4.out _
                    have g2 : w5.cell? ⟨wr.heap.size, 0, none⟩ = some (.int .i64 u) := by rw [← hw5]; exact g0
                    have g3 : w5.cell? ⟨wr.heap.size, 1, none⟩ = some (.int .i64 v) := by rw [← hw5]; exact g1
                    have k2 : w5.cell? ⟨g, ys.length * 2 + 1, none⟩ = some (.int .i64 y) := by rw [← hw5]; exact k1
                    have kg : w5.frozen? ⟨g, ys.length * 2 + 1, none⟩ = false := by rw [← hw5]; exact kf
                    rw [hw5]
                    clear hw5 g0 g1 b4 k1 kf
                    have ho5 : Hid (OwnR w.heap.size w5 (.slice (some ⟨g, 0, none⟩) n cO) (ys ++ [(x, y)])) := ho.out.below b5.out
                    go_wp2_with fail
                    go_region
                    obtain ⟨o2, b2⟩ := ho5.out.moved (z := (x, max y v)) rfl
                    have o2' : Hid (OwnR w.heap.size (w5.setCell ⟨g, ys.length * 2 + 1, none⟩ (.int .i64 (max y v))).drew (.slice (some ⟨g, 0, none⟩) n cO) (Rg.step (ys ++ [(x, y)]) (u, v))) := by rw [step_joined ys (x, y) (u, v) (by show ¬ (y + 1 < u); have := hap.out; omega)]; exact o2
                    have b7 : Hid (Below w.heap.size wr (w5.setCell ⟨g, ys.length * 2 + 1, none⟩ (.int .i64 (max y v))).drew) := ((b5.out.mono hsw).trans b2).drew
                    have b6 := bw.trans b7.out
                    clear o2 b2
                    go_wp2_with fail
                    go_roundw
                    case rel => exact ⟨[], s, _, _, _, _, rfl, rfl, rfl, b6, HO.out _ b7.out, HT.out _ b7.out, o2', HM2⟩
                    case measure => simp [lenV]; try omega
          · rcases b' with _ | ⟨⟨q1, q2⟩, s⟩
            · clear hend
              revert hra hm'
              generalize p1 = u
              generalize p2 = v
              intro hra hm'
              obtain ⟨hn, hnc, hcm, ad, ea, hlb, c0, c1⟩ := hra.out.first
              subst ea
              rw [hn] at hnc
              have hcm2 : cap ≤ 9223372036854775807 := by unfold maxLen at hcm; omega
              clear hn hcm
              have HO : Hid (∀ W, Below w.heap.size wr W → ReadR w.heap.size W (.slice A' ([] : List R).length cap') []) := fun W h => hrb.out.below h
              have HM2 := Lib.hid (hm'.out.left1)
              have hfu : Fit u := (hm'.out.fa (u, v) (by simp)).1
              by_cases hcap : cap = 1
              · subst hcap
                obtain rfl : t = [] := List.eq_nil_of_length_eq_zero (by omega)
                have HT : Hid (∀ W, Below w.heap.size wr W → ReadR w.heap.size W (.slice (some ad) 0 0) []) := fun W h => (hra.out.below h).tail1
                have hwu : y + 1 < u → wrap64 (u - 1) = u - 1 := fun _ => by unfold Fit at hfu HY; unfold wrap64; omega
                have hwt : y < u → wrap64 (u - 1) = u - 1 := fun _ => by unfold Fit at hfu HY; unfold wrap64; omega
                clear hm' hrb hra
                by_cases h1 : u ≤ y
                · have hap := Lib.hid (show ¬ (y + 1 < u) by omega)
                  have hb1 : decide (u ≤ y) = true := decide_eq_true h1
                  clear hwu hwt h1 HY hfu
                  go_wp2_with fail
                  obtain ⟨w3, hw3⟩ : ∃ w3, wr.alloc (.cells #[.int .i64 0, .int .i64 0] 26) = w3 := ⟨_, rfl⟩
                  have hk3 : Bk w3 wr.heap.size 26 #[.int .i64 0, .int .i64 0] := by rw [← hw3]; exact Bk.new wr _ _
                  have b3 : Below wr.heap.size wr w3 := by rw [← hw3]; exact (Below.refl _ wr).alloc (Nat.le_refl _) _
                  rw [← b3.cell (p := ad) (by omega)] at c0
                  rw [← b3.cell (p := ⟨ad.block, ad.off + 1, none⟩) (by show ad.block < _; omega)] at c1
                  have e0 := hk3.cell 0
                  have e1 := hk3.cell 1
                  have f0 := hk3.free 0
                  have f1 := hk3.free 1
                  simp at e0 e1
                  rw [hw3]
                  clear hw3
                  go_big_quiet (fail)
                  go_wp2_with fail
                  go_region
                  obtain ⟨b4', hk4'⟩ := boxed (nq := nq + 1) b3 hk3 (.int .i64 u) (.int .i64 v)
                  obtain ⟨w4, hw4⟩ : ∃ w4, ((w3.drewN (nq + 1)).setCell ⟨wr.heap.size, 0, none⟩ (.int .i64 u)).setCell ⟨wr.heap.size, 1, none⟩ (.int .i64 v) = w4 := ⟨_, rfl⟩
                  rw [hw4] at b4' hk4'
                  have b4 := Lib.hid b4'
                  have g0 := hk4'.cell 0
                  have g1 := hk4'.cell 1
                  simp at g0 g1
                  go_wp2_with fail
                  try rw [hw4]
                  clear b4' hk4' hw4 e0 e1 f0 f1 b3 hk3 c0 c1
                  have k1 := (b4.out.cell (p := ⟨g, ys.length * 2 + 1, none⟩) HG.out).trans HK1.out
                  have kf := (b4.out.frozen (p := ⟨g, ys.length * 2 + 1, none⟩) HG.out).trans HKF.out
                  go_big_quiet (fail)
                  obtain ⟨w5, hw5⟩ : ∃ w5, w4.drewN nq = w5 := ⟨_, rfl⟩
                  have b5 : Hid (Below wr.heap.size wr w5) := by rw [← hw5]; exact drewN_below b4.out _
                  have g2 : w5.cell? ⟨wr.heap.size, 0, none⟩ = some (.int .i64 u) := by rw [← hw5]; exact g0
                  have g3 : w5.cell? ⟨wr.heap.size, 1, none⟩ = some (.int .i64 v) := by rw [← hw5]; exact g1
                  have k2 : w5.cell? ⟨g, ys.length * 2 + 1, none⟩ = some (.int .i64 y) := by rw [← hw5]; exact k1
                  have kg : w5.frozen? ⟨g, ys.length * 2 + 1, none⟩ = false := by rw [← hw5]; exact kf
                  rw [hw5]
                  clear hw5 g0 g1 b4 k1 kf
                  have ho5 : Hid (OwnR w.heap.size w5 (.slice (some ⟨g, 0, none⟩) n cO) (ys ++ [(x, y)])) := ho.out.below b5.out
                  go_wp2_with fail
                  go_region
                  obtain ⟨o2, b2⟩ := ho5.out.moved (z := (x, max y v)) rfl
                  have o2' : Hid (OwnR w.heap.size (w5.setCell ⟨g, ys.length * 2 + 1, none⟩ (.int .i64 (max y v))).drew (.slice (some ⟨g, 0, none⟩) n cO) (Rg.step (ys ++ [(x, y)]) (u, v))) := by rw [step_joined ys (x, y) (u, v) (by show ¬ (y + 1 < u); have := hap.out; omega)]; exact o2
                  have b7 : Hid (Below w.heap.size wr (w5.setCell ⟨g, ys.length * 2 + 1, none⟩ (.int .i64 (max y v))).drew) := ((b5.out.mono hsw).trans b2).drew
                  have b6 := bw.trans b7.out
                  clear o2 b2
                  go_wp2_with fail
                  go_roundw
                  case rel => exact ⟨[], [], _, _, _, _, rfl, rfl, rfl, b6, HT.out _ b7.out, HO.out _ b7.out, o2', HM2⟩
                  case measure => simp [lenV]; try omega
                · by_cases h2 : y + 1 < u
                  · have hap := Lib.hid h2
                    have hb1 : decide (u ≤ y) = false := decide_eq_false h1
                    have hw := hwt (by omega)
                    have hb2 : (u - 1 == y) = false := by simp; omega
                    have hb3 : decide (u - 1 = y) = false := by simp; omega
                    clear hwu hwt h1 h2 HY hfu
                    go_wp2_with fail
                    obtain ⟨w3, hw3⟩ : ∃ w3, wr.alloc (.cells #[.int .i64 0, .int .i64 0] 26) = w3 := ⟨_, rfl⟩
                    have hk3 : Bk w3 wr.heap.size 26 #[.int .i64 0, .int .i64 0] := by rw [← hw3]; exact Bk.new wr _ _
                    have b3 : Below wr.heap.size wr w3 := by rw [← hw3]; exact (Below.refl _ wr).alloc (Nat.le_refl _) _
                    rw [← b3.cell (p := ad) (by omega)] at c0
                    rw [← b3.cell (p := ⟨ad.block, ad.off + 1, none⟩) (by show ad.block < _; omega)] at c1
                    have e0 := hk3.cell 0
                    have e1 := hk3.cell 1
                    have f0 := hk3.free 0
                    have f1 := hk3.free 1
                    simp at e0 e1
                    rw [hw3]
                    clear hw3
                    go_big_quiet (fail)
                    go_wp2_with fail
                    go_region
                    obtain ⟨b4', hk4'⟩ := boxed (nq := nq + 1) b3 hk3 (.int .i64 u) (.int .i64 v)
                    obtain ⟨w4, hw4⟩ : ∃ w4, ((w3.drewN (nq + 1)).setCell ⟨wr.heap.size, 0, none⟩ (.int .i64 u)).setCell ⟨wr.heap.size, 1, none⟩ (.int .i64 v) = w4 := ⟨_, rfl⟩
                    rw [hw4] at b4' hk4'
                    have b4 := Lib.hid b4'
                    have g0 := hk4'.cell 0
                    have g1 := hk4'.cell 1
                    simp at g0 g1
                    go_wp2_with fail
                    try rw [hw4]
                    clear b4' hk4' hw4 e0 e1 f0 f1 b3 hk3 c0 c1
                    have k1 := (b4.out.cell (p := ⟨g, ys.length * 2 + 1, none⟩) HG.out).trans HK1.out
                    have kf := (b4.out.frozen (p := ⟨g, ys.length * 2 + 1, none⟩) HG.out).trans HKF.out
                    go_big_quiet (fail)
                    obtain ⟨w5, hw5⟩ : ∃ w5, w4.drewN nq = w5 := ⟨_, rfl⟩
                    have b5 : Hid (Below wr.heap.size wr w5) := by rw [← hw5]; exact drewN_below b4.out _
                    have g2 : w5.cell? ⟨wr.heap.size, 0, none⟩ = some (.int .i64 u) := by rw [← hw5]; exact g0
                    have g3 : w5.cell? ⟨wr.heap.size, 1, none⟩ = some (.int .i64 v) := by rw [← hw5]; exact g1
                    rw [hw5]
                    clear hw5 g0 g1 b4 k1 kf
                    have ho5 : Hid (OwnR w.heap.size w5 (.slice (some ⟨g, 0, none⟩) n cO) (ys ++ [(x, y)])) := ho.out.below b5.out
                    go_wp2_with (at_builtin; refine push_rng rfl _ _ rfl w.heap.size (.slice (some ⟨g, 0, none⟩) n cO) (ys ++ [(x, y)]) u v w5 rfl ho5.out rfl (by simp; try omega) (Nat.le_trans hsw b5.out.size) ?_)
                    intro v2 w2 o2 b2
                    have o2' : Hid (OwnR w.heap.size w2 v2 (Rg.step (ys ++ [(x, y)]) (u, v))) := by rw [step_apart ys (x, y) (u, v) (by show y + 1 < u; have := hap.out; omega), List.append_assoc]; exact o2
                    have b7 : Hid (Below w.heap.size wr w2) := (b5.out.mono hsw).trans b2
                    have b6 := bw.trans b7.out
                    clear o2 b2
                    go_wp2_with fail
                    go_roundw
                    case rel => exact ⟨[], [], _, _, _, _, rfl, rfl, rfl, b6, HT.out _ b7.out, HO.out _ b7.out, o2', HM2⟩
                    case measure => simp [lenV]; try omega
                  · have hap := Lib.hid h2
                    have hb1 : decide (u ≤ y) = false := decide_eq_false h1
                    have hw := hwt (by omega)
                    have hb2 : (u - 1 == y) = true := by simp; omega
                    have hb3 : decide (u - 1 = y) = true := by simp; omega
                    clear hwu hwt h1 h2 HY hfu
                    go_wp2_with fail
                    obtain ⟨w3, hw3⟩ : ∃ w3, wr.alloc (.cells #[.int .i64 0, .int .i64 0] 26) = w3 := ⟨_, rfl⟩
                    have hk3 : Bk w3 wr.heap.size 26 #[.int .i64 0, .int .i64 0] := by rw [← hw3]; exact Bk.new wr _ _
                    have b3 : Below wr.heap.size wr w3 := by rw [← hw3]; exact (Below.refl _ wr).alloc (Nat.le_refl _) _
                    rw [← b3.cell (p := ad) (by omega)] at c0
                    rw [← b3.cell (p := ⟨ad.block, ad.off + 1, none⟩) (by show ad.block < _; omega)] at c1
                    have e0 := hk3.cell 0
                    have e1 := hk3.cell 1
                    have f0 := hk3.free 0
                    have f1 := hk3.free 1
                    simp at e0 e1
                    rw [hw3]
                    clear hw3
                    go_big_quiet (fail)
                    go_wp2_with fail
                    go_region
                    obtain ⟨b4', hk4'⟩ := boxed (nq := nq + 1) b3 hk3 (.int .i64 u) (.int .i64 v)
                    obtain ⟨w4, hw4⟩ : ∃ w4, ((w3.drewN (nq + 1)).setCell ⟨wr.heap.size, 0, none⟩ (.int .i64 u)).setCell ⟨wr.heap.size, 1, none⟩ (.int .i64 v) = w4 := ⟨_, rfl⟩
                    rw [hw4] at b4' hk4'
                    have b4 := Lib.hid b4'
                    have g0 := hk4'.cell 0
                    have g1 := hk4'.cell 1
                    simp at g0 g1
                    go_wp2_with fail
                    try rw [hw4]
                    clear b4' hk4' hw4 e0 e1 f0 f1 b3 hk3 c0 c1
                    have k1 := (b4.out.cell (p := ⟨g, ys.length * 2 + 1, none⟩) HG.out).trans HK1.out
                    have kf := (b4.out.frozen (p := ⟨g, ys.length * 2 + 1, none⟩) HG.out).trans HKF.out
                    go_big_quiet (fail)
                    obtain ⟨w5, hw5⟩ : ∃ w5, w4.drewN nq = w5 := ⟨_, rfl⟩
                    have b5 : Hid (Below wr.heap.size wr w5) := by rw [← hw5]; exact drewN_below b4.out _
                    have g2 : w5.cell? ⟨wr.heap.size, 0, none⟩ = some (.int .i64 u) := by rw [← hw5]; exact g0
                    have g3 : w5.cell? ⟨wr.heap.size, 1, none⟩ = some (.int .i64 v) := by rw [← hw5]; exact g1
                    have k2 : w5.cell? ⟨g, ys.length * 2 + 1, none⟩ = some (.int .i64 y) := by rw [← hw5]; exact k1
                    have kg : w5.frozen? ⟨g, ys.length * 2 + 1, none⟩ = false := by rw [← hw5]; exact kf
                    rw [hw5]
                    clear hw5 g0 g1 b4 k1 kf
                    have ho5 : Hid (OwnR w.heap.size w5 (.slice (some ⟨g, 0, none⟩) n cO) (ys ++ [(x, y)])) := ho.out.below b5.out
                    go_wp2_with fail
                    go_region
                    obtain ⟨o2, b2⟩ := ho5.out.moved (z := (x, max y v)) rfl
                    have o2' : Hid (OwnR w.heap.size (w5.setCell ⟨g, ys.length * 2 + 1, none⟩ (.int .i64 (max y v))).drew (.slice (some ⟨g, 0, none⟩) n cO) (Rg.step (ys ++ [(x, y)]) (u, v))) := by rw [step_joined ys (x, y) (u, v) (by show ¬ (y + 1 < u); have := hap.out; omega)]; exact o2
                    have b7 : Hid (Below w.heap.size wr (w5.setCell ⟨g, ys.length * 2 + 1, none⟩ (.int .i64 (max y v))).drew) := ((b5.out.mono hsw).trans b2).drew
                    have b6 := bw.trans b7.out
                    clear o2 b2
                    go_wp2_with fail
                    go_roundw
                    case rel => exact ⟨[], [], _, _, _, _, rfl, rfl, rfl, b6, HT.out _ b7.out, HO.out _ b7.out, o2', HM2⟩
                    case measure => simp [lenV]; try omega
              · have HT : Hid (∀ W, Below w.heap.size wr W → ReadR w.heap.size W (.slice (some ⟨ad.block, ad.off + 2, none⟩) t.length (cap - 1)) t) := fun W h => (hra.out.below h).tail2
                have hwu : y + 1 < u → wrap64 (u - 1) = u - 1 := fun _ => by unfold Fit at hfu HY; unfold wrap64; omega
                have hwt : y < u → wrap64 (u - 1) = u - 1 := fun _ => by unfold Fit at hfu HY; unfold wrap64; omega
                clear hm' hrb hra
                by_cases h1 : u ≤ y
                · have hap := Lib.hid (show ¬ (y + 1 < u) by omega)
                  have hb1 : decide (u ≤ y) = true := decide_eq_true h1
                  clear hwu hwt h1 HY hfu
                  go_wp2_with fail
                  obtain ⟨w3, hw3⟩ : ∃ w3, wr.alloc (.cells #[.int .i64 0, .int .i64 0] 26) = w3 := ⟨_, rfl⟩
                  have hk3 : Bk w3 wr.heap.size 26 #[.int .i64 0, .int .i64 0] := by rw [← hw3]; exact Bk.new wr _ _
                  have b3 : Below wr.heap.size wr w3 := by rw [← hw3]; exact (Below.refl _ wr).alloc (Nat.le_refl _) _
                  rw [← b3.cell (p := ad) (by omega)] at c0
                  rw [← b3.cell (p := ⟨ad.block, ad.off + 1, none⟩) (by show ad.block < _; omega)] at c1
                  have e0 := hk3.cell 0
                  have e1 := hk3.cell 1
                  have f0 := hk3.free 0
                  have f1 := hk3.free 1
                  simp at e0 e1
                  rw [hw3]
                  clear hw3
                  go_big_quiet (fail)
                  go_wp2_with fail
                  go_region
                  obtain ⟨b4', hk4'⟩ := boxed (nq := nq + 1) b3 hk3 (.int .i64 u) (.int .i64 v)
                  obtain ⟨w4, hw4⟩ : ∃ w4, ((w3.drewN (nq + 1)).setCell ⟨wr.heap.size, 0, none⟩ (.int .i64 u)).setCell ⟨wr.heap.size, 1, none⟩ (.int .i64 v) = w4 := ⟨_, rfl⟩
                  rw [hw4] at b4' hk4'
                  have b4 := Lib.hid b4'
                  have g0 := hk4'.cell 0
                  have g1 := hk4'.cell 1
                  simp at g0 g1
                  go_wp2_with fail
                  try rw [hw4]
                  clear b4' hk4' hw4 e0 e1 f0 f1 b3 hk3 c0 c1
                  have k1 := (b4.out.cell (p := ⟨g, ys.length * 2 + 1, none⟩) HG.out).trans HK1.out
                  have kf := (b4.out.frozen (p := ⟨g, ys.length * 2 + 1, none⟩) HG.out).trans HKF.out
                  go_big_quiet (fail)
                  obtain ⟨w5, hw5⟩ : ∃ w5, w4.drewN nq = w5 := ⟨_, rfl⟩
                  have b5 : Hid (Below wr.heap.size wr w5) := by rw [← hw5]; exact drewN_below b4.out _
                  have g2 : w5.cell? ⟨wr.heap.size, 0, none⟩ = some (.int .i64 u) := by rw [← hw5]; exact g0
                  have g3 : w5.cell? ⟨wr.heap.size, 1, none⟩ = some (.int .i64 v) := by rw [← hw5]; exact g1
                  have k2 : w5.cell? ⟨g, ys.length * 2 + 1, none⟩ = some (.int .i64 y) := by rw [← hw5]; exact k1
                  have kg : w5.frozen? ⟨g, ys.length * 2 + 1, none⟩ = false := by rw [← hw5]; exact kf
                  rw [hw5]
                  clear hw5 g0 g1 b4 k1 kf
                  have ho5 : Hid (OwnR w.heap.size w5 (.slice (some ⟨g, 0, none⟩) n cO) (ys ++ [(x, y)])) := ho.out.below b5.out
                  go_wp2_with fail
                  go_region
                  obtain ⟨o2, b2⟩ := ho5.out.moved (z := (x, max y v)) rfl
                  have o2' : Hid (OwnR w.heap.size (w5.setCell ⟨g, ys.length * 2 + 1, none⟩ (.int .i64 (max y v))).drew (.slice (some ⟨g, 0, none⟩) n cO) (Rg.step (ys ++ [(x, y)]) (u, v))) := by rw [step_joined ys (x, y) (u, v) (by show ¬ (y + 1 < u); have := hap.out; omega)]; exact o2
                  have b7 : Hid (Below w.heap.size wr (w5.setCell ⟨g, ys.length * 2 + 1, none⟩ (.int .i64 (max y v))).drew) := ((b5.out.mono hsw).trans b2).drew
                  have b6 := bw.trans b7.out
                  clear o2 b2
                  go_wp2_with fail
                  go_roundw
                  case rel => exact ⟨t, [], _, _, _, _, rfl, rfl, rfl, b6, HT.out _ b7.out, HO.out _ b7.out, o2', HM2⟩
                  case measure => simp [lenV]; try omega
                · by_cases h2 : y + 1 < u
                  · have hap := Lib.hid h2
                    have hb1 : decide (u ≤ y) = false := decide_eq_false h1
                    have hw := hwt (by omega)
                    have hb2 : (u - 1 == y) = false := by simp; omega
                    have hb3 : decide (u - 1 = y) = false := by simp; omega
                    clear hwu hwt h1 h2 HY hfu
                    go_wp2_with fail
                    obtain ⟨w3, hw3⟩ : ∃ w3, wr.alloc (.cells #[.int .i64 0, .int .i64 0] 26) = w3 := ⟨_, rfl⟩
                    have hk3 : Bk w3 wr.heap.size 26 #[.int .i64 0, .int .i64 0] := by rw [← hw3]; exact Bk.new wr _ _
                    have b3 : Below wr.heap.size wr w3 := by rw [← hw3]; exact (Below.refl _ wr).alloc (Nat.le_refl _) _
                    rw [← b3.cell (p := ad) (by omega)] at c0
                    rw [← b3.cell (p := ⟨ad.block, ad.off + 1, none⟩) (by show ad.block < _; omega)] at c1
                    have e0 := hk3.cell 0
                    have e1 := hk3.cell 1
                    have f0 := hk3.free 0
                    have f1 := hk3.free 1
                    simp at e0 e1
                    rw [hw3]
                    clear hw3
                    go_big_quiet (fail)
                    go_wp2_with fail
                    go_region
                    obtain ⟨b4', hk4'⟩ := boxed (nq := nq + 1) b3 hk3 (.int .i64 u) (.int .i64 v)
                    obtain ⟨w4, hw4⟩ : ∃ w4, ((w3.drewN (nq + 1)).setCell ⟨wr.heap.size, 0, none⟩ (.int .i64 u)).setCell ⟨wr.heap.size, 1, none⟩ (.int .i64 v) = w4 := ⟨_, rfl⟩
                    rw [hw4] at b4' hk4'
                    have b4 := Lib.hid b4'
                    have g0 := hk4'.cell 0
                    have g1 := hk4'.cell 1
                    simp at g0 g1
                    go_wp2_with fail
                    try rw [hw4]
                    clear b4' hk4' hw4 e0 e1 f0 f1 b3 hk3 c0 c1
                    have k1 := (b4.out.cell (p := ⟨g, ys.length * 2 + 1, none⟩) HG.out).trans HK1.out
                    have kf := (b4.out.frozen (p := ⟨g, ys.length * 2 + 1, none⟩) HG.out).trans HKF.out
                    go_big_quiet (fail)
                    obtain ⟨w5, hw5⟩ : ∃ w5, w4.drewN nq = w5 := ⟨_, rfl⟩
                    have b5 : Hid (Below wr.heap.size wr w5) := by rw [← hw5]; exact drewN_below b4.out _
                    have g2 : w5.cell? ⟨wr.heap.size, 0, none⟩ = some (.int .i64 u) := by rw [← hw5]; exact g0
                    have g3 : w5.cell? ⟨wr.heap.size, 1, none⟩ = some (.int .i64 v) := by rw [← hw5]; exact g1
                    rw [hw5]
                    clear hw5 g0 g1 b4 k1 kf
                    have ho5 : Hid (OwnR w.heap.size w5 (.slice (some ⟨g, 0, none⟩) n cO) (ys ++ [(x, y)])) := ho.out.below b5.out
                    go_wp2_with (at_builtin; refine push_rng rfl _ _ rfl w.heap.size (.slice (some ⟨g, 0, none⟩) n cO) (ys ++ [(x, y)]) u v w5 rfl ho5.out rfl (by simp; try omega) (Nat.le_trans hsw b5.out.size) ?_)
                    intro v2 w2 o2 b2
                    have o2' : Hid (OwnR w.heap.size w2 v2 (Rg.step (ys ++ [(x, y)]) (u, v))) := by rw [step_apart ys (x, y) (u, v) (by show y + 1 < u; have := hap.out; omega), List.append_assoc]; exact o2
                    have b7 : Hid (Below w.heap.size wr w2) := (b5.out.mono hsw).trans b2
                    have b6 := bw.trans b7.out
                    clear o2 b2
                    go_wp2_with fail
                    go_roundw
                    case rel => exact ⟨t, [], _, _, _, _, rfl, rfl, rfl, b6, HT.out _ b7.out, HO.out _ b7.out, o2', HM2⟩
                    case measure => simp [lenV]; try omega
                  · have hap := Lib.hid h2
                    have hb1 : decide (u ≤ y) = false := decide_eq_false h1
                    have hw := hwt (by omega)
                    have hb2 : (u - 1 == y) = true := by simp; omega
                    have hb3 : decide (u - 1 = y) = true := by simp; omega
                    clear hwu hwt h1 h2 HY hfu
                    go_wp2_with fail
                    obtain ⟨w3, hw3⟩ : ∃ w3, wr.alloc (.cells #[.int .i64 0, .int .i64 0] 26) = w3 := ⟨_, rfl⟩
                    have hk3 : Bk w3 wr.heap.size 26 #[.int .i64 0, .int .i64 0] := by rw [← hw3]; exact Bk.new wr _ _
                    have b3 : Below wr.heap.size wr w3 := by rw [← hw3]; exact (Below.refl _ wr).alloc (Nat.le_refl _) _
                    rw [← b3.cell (p := ad) (by omega)] at c0
                    rw [← b3.cell (p := ⟨ad.block, ad.off + 1, none⟩) (by show ad.block < _; omega)] at c1
                    have e0 := hk3.cell 0
                    have e1 := hk3.cell 1
                    have f0 := hk3.free 0
                    have f1 := hk3.free 1
                    simp at e0 e1
                    rw [hw3]
                    clear hw3
                    go_big_quiet (fail)
                    go_wp2_with fail
                    go_region
                    obtain ⟨b4', hk4'⟩ := boxed (nq := nq + 1) b3 hk3 (.int .i64 u) (.int .i64 v)
                    obtain ⟨w4, hw4⟩ : ∃ w4, ((w3.drewN (nq + 1)).setCell ⟨wr.heap.size, 0, none⟩ (.int .i64 u)).setCell ⟨wr.heap.size, 1, none⟩ (.int .i64 v) = w4 := ⟨_, rfl⟩
                    rw [hw4] at b4' hk4'
                    have b4 := Lib.hid b4'
                    have g0 := hk4'.cell 0
                    have g1 := hk4'.cell 1
                    simp at g0 g1
                    go_wp2_with fail
                    try rw [hw4]
                    clear b4' hk4' hw4 e0 e1 f0 f1 b3 hk3 c0 c1
                    have k1 := (b4.out.cell (p := ⟨g, ys.length * 2 + 1, none⟩) HG.out).trans HK1.out
                    have kf := (b4.out.frozen (p := ⟨g, ys.length * 2 + 1, none⟩) HG.out).trans HKF.out
                    go_big_quiet (fail)
                    obtain ⟨w5, hw5⟩ : ∃ w5, w4.drewN nq = w5 := ⟨_, rfl⟩
                    have b5 : Hid (Below wr.heap.size wr w5) := by rw [← hw5]; exact drewN_below b4.out _
                    have g2 : w5.cell? ⟨wr.heap.size, 0, none⟩ = some (.int .i64 u) := by rw [← hw5]; exact g0
                    have g3 : w5.cell? ⟨wr.heap.size, 1, none⟩ = some (.int .i64 v) := by rw [← hw5]; exact g1
                    have k2 : w5.cell? ⟨g, ys.length * 2 + 1, none⟩ = some (.int .i64 y) := by rw [← hw5]; exact k1
                    have kg : w5.frozen? ⟨g, ys.length * 2 + 1, none⟩ = false := by rw [← hw5]; exact kf
                    rw [hw5]
                    clear hw5 g0 g1 b4 k1 kf
                    have ho5 : Hid (OwnR w.heap.size w5 (.slice (some ⟨g, 0, none⟩) n cO) (ys ++ [(x, y)])) := ho.out.below b5.out
                    go_wp2_with fail
                    go_region
                    obtain ⟨o2, b2⟩ := ho5.out.moved (z := (x, max y v)) rfl
                    have o2' : Hid (OwnR w.heap.size (w5.setCell ⟨g, ys.length * 2 + 1, none⟩ (.int .i64 (max y v))).drew (.slice (some ⟨g, 0, none⟩) n cO) (Rg.step (ys ++ [(x, y)]) (u, v))) := by rw [step_joined ys (x, y) (u, v) (by show ¬ (y + 1 < u); have := hap.out; omega)]; exact o2
                    have b7 : Hid (Below w.heap.size wr (w5.setCell ⟨g, ys.length * 2 + 1, none⟩ (.int .i64 (max y v))).drew) := ((b5.out.mono hsw).trans b2).drew
                    have b6 := bw.trans b7.out
                    clear o2 b2
                    go_wp2_with fail
                    go_roundw
                    case rel => exact ⟨t, [], _, _, _, _, rfl, rfl, rfl, b6, HT.out _ b7.out, HO.out _ b7.out, o2', HM2⟩
                    case measure => simp [lenV]; try omega
            · clear hend
              rcases Bool.eq_false_or_eq_true (decide (p1 ≤ q1)) with hle | hle
              · revert hra hm' hle
                generalize p1 = u
                generalize p2 = v
                intro hra hm' hle
                obtain ⟨hn, hnc, hcm, ad, ea, hlb, c0, c1⟩ := hra.out.first
                subst ea
                obtain ⟨hn', hnc', hcm', bd, eb, hlb', d0, d1⟩ := hrb.out.first
                subst eb
                clear hn' hcm' hnc'
                have hsz : ((s.length : Int) + 1 == 0) = false := by simp; omega
                rw [hn] at hnc
                have hcm2 : cap ≤ 9223372036854775807 := by unfold maxLen at hcm; omega
                clear hn hcm
                have HO : Hid (∀ W, Below w.heap.size wr W → ReadR w.heap.size W (.slice (some bd) ((q1, q2) :: s).length cap') ((q1, q2) :: s)) := fun W h => hrb.out.below h
                have HM2 := Lib.hid (hm'.out.left2 (by simpa using hle))
                have hfu : Fit u := (hm'.out.fa (u, v) (by simp)).1
                by_cases hcap : cap = 1
                · subst hcap
                  obtain rfl : t = [] := List.eq_nil_of_length_eq_zero (by omega)
                  have HT : Hid (∀ W, Below w.heap.size wr W → ReadR w.heap.size W (.slice (some ad) 0 0) []) := fun W h => (hra.out.below h).tail1
                  have hwu : y + 1 < u → wrap64 (u - 1) = u - 1 := fun _ => by unfold Fit at hfu HY; unfold wrap64; omega
                  have hwt : y < u → wrap64 (u - 1) = u - 1 := fun _ => by unfold Fit at hfu HY; unfold wrap64; omega
                  clear hm' hrb hra
                  by_cases h1 : u ≤ y
                  · have hap := Lib.hid (show ¬ (y + 1 < u) by omega)
                    have hb1 : decide (u ≤ y) = true := decide_eq_true h1
                    clear hwu hwt h1 HY hfu
                    go_wp2_with fail
                    obtain ⟨w3, hw3⟩ : ∃ w3, wr.alloc (.cells #[.int .i64 0, .int .i64 0] 26) = w3 := ⟨_, rfl⟩
                    have hk3 : Bk w3 wr.heap.size 26 #[.int .i64 0, .int .i64 0] := by rw [← hw3]; exact Bk.new wr _ _
                    have b3 : Below wr.heap.size wr w3 := by rw [← hw3]; exact (Below.refl _ wr).alloc (Nat.le_refl _) _
                    rw [← b3.cell (p := ad) (by omega)] at c0
                    rw [← b3.cell (p := ⟨ad.block, ad.off + 1, none⟩) (by show ad.block < _; omega)] at c1
                    rw [← b3.cell (p := bd) (by omega)] at d0
                    rw [← b3.cell (p := ⟨bd.block, bd.off + 1, none⟩) (by show bd.block < _; omega)] at d1
                    have e0 := hk3.cell 0
                    have e1 := hk3.cell 1
                    have f0 := hk3.free 0
                    have f1 := hk3.free 1
                    simp at e0 e1
                    rw [hw3]
                    clear hw3
                    go_big_quiet (fail)
                    go_wp2_with fail
                    go_region
                    obtain ⟨b4', hk4'⟩ := boxed (nq := nq + 1) b3 hk3 (.int .i64 u) (.int .i64 v)
                    obtain ⟨w4, hw4⟩ : ∃ w4, ((w3.drewN (nq + 1)).setCell ⟨wr.heap.size, 0, none⟩ (.int .i64 u)).setCell ⟨wr.heap.size, 1, none⟩ (.int .i64 v) = w4 := ⟨_, rfl⟩
                    rw [hw4] at b4' hk4'
                    have b4 := Lib.hid b4'
                    have g0 := hk4'.cell 0
                    have g1 := hk4'.cell 1
                    simp at g0 g1
                    go_wp2_with fail
                    try rw [hw4]
                    clear b4' hk4' hw4 e0 e1 f0 f1 b3 hk3 c0 c1 d0 d1
                    have k1 := (b4.out.cell (p := ⟨g, ys.length * 2 + 1, none⟩) HG.out).trans HK1.out
                    have kf := (b4.out.frozen (p := ⟨g, ys.length * 2 + 1, none⟩) HG.out).trans HKF.out
                    go_big_quiet (fail)
                    obtain ⟨w5, hw5⟩ : ∃ w5, w4.drewN nq = w5 := ⟨_, rfl⟩
                    have b5 : Hid (Below wr.heap.size wr w5) := by rw [← hw5]; exact drewN_below b4.out _
                    have g2 : w5.cell? ⟨wr.heap.size, 0, none⟩ = some (.int .i64 u) := by rw [← hw5]; exact g0
                    have g3 : w5.cell? ⟨wr.heap.size, 1, none⟩ = some (.int .i64 v) := by rw [← hw5]; exact g1
                    have k2 : w5.cell? ⟨g, ys.length * 2 + 1, none⟩ = some (.int .i64 y) := by rw [← hw5]; exact k1
                    have kg : w5.frozen? ⟨g, ys.length * 2 + 1, none⟩ = false := by rw [← hw5]; exact kf
                    rw [hw5]
                    clear hw5 g0 g1 b4 k1 kf
                    have ho5 : Hid (OwnR w.heap.size w5 (.slice (some ⟨g, 0, none⟩) n cO) (ys ++ [(x, y)])) := ho.out.below b5.out
                    go_wp2_with fail
                    go_region
                    obtain ⟨o2, b2⟩ := ho5.out.moved (z := (x, max y v)) rfl
                    have o2' : Hid (OwnR w.heap.size (w5.setCell ⟨g, ys.length * 2 + 1, none⟩ (.int .i64 (max y v))).drew (.slice (some ⟨g, 0, none⟩) n cO) (Rg.step (ys ++ [(x, y)]) (u, v))) := by rw [step_joined ys (x, y) (u, v) (by show ¬ (y + 1 < u); have := hap.out; omega)]; exact o2
                    have b7 : Hid (Below w.heap.size wr (w5.setCell ⟨g, ys.length * 2 + 1, none⟩ (.int .i64 (max y v))).drew) := ((b5.out.mono hsw).trans b2).drew
                    have b6 := bw.trans b7.out
                    clear o2 b2
                    go_wp2_with fail
                    go_roundw
                    case rel => exact ⟨[], ((q1, q2) :: s), _, _, _, _, rfl, rfl, rfl, b6, HT.out _ b7.out, HO.out _ b7.out, o2', HM2⟩
                    case measure => simp [lenV]; try omega
                  · by_cases h2 : y + 1 < u
                    · have hap := Lib.hid h2
                      have hb1 : decide (u ≤ y) = false := decide_eq_false h1
                      have hw := hwt (by omega)
                      have hb2 : (u - 1 == y) = false := by simp; omega
                      have hb3 : decide (u - 1 = y) = false := by simp; omega
                      clear hwu hwt h1 h2 HY hfu
                      go_wp2_with fail
                      obtain ⟨w3, hw3⟩ : ∃ w3, wr.alloc (.cells #[.int .i64 0, .int .i64 0] 26) = w3 := ⟨_, rfl⟩
                      have hk3 : Bk w3 wr.heap.size 26 #[.int .i64 0, .int .i64 0] := by rw [← hw3]; exact Bk.new wr _ _
                      have b3 : Below wr.heap.size wr w3 := by rw [← hw3]; exact (Below.refl _ wr).alloc (Nat.le_refl _) _
                      rw [← b3.cell (p := ad) (by omega)] at c0
                      rw [← b3.cell (p := ⟨ad.block, ad.off + 1, none⟩) (by show ad.block < _; omega)] at c1
                      rw [← b3.cell (p := bd) (by omega)] at d0
                      rw [← b3.cell (p := ⟨bd.block, bd.off + 1, none⟩) (by show bd.block < _; omega)] at d1
                      have e0 := hk3.cell 0
                      have e1 := hk3.cell 1
                      have f0 := hk3.free 0
                      have f1 := hk3.free 1
                      simp at e0 e1
                      rw [hw3]
                      clear hw3
                      go_big_quiet (fail)
                      go_wp2_with fail
                      go_region
                      obtain ⟨b4', hk4'⟩ := boxed (nq := nq + 1) b3 hk3 (.int .i64 u) (.int .i64 v)
                      obtain ⟨w4, hw4⟩ : ∃ w4, ((w3.drewN (nq + 1)).setCell ⟨wr.heap.size, 0, none⟩ (.int .i64 u)).setCell ⟨wr.heap.size, 1, none⟩ (.int .i64 v) = w4 := ⟨_, rfl⟩
                      rw [hw4] at b4' hk4'
                      have b4 := Lib.hid b4'
                      have g0 := hk4'.cell 0
                      have g1 := hk4'.cell 1
                      simp at g0 g1
                      go_wp2_with fail
                      try rw [hw4]
                      clear b4' hk4' hw4 e0 e1 f0 f1 b3 hk3 c0 c1 d0 d1
                      have k1 := (b4.out.cell (p := ⟨g, ys.length * 2 + 1, none⟩) HG.out).trans HK1.out
                      have kf := (b4.out.frozen (p := ⟨g, ys.length * 2 + 1, none⟩) HG.out).trans HKF.out
                      go_big_quiet (fail)
                      obtain ⟨w5, hw5⟩ : ∃ w5, w4.drewN nq = w5 := ⟨_, rfl⟩
                      have b5 : Hid (Below wr.heap.size wr w5) := by rw [← hw5]; exact drewN_below b4.out _
                      have g2 : w5.cell? ⟨wr.heap.size, 0, none⟩ = some (.int .i64 u) := by rw [← hw5]; exact g0
                      have g3 : w5.cell? ⟨wr.heap.size, 1, none⟩ = some (.int .i64 v) := by rw [← hw5]; exact g1
                      rw [hw5]
                      clear hw5 g0 g1 b4 k1 kf
                      have ho5 : Hid (OwnR w.heap.size w5 (.slice (some ⟨g, 0, none⟩) n cO) (ys ++ [(x, y)])) := ho.out.below b5.out
                      go_wp2_with (at_builtin; refine push_rng rfl _ _ rfl w.heap.size (.slice (some ⟨g, 0, none⟩) n cO) (ys ++ [(x, y)]) u v w5 rfl ho5.out rfl (by simp; try omega) (Nat.le_trans hsw b5.out.size) ?_)
                      intro v2 w2 o2 b2
                      have o2' : Hid (OwnR w.heap.size w2 v2 (Rg.step (ys ++ [(x, y)]) (u, v))) := by rw [step_apart ys (x, y) (u, v) (by show y + 1 < u; have := hap.out; omega), List.append_assoc]; exact o2
                      have b7 : Hid (Below w.heap.size wr w2) := (b5.out.mono hsw).trans b2
                      have b6 := bw.trans b7.out
                      clear o2 b2
                      go_wp2_with fail
                      go_roundw
                      case rel => exact ⟨[], ((q1, q2) :: s), _, _, _, _, rfl, rfl, rfl, b6, HT.out _ b7.out, HO.out _ b7.out, o2', HM2⟩
                      case measure => simp [lenV]; try omega
                    · have hap := Lib.hid h2
                      have hb1 : decide (u ≤ y) = false := decide_eq_false h1
                      have hw := hwt (by omega)
                      have hb2 : (u - 1 == y) = true := by simp; omega
                      have hb3 : decide (u - 1 = y) = true := by simp; omega
                      clear hwu hwt h1 h2 HY hfu
                      go_wp2_with fail
                      obtain ⟨w3, hw3⟩ : ∃ w3, wr.alloc (.cells #[.int .i64 0, .int .i64 0] 26) = w3 := ⟨_, rfl⟩
                      have hk3 : Bk w3 wr.heap.size 26 #[.int .i64 0, .int .i64 0] := by rw [← hw3]; exact Bk.new wr _ _
                      have b3 : Below wr.heap.size wr w3 := by rw [← hw3]; exact (Below.refl _ wr).alloc (Nat.le_refl _) _
                      rw [← b3.cell (p := ad) (by omega)] at c0
                      rw [← b3.cell (p := ⟨ad.block, ad.off + 1, none⟩) (by show ad.block < _; omega)] at c1
                      rw [← b3.cell (p := bd) (by omega)] at d0
                      rw [← b3.cell (p := ⟨bd.block, bd.off + 1, none⟩) (by show bd.block < _; omega)] at d1
                      have e0 := hk3.cell 0
                      have e1 := hk3.cell 1
                      have f0 := hk3.free 0
                      have f1 := hk3.free 1
                      simp at e0 e1
                      rw [hw3]
                      clear hw3
                      go_big_quiet (fail)
                      go_wp2_with fail
                      go_region
                      obtain ⟨b4', hk4'⟩ := boxed (nq := nq + 1) b3 hk3 (.int .i64 u) (.int .i64 v)
                      obtain ⟨w4, hw4⟩ : ∃ w4, ((w3.drewN (nq + 1)).setCell ⟨wr.heap.size, 0, none⟩ (.int .i64 u)).setCell ⟨wr.heap.size, 1, none⟩ (.int .i64 v) = w4 := ⟨_, rfl⟩
                      rw [hw4] at b4' hk4'
                      have b4 := Lib.hid b4'
                      have g0 := hk4'.cell 0
                      have g1 := hk4'.cell 1
                      simp at g0 g1
                      go_wp2_with fail
                      try rw [hw4]
                      clear b4' hk4' hw4 e0 e1 f0 f1 b3 hk3 c0 c1 d0 d1
                      have k1 := (b4.out.cell (p := ⟨g, ys.length * 2 + 1, none⟩) HG.out).trans HK1.out
                      have kf := (b4.out.frozen (p := ⟨g, ys.length * 2 + 1, none⟩) HG.out).trans HKF.out
                      go_big_quiet (fail)
                      obtain ⟨w5, hw5⟩ : ∃ w5, w4.drewN nq = w5 := ⟨_, rfl⟩
                      have b5 : Hid (Below wr.heap.size wr w5) := by rw [← hw5]; exact drewN_below b4.out _
                      have g2 : w5.cell? ⟨wr.heap.size, 0, none⟩ = some (.int .i64 u) := by rw [← hw5]; exact g0
                      have g3 : w5.cell? ⟨wr.heap.size, 1, none⟩ = some (.int .i64 v) := by rw [← hw5]; exact g1
                      have k2 : w5.cell? ⟨g, ys.length * 2 + 1, none⟩ = some (.int .i64 y) := by rw [← hw5]; exact k1
                      have kg : w5.frozen? ⟨g, ys.length * 2 + 1, none⟩ = false := by rw [← hw5]; exact kf
                      rw [hw5]
                      clear hw5 g0 g1 b4 k1 kf
                      have ho5 : Hid (OwnR w.heap.size w5 (.slice (some ⟨g, 0, none⟩) n cO) (ys ++ [(x, y)])) := ho.out.below b5.out
                      go_wp2_with fail
                      go_region
                      obtain ⟨o2, b2⟩ := ho5.out.moved (z := (x, max y v)) rfl
                      have o2' : Hid (OwnR w.heap.size (w5.setCell ⟨g, ys.length * 2 + 1, none⟩ (.int .i64 (max y v))).drew (.slice (some ⟨g, 0, none⟩) n cO) (Rg.step (ys ++ [(x, y)]) (u, v))) := by rw [step_joined ys (x, y) (u, v) (by show ¬ (y + 1 < u); have := hap.out; omega)]; exact o2
                      have b7 : Hid (Below w.heap.size wr (w5.setCell ⟨g, ys.length * 2 + 1, none⟩ (.int .i64 (max y v))).drew) := ((b5.out.mono hsw).trans b2).drew
                      have b6 := bw.trans b7.out
                      clear o2 b2
                      go_wp2_with fail
                      go_roundw
                      case rel => exact ⟨[], ((q1, q2) :: s), _, _, _, _, rfl, rfl, rfl, b6, HT.out _ b7.out, HO.out _ b7.out, o2', HM2⟩
                      case measure => simp [lenV]; try omega
                · have HT : Hid (∀ W, Below w.heap.size wr W → ReadR w.heap.size W (.slice (some ⟨ad.block, ad.off + 2, none⟩) t.length (cap - 1)) t) := fun W h => (hra.out.below h).tail2
                  have hwu : y + 1 < u → wrap64 (u - 1) = u - 1 := fun _ => by unfold Fit at hfu HY; unfold wrap64; omega
                  have hwt : y < u → wrap64 (u - 1) = u - 1 := fun _ => by unfold Fit at hfu HY; unfold wrap64; omega
                  clear hm' hrb hra
                  by_cases h1 : u ≤ y
                  · have hap := Lib.hid (show ¬ (y + 1 < u) by omega)
                    have hb1 : decide (u ≤ y) = true := decide_eq_true h1
                    clear hwu hwt h1 HY hfu
                    go_wp2_with fail
                    obtain ⟨w3, hw3⟩ : ∃ w3, wr.alloc (.cells #[.int .i64 0, .int .i64 0] 26) = w3 := ⟨_, rfl⟩
                    have hk3 : Bk w3 wr.heap.size 26 #[.int .i64 0, .int .i64 0] := by rw [← hw3]; exact Bk.new wr _ _
                    have b3 : Below wr.heap.size wr w3 := by rw [← hw3]; exact (Below.refl _ wr).alloc (Nat.le_refl _) _
                    rw [← b3.cell (p := ad) (by omega)] at c0
                    rw [← b3.cell (p := ⟨ad.block, ad.off + 1, none⟩) (by show ad.block < _; omega)] at c1
                    rw [← b3.cell (p := bd) (by omega)] at d0
                    rw [← b3.cell (p := ⟨bd.block, bd.off + 1, none⟩) (by show bd.block < _; omega)] at d1
                    have e0 := hk3.cell 0
                    have e1 := hk3.cell 1
                    have f0 := hk3.free 0
                    have f1 := hk3.free 1
                    simp at e0 e1
                    rw [hw3]
                    clear hw3
                    go_big_quiet (fail)
                    go_wp2_with fail
                    go_region
                    obtain ⟨b4', hk4'⟩ := boxed (nq := nq + 1) b3 hk3 (.int .i64 u) (.int .i64 v)
                    obtain ⟨w4, hw4⟩ : ∃ w4, ((w3.drewN (nq + 1)).setCell ⟨wr.heap.size, 0, none⟩ (.int .i64 u)).setCell ⟨wr.heap.size, 1, none⟩ (.int .i64 v) = w4 := ⟨_, rfl⟩
                    rw [hw4] at b4' hk4'
                    have b4 := Lib.hid b4'
                    have g0 := hk4'.cell 0
                    have g1 := hk4'.cell 1
                    simp at g0 g1
                    go_wp2_with fail
                    try rw [hw4]
                    clear b4' hk4' hw4 e0 e1 f0 f1 b3 hk3 c0 c1 d0 d1
                    have k1 := (b4.out.cell (p := ⟨g, ys.length * 2 + 1, none⟩) HG.out).trans HK1.out
                    have kf := (b4.out.frozen (p := ⟨g, ys.length * 2 + 1, none⟩) HG.out).trans HKF.out
                    go_big_quiet (fail)
                    obtain ⟨w5, hw5⟩ : ∃ w5, w4.drewN nq = w5 := ⟨_, rfl⟩
                    have b5 : Hid (Below wr.heap.size wr w5) := by rw [← hw5]; exact drewN_below b4.out _
                    have g2 : w5.cell? ⟨wr.heap.size, 0, none⟩ = some (.int .i64 u) := by rw [← hw5]; exact g0
                    have g3 : w5.cell? ⟨wr.heap.size, 1, none⟩ = some (.int .i64 v) := by rw [← hw5]; exact g1
                    have k2 : w5.cell? ⟨g, ys.length * 2 + 1, none⟩ = some (.int .i64 y) := by rw [← hw5]; exact k1
                    have kg : w5.frozen? ⟨g, ys.length * 2 + 1, none⟩ = false := by rw [← hw5]; exact kf
                    rw [hw5]
                    clear hw5 g0 g1 b4 k1 kf
                    have ho5 : Hid (OwnR w.heap.size w5 (.slice (some ⟨g, 0, none⟩) n cO) (ys ++ [(x, y)])) := ho.out.below b5.out
                    go_wp2_with fail
                    go_region
                    obtain ⟨o2, b2⟩ := ho5.out.moved (z := (x, max y v)) rfl
                    have o2' : Hid (OwnR w.heap.size (w5.setCell ⟨g, ys.length * 2 + 1, none⟩ (.int .i64 (max y v))).drew (.slice (some ⟨g, 0, none⟩) n cO) (Rg.step (ys ++ [(x, y)]) (u, v))) := by rw [step_joined ys (x, y) (u, v) (by show ¬ (y + 1 < u); have := hap.out; omega)]; exact o2
                    have b7 : Hid (Below w.heap.size wr (w5.setCell ⟨g, ys.length * 2 + 1, none⟩ (.int .i64 (max y v))).drew) := ((b5.out.mono hsw).trans b2).drew
                    have b6 := bw.trans b7.out
                    clear o2 b2
                    go_wp2_with fail
                    go_roundw
                    case rel => exact ⟨t, ((q1, q2) :: s), _, _, _, _, rfl, rfl, rfl, b6, HT.out _ b7.out, HO.out _ b7.out, o2', HM2⟩
                    case measure => simp [lenV]; try omega
                  · by_cases h2 : y + 1 < u
                    · have hap := Lib.hid h2
                      have hb1 : decide (u ≤ y) = false := decide_eq_false h1
                      have hw := hwt (by omega)
                      have hb2 : (u - 1 == y) = false := by simp; omega
                      have hb3 : decide (u - 1 = y) = false := by simp; omega
                      clear hwu hwt h1 h2 HY hfu
                      go_wp2_with fail
                      obtain ⟨w3, hw3⟩ : ∃ w3, wr.alloc (.cells #[.int .i64 0, .int .i64 0] 26) = w3 := ⟨_, rfl⟩
                      have hk3 : Bk w3 wr.heap.size 26 #[.int .i64 0, .int .i64 0] := by rw [← hw3]; exact Bk.new wr _ _
                      have b3 : Below wr.heap.size wr w3 := by rw [← hw3]; exact (Below.refl _ wr).alloc (Nat.le_refl _) _
                      rw [← b3.cell (p := ad) (by omega)] at c0
                      rw [← b3.cell (p := ⟨ad.block, ad.off + 1, none⟩) (by show ad.block < _; omega)] at c1
                      rw [← b3.cell (p := bd) (by omega)] at d0
                      rw [← b3.cell (p := ⟨bd.block, bd.off + 1, none⟩) (by show bd.block < _; omega)] at d1
                      have e0 := hk3.cell 0
                      have e1 := hk3.cell 1
                      have f0 := hk3.free 0
                      have f1 := hk3.free 1
                      simp at e0 e1
                      rw [hw3]
                      clear hw3
                      go_big_quiet (fail)
                      go_wp2_with fail
                      go_region
                      obtain ⟨b4', hk4'⟩ := boxed (nq := nq + 1) b3 hk3 (.int .i64 u) (.int .i64 v)
                      obtain ⟨w4, hw4⟩ : ∃ w4, ((w3.drewN (nq + 1)).setCell ⟨wr.heap.size, 0, none⟩ (.int .i64 u)).setCell ⟨wr.heap.size, 1, none⟩ (.int .i64 v) = w4 := ⟨_, rfl⟩
                      rw [hw4] at b4' hk4'
                      have b4 := Lib.hid b4'
                      have g0 := hk4'.cell 0
                      have g1 := hk4'.cell 1
                      simp at g0 g1
                      go_wp2_with fail
                      try rw [hw4]
                      clear b4' hk4' hw4 e0 e1 f0 f1 b3 hk3 c0 c1 d0 d1
                      have k1 := (b4.out.cell (p := ⟨g, ys.length * 2 + 1, none⟩) HG.out).trans HK1.out
                      have kf := (b4.out.frozen (p := ⟨g, ys.length * 2 + 1, none⟩) HG.out).trans HKF.out
                      go_big_quiet (fail)
                      obtain ⟨w5, hw5⟩ : ∃ w5, w4.drewN nq = w5 := ⟨_, rfl⟩
                      have b5 : Hid (Below wr.heap.size wr w5) := by rw [← hw5]; exact drewN_below b4.out _
                      have g2 : w5.cell? ⟨wr.heap.size, 0, none⟩ = some (.int .i64 u) := by rw [← hw5]; exact g0
                      have g3 : w5.cell? ⟨wr.heap.size, 1, none⟩ = some (.int .i64 v) := by rw [← hw5]; exact g1
                      rw [hw5]
                      clear hw5 g0 g1 b4 k1 kf
                      have ho5 : Hid (OwnR w.heap.size w5 (.slice (some ⟨g, 0, none⟩) n cO) (ys ++ [(x, y)])) := ho.out.below b5.out
                      go_wp2_with (at_builtin; refine push_rng rfl _ _ rfl w.heap.size (.slice (some ⟨g, 0, none⟩) n cO) (ys ++ [(x, y)]) u v w5 rfl ho5.out rfl (by simp; try omega) (Nat.le_trans hsw b5.out.size) ?_)
                      intro v2 w2 o2 b2
                      have o2' : Hid (OwnR w.heap.size w2 v2 (Rg.step (ys ++ [(x, y)]) (u, v))) := by rw [step_apart ys (x, y) (u, v) (by show y + 1 < u; have := hap.out; omega), List.append_assoc]; exact o2
                      have b7 : Hid (Below w.heap.size wr w2) := (b5.out.mono hsw).trans b2
                      have b6 := bw.trans b7.out
                      clear o2 b2
                      go_wp2_with fail
                      go_roundw
                      case rel => exact ⟨t, ((q1, q2) :: s), _, _, _, _, rfl, rfl, rfl, b6, HT.out _ b7.out, HO.out _ b7.out, o2', HM2⟩
                      case measure => simp [lenV]; try omega
                    · have hap := Lib.hid h2
                      have hb1 : decide (u ≤ y) = false := decide_eq_false h1
                      have hw := hwt (by omega)
                      have hb2 : (u - 1 == y) = true := by simp; omega
                      have hb3 : decide (u - 1 = y) = true := by simp; omega
                      clear hwu hwt h1 h2 HY hfu
                      go_wp2_with fail
                      obtain ⟨w3, hw3⟩ : ∃ w3, wr.alloc (.cells #[.int .i64 0, .int .i64 0] 26) = w3 := ⟨_, rfl⟩
                      have hk3 : Bk w3 wr.heap.size 26 #[.int .i64 0, .int .i64 0] := by rw [← hw3]; exact Bk.new wr _ _
                      have b3 : Below wr.heap.size wr w3 := by rw [← hw3]; exact (Below.refl _ wr).alloc (Nat.le_refl _) _
                      rw [← b3.cell (p := ad) (by omega)] at c0
                      rw [← b3.cell (p := ⟨ad.block, ad.off + 1, none⟩) (by show ad.block < _; omega)] at c1
                      rw [← b3.cell (p := bd) (by omega)] at d0
                      rw [← b3.cell (p := ⟨bd.block, bd.off + 1, none⟩) (by show bd.block < _; omega)] at d1
                      have e0 := hk3.cell 0
                      have e1 := hk3.cell 1
                      have f0 := hk3.free 0
                      have f1 := hk3.free 1
                      simp at e0 e1
                      rw [hw3]
                      clear hw3
                      go_big_quiet (fail)
                      go_wp2_with fail
                      go_region
                      obtain ⟨b4', hk4'⟩ := boxed (nq := nq + 1) b3 hk3 (.int .i64 u) (.int .i64 v)
                      obtain ⟨w4, hw4⟩ : ∃ w4, ((w3.drewN (nq + 1)).setCell ⟨wr.heap.size, 0, none⟩ (.int .i64 u)).setCell ⟨wr.heap.size, 1, none⟩ (.int .i64 v) = w4 := ⟨_, rfl⟩
                      rw [hw4] at b4' hk4'
                      have b4 := Lib.hid b4'
                      have g0 := hk4'.cell 0
                      have g1 := hk4'.cell 1
                      simp at g0 g1
                      go_wp2_with fail
                      try rw [hw4]
                      clear b4' hk4' hw4 e0 e1 f0 f1 b3 hk3 c0 c1 d0 d1
                      have k1 := (b4.out.cell (p := ⟨g, ys.length * 2 + 1, none⟩) HG.out).trans HK1.out
                      have kf := (b4.out.frozen (p := ⟨g, ys.length * 2 + 1, none⟩) HG.out).trans HKF.out
                      go_big_quiet (fail)
                      obtain ⟨w5, hw5⟩ : ∃ w5, w4.drewN nq = w5 := ⟨_, rfl⟩
                      have b5 : Hid (Below wr.heap.size wr w5) := by rw [← hw5]; exact drewN_below b4.out _
                      have g2 : w5.cell? ⟨wr.heap.size, 0, none⟩ = some (.int .i64 u) := by rw [← hw5]; exact g0
                      have g3 : w5.cell? ⟨wr.heap.size, 1, none⟩ = some (.int .i64 v) := by rw [← hw5]; exact g1
                      have k2 : w5.cell? ⟨g, ys.length * 2 + 1, none⟩ = some (.int .i64 y) := by rw [← hw5]; exact k1
                      have kg : w5.frozen? ⟨g, ys.length * 2 + 1, none⟩ = false := by rw [← hw5]; exact kf
                      rw [hw5]
                      clear hw5 g0 g1 b4 k1 kf
                      have ho5 : Hid (OwnR w.heap.size w5 (.slice (some ⟨g, 0, none⟩) n cO) (ys ++ [(x, y)])) := ho.out.below b5.out
                      go_wp2_with fail
                      go_region
                      obtain ⟨o2, b2⟩ := ho5.out.moved (z := (x, max y v)) rfl
                      have o2' : Hid (OwnR w.heap.size (w5.setCell ⟨g, ys.length * 2 + 1, none⟩ (.int .i64 (max y v))).drew (.slice (some ⟨g, 0, none⟩) n cO) (Rg.step (ys ++ [(x, y)]) (u, v))) := by rw [step_joined ys (x, y) (u, v) (by show ¬ (y + 1 < u); have := hap.out; omega)]; exact o2
                      have b7 : Hid (Below w.heap.size wr (w5.setCell ⟨g, ys.length * 2 + 1, none⟩ (.int .i64 (max y v))).drew) := ((b5.out.mono hsw).trans b2).drew
                      have b6 := bw.trans b7.out
                      clear o2 b2
                      go_wp2_with fail
                      go_roundw
                      case rel => exact ⟨t, ((q1, q2) :: s), _, _, _, _, rfl, rfl, rfl, b6, HT.out _ b7.out, HO.out _ b7.out, o2', HM2⟩
                      case measure => simp [lenV]; try omega
              · revert hrb hm' hle
                generalize q1 = u
                generalize q2 = v
                intro hrb hm' hle
                obtain ⟨hn, hnc, hcm, ad, ea, hlb, c0, c1⟩ := hrb.out.first
                subst ea
                obtain ⟨hn', hnc', hcm', bd, eb, hlb', d0, d1⟩ := hra.out.first
                subst eb
                clear hn' hcm' hnc'
                have hsz : ((s.length : Int) + 1 == 0) = false := by simp; omega
                rw [hn] at hnc
                have hcm2 : cap' ≤ 9223372036854775807 := by unfold maxLen at hcm; omega
                clear hn hcm
                have HO : Hid (∀ W, Below w.heap.size wr W → ReadR w.heap.size W (.slice (some bd) ((p1, p2) :: t).length cap) ((p1, p2) :: t)) := fun W h => hra.out.below h
                have HM2 := Lib.hid (hm'.out.right2 (by simpa using hle))
                have hfu : Fit u := (hm'.out.fb (u, v) (by simp)).1
                by_cases hcap : cap' = 1
                · subst hcap
                  obtain rfl : s = [] := List.eq_nil_of_length_eq_zero (by omega)
                  have HT : Hid (∀ W, Below w.heap.size wr W → ReadR w.heap.size W (.slice (some ad) 0 0) []) := fun W h => (hrb.out.below h).tail1
                  have hwu : y + 1 < u → wrap64 (u - 1) = u - 1 := fun _ => by unfold Fit at hfu HY; unfold wrap64; omega
                  have hwt : y < u → wrap64 (u - 1) = u - 1 := fun _ => by unfold Fit at hfu HY; unfold wrap64; omega
                  clear hm' hrb hra
                  by_cases h1 : u ≤ y
                  · have hap := Lib.hid (show ¬ (y + 1 < u) by omega)
                    have hb1 : decide (u ≤ y) = true := decide_eq_true h1
                    clear hwu hwt h1 HY hfu
                    go_wp2_with fail
                    obtain ⟨w3, hw3⟩ : ∃ w3, wr.alloc (.cells #[.int .i64 0, .int .i64 0] 26) = w3 := ⟨_, rfl⟩
                    have hk3 : Bk w3 wr.heap.size 26 #[.int .i64 0, .int .i64 0] := by rw [← hw3]; exact Bk.new wr _ _
                    have b3 : Below wr.heap.size wr w3 := by rw [← hw3]; exact (Below.refl _ wr).alloc (Nat.le_refl _) _
                    rw [← b3.cell (p := ad) (by omega)] at c0
                    rw [← b3.cell (p := ⟨ad.block, ad.off + 1, none⟩) (by show ad.block < _; omega)] at c1
                    rw [← b3.cell (p := bd) (by omega)] at d0
                    rw [← b3.cell (p := ⟨bd.block, bd.off + 1, none⟩) (by show bd.block < _; omega)] at d1
                    have e0 := hk3.cell 0
                    have e1 := hk3.cell 1
                    have f0 := hk3.free 0
                    have f1 := hk3.free 1
                    simp at e0 e1
                    rw [hw3]
                    clear hw3
                    go_big_quiet (fail)
                    go_wp2_with fail
                    go_region
                    obtain ⟨b4', hk4'⟩ := boxed (nq := nq + 1) b3 hk3 (.int .i64 u) (.int .i64 v)
                    obtain ⟨w4, hw4⟩ : ∃ w4, ((w3.drewN (nq + 1)).setCell ⟨wr.heap.size, 0, none⟩ (.int .i64 u)).setCell ⟨wr.heap.size, 1, none⟩ (.int .i64 v) = w4 := ⟨_, rfl⟩
                    rw [hw4] at b4' hk4'
                    have b4 := Lib.hid b4'
                    have g0 := hk4'.cell 0
                    have g1 := hk4'.cell 1
                    simp at g0 g1
                    go_wp2_with fail
                    try rw [hw4]
                    clear b4' hk4' hw4 e0 e1 f0 f1 b3 hk3 c0 c1 d0 d1
                    have k1 := (b4.out.cell (p := ⟨g, ys.length * 2 + 1, none⟩) HG.out).trans HK1.out
                    have kf := (b4.out.frozen (p := ⟨g, ys.length * 2 + 1, none⟩) HG.out).trans HKF.out
                    go_big_quiet (fail)
                    obtain ⟨w5, hw5⟩ : ∃ w5, w4.drewN nq = w5 := ⟨_, rfl⟩
                    have b5 : Hid (Below wr.heap.size wr w5) := by rw [← hw5]; exact drewN_below b4.out _
                    have g2 : w5.cell? ⟨wr.heap.size, 0, none⟩ = some (.int .i64 u) := by rw [← hw5]; exact g0
                    have g3 : w5.cell? ⟨wr.heap.size, 1, none⟩ = some (.int .i64 v) := by rw [← hw5]; exact g1
                    have k2 : w5.cell? ⟨g, ys.length * 2 + 1, none⟩ = some (.int .i64 y) := by rw [← hw5]; exact k1
                    have kg : w5.frozen? ⟨g, ys.length * 2 + 1, none⟩ = false := by rw [← hw5]; exact kf
                    rw [hw5]
                    clear hw5 g0 g1 b4 k1 kf
                    have ho5 : Hid (OwnR w.heap.size w5 (.slice (some ⟨g, 0, none⟩) n cO) (ys ++ [(x, y)])) := ho.out.below b5.out
                    go_wp2_with fail
                    go_region
                    obtain ⟨o2, b2⟩ := ho5.out.moved (z := (x, max y v)) rfl
                    have o2' : Hid (OwnR w.heap.size (w5.setCell ⟨g, ys.length * 2 + 1, none⟩ (.int .i64 (max y v))).drew (.slice (some ⟨g, 0, none⟩) n cO) (Rg.step (ys ++ [(x, y)]) (u, v))) := by rw [step_joined ys (x, y) (u, v) (by show ¬ (y + 1 < u); have := hap.out; omega)]; exact o2
                    have b7 : Hid (Below w.heap.size wr (w5.setCell ⟨g, ys.length * 2 + 1, none⟩ (.int .i64 (max y v))).drew) := ((b5.out.mono hsw).trans b2).drew
                    have b6 := bw.trans b7.out
                    clear o2 b2
                    go_wp2_with fail
                    go_roundw
                    case rel => exact ⟨((p1, p2) :: t), [], _, _, _, _, rfl, rfl, rfl, b6, HO.out _ b7.out, HT.out _ b7.out, o2', HM2⟩
                    case measure => simp [lenV]; try omega
                  · by_cases h2 : y + 1 < u
                    · have hap := Lib.hid h2
                      have hb1 : decide (u ≤ y) = false := decide_eq_false h1
                      have hw := hwt (by omega)
                      have hb2 : (u - 1 == y) = false := by simp; omega
                      have hb3 : decide (u - 1 = y) = false := by simp; omega
                      clear hwu hwt h1 h2 HY hfu
                      go_wp2_with fail
                      obtain ⟨w3, hw3⟩ : ∃ w3, wr.alloc (.cells #[.int .i64 0, .int .i64 0] 26) = w3 := ⟨_, rfl⟩
                      have hk3 : Bk w3 wr.heap.size 26 #[.int .i64 0, .int .i64 0] := by rw [← hw3]; exact Bk.new wr _ _
                      have b3 : Below wr.heap.size wr w3 := by rw [← hw3]; exact (Below.refl _ wr).alloc (Nat.le_refl _) _
                      rw [← b3.cell (p := ad) (by omega)] at c0
                      rw [← b3.cell (p := ⟨ad.block, ad.off + 1, none⟩) (by show ad.block < _; omega)] at c1
                      rw [← b3.cell (p := bd) (by omega)] at d0
                      rw [← b3.cell (p := ⟨bd.block, bd.off + 1, none⟩) (by show bd.block < _; omega)] at d1
                      have e0 := hk3.cell 0
                      have e1 := hk3.cell 1
                      have f0 := hk3.free 0
                      have f1 := hk3.free 1
                      simp at e0 e1
                      rw [hw3]
                      clear hw3
                      go_big_quiet (fail)
                      go_wp2_with fail
                      go_region
                      obtain ⟨b4', hk4'⟩ := boxed (nq := nq + 1) b3 hk3 (.int .i64 u) (.int .i64 v)
                      obtain ⟨w4, hw4⟩ : ∃ w4, ((w3.drewN (nq + 1)).setCell ⟨wr.heap.size, 0, none⟩ (.int .i64 u)).setCell ⟨wr.heap.size, 1, none⟩ (.int .i64 v) = w4 := ⟨_, rfl⟩
                      rw [hw4] at b4' hk4'
                      have b4 := Lib.hid b4'
                      have g0 := hk4'.cell 0
                      have g1 := hk4'.cell 1
                      simp at g0 g1
                      go_wp2_with fail
                      try rw [hw4]
                      clear b4' hk4' hw4 e0 e1 f0 f1 b3 hk3 c0 c1 d0 d1
                      have k1 := (b4.out.cell (p := ⟨g, ys.length * 2 + 1, none⟩) HG.out).trans HK1.out
                      have kf := (b4.out.frozen (p := ⟨g, ys.length * 2 + 1, none⟩) HG.out).trans HKF.out
                      go_big_quiet (fail)
                      obtain ⟨w5, hw5⟩ : ∃ w5, w4.drewN nq = w5 := ⟨_, rfl⟩
                      have b5 : Hid (Below wr.heap.size wr w5) := by rw [← hw5]; exact drewN_below b4.out _
                      have g2 : w5.cell? ⟨wr.heap.size, 0, none⟩ = some (.int .i64 u) := by rw [← hw5]; exact g0
                      have g3 : w5.cell? ⟨wr.heap.size, 1, none⟩ = some (.int .i64 v) := by rw [← hw5]; exact g1
                      rw [hw5]
                      clear hw5 g0 g1 b4 k1 kf
                      have ho5 : Hid (OwnR w.heap.size w5 (.slice (some ⟨g, 0, none⟩) n cO) (ys ++ [(x, y)])) := ho.out.below b5.out
                      go_wp2_with (at_builtin; refine push_rng rfl _ _ rfl w.heap.size (.slice (some ⟨g, 0, none⟩) n cO) (ys ++ [(x, y)]) u v w5 rfl ho5.out rfl (by simp; try omega) (Nat.le_trans hsw b5.out.size) ?_)
                      intro v2 w2 o2 b2
                      have o2' : Hid (OwnR w.heap.size w2 v2 (Rg.step (ys ++ [(x, y)]) (u, v))) := by rw [step_apart ys (x, y) (u, v) (by show y + 1 < u; have := hap.out; omega), List.append_assoc]; exact o2
                      have b7 : Hid (Below w.heap.size wr w2) := (b5.out.mono hsw).trans b2
                      have b6 := bw.trans b7.out
                      clear o2 b2
                      go_wp2_with fail
                      go_roundw
                      case rel => exact ⟨((p1, p2) :: t), [], _, _, _, _, rfl, rfl, rfl, b6, HO.out _ b7.out, HT.out _ b7.out, o2', HM2⟩
                      case measure => simp [lenV]; try omega
                    · have hap := Lib.hid h2
                      have hb1 : decide (u ≤ y) = false := decide_eq_false h1
                      have hw := hwt (by omega)
                      have hb2 : (u - 1 == y) = true := by simp; omega
                      have hb3 : decide (u - 1 = y) = true := by simp; omega
                      clear hwu hwt h1 h2 HY hfu
                      go_wp2_with fail
                      obtain ⟨w3, hw3⟩ : ∃ w3, wr.alloc (.cells #[.int .i64 0, .int .i64 0] 26) = w3 := ⟨_, rfl⟩
                      have hk3 : Bk w3 wr.heap.size 26 #[.int .i64 0, .int .i64 0] := by rw [← hw3]; exact Bk.new wr _ _
                      have b3 : Below wr.heap.size wr w3 := by rw [← hw3]; exact (Below.refl _ wr).alloc (Nat.le_refl _) _
                      rw [← b3.cell (p := ad) (by omega)] at c0
                      rw [← b3.cell (p := ⟨ad.block, ad.off + 1, none⟩) (by show ad.block < _; omega)] at c1
                      rw [← b3.cell (p := bd) (by omega)] at d0
                      rw [← b3.cell (p := ⟨bd.block, bd.off + 1, none⟩) (by show bd.block < _; omega)] at d1
                      have e0 := hk3.cell 0
                      have e1 := hk3.cell 1
                      have f0 := hk3.free 0
                      have f1 := hk3.free 1
                      simp at e0 e1
                      rw [hw3]
                      clear hw3
                      go_big_quiet (fail)
                      go_wp2_with fail
                      go_region
                      obtain ⟨b4', hk4'⟩ := boxed (nq := nq + 1) b3 hk3 (.int .i64 u) (.int .i64 v)
                      obtain ⟨w4, hw4⟩ : ∃ w4, ((w3.drewN (nq + 1)).setCell ⟨wr.heap.size, 0, none⟩ (.int .i64 u)).setCell ⟨wr.heap.size, 1, none⟩ (.int .i64 v) = w4 := ⟨_, rfl⟩
                      rw [hw4] at b4' hk4'
                      have b4 := Lib.hid b4'
                      have g0 := hk4'.cell 0
                      have g1 := hk4'.cell 1
                      simp at g0 g1
                      go_wp2_with fail
                      try rw [hw4]
                      clear b4' hk4' hw4 e0 e1 f0 f1 b3 hk3 c0 c1 d0 d1
                      have k1 := (b4.out.cell (p := ⟨g, ys.length * 2 + 1, none⟩) HG.out).trans HK1.out
                      have kf := (b4.out.frozen (p := ⟨g, ys.length * 2 + 1, none⟩) HG.out).trans HKF.out
                      go_big_quiet (fail)
                      obtain ⟨w5, hw5⟩ : ∃ w5, w4.drewN nq = w5 := ⟨_, rfl⟩
                      have b5 : Hid (Below wr.heap.size wr w5) := by rw [← hw5]; exact drewN_below b4.out _
                      have g2 : w5.cell? ⟨wr.heap.size, 0, none⟩ = some (.int .i64 u) := by rw [← hw5]; exact g0
                      have g3 : w5.cell? ⟨wr.heap.size, 1, none⟩ = some (.int .i64 v) := by rw [← hw5]; exact g1
                      have k2 : w5.cell? ⟨g, ys.length * 2 + 1, none⟩ = some (.int .i64 y) := by rw [← hw5]; exact k1
                      have kg : w5.frozen? ⟨g, ys.length * 2 + 1, none⟩ = false := by rw [← hw5]; exact kf
                      rw [hw5]
                      clear hw5 g0 g1 b4 k1 kf
                      have ho5 : Hid (OwnR w.heap.size w5 (.slice (some ⟨g, 0, none⟩) n cO) (ys ++ [(x, y)])) := ho.out.below b5.out
                      go_wp2_with fail
                      go_region
                      obtain ⟨o2, b2⟩ := ho5.out.moved (z := (x, max y v)) rfl
                      have o2' : Hid (OwnR w.heap.size (w5.setCell ⟨g, ys.length * 2 + 1, none⟩ (.int .i64 (max y v))).drew (.slice (some ⟨g, 0, none⟩) n cO) (Rg.step (ys ++ [(x, y)]) (u, v))) := by rw [step_joined ys (x, y) (u, v) (by show ¬ (y + 1 < u); have := hap.out; omega)]; exact o2
                      have b7 : Hid (Below w.heap.size wr (w5.setCell ⟨g, ys.length * 2 + 1, none⟩ (.int .i64 (max y v))).drew) := ((b5.out.mono hsw).trans b2).drew
                      have b6 := bw.trans b7.out
                      clear o2 b2
                      go_wp2_with fail
                      go_roundw
                      case rel => exact ⟨((p1, p2) :: t), [], _, _, _, _, rfl, rfl, rfl, b6, HO.out _ b7.out, HT.out _ b7.out, o2', HM2⟩
                      case measure => simp [lenV]; try omega
                · have HT : Hid (∀ W, Below w.heap.size wr W → ReadR w.heap.size W (.slice (some ⟨ad.block, ad.off + 2, none⟩) s.length (cap' - 1)) s) := fun W h => (hrb.out.below h).tail2
                  have hwu : y + 1 < u → wrap64 (u - 1) = u - 1 := fun _ => by unfold Fit at hfu HY; unfold wrap64; omega
                  have hwt : y < u → wrap64 (u - 1) = u - 1 := fun _ => by unfold Fit at hfu HY; unfold wrap64; omega
                  clear hm' hrb hra
                  by_cases h1 : u ≤ y
                  · have hap := Lib.hid (show ¬ (y + 1 < u) by omega)
                    have hb1 : decide (u ≤ y) = true := decide_eq_true h1
                    clear hwu hwt h1 HY hfu
                    go_wp2_with fail
                    obtain ⟨w3, hw3⟩ : ∃ w3, wr.alloc (.cells #[.int .i64 0, .int .i64 0] 26) = w3 := ⟨_, rfl⟩
                    have hk3 : Bk w3 wr.heap.size 26 #[.int .i64 0, .int .i64 0] := by rw [← hw3]; exact Bk.new wr _ _
                    have b3 : Below wr.heap.size wr w3 := by rw [← hw3]; exact (Below.refl _ wr).alloc (Nat.le_refl _) _
                    rw [← b3.cell (p := ad) (by omega)] at c0
                    rw [← b3.cell (p := ⟨ad.block, ad.off + 1, none⟩) (by show ad.block < _; omega)] at c1
                    rw [← b3.cell (p := bd) (by omega)] at d0
                    rw [← b3.cell (p := ⟨bd.block, bd.off + 1, none⟩) (by show bd.block < _; omega)] at d1
                    have e0 := hk3.cell 0
                    have e1 := hk3.cell 1
                    have f0 := hk3.free 0
                    have f1 := hk3.free 1
                    simp at e0 e1
                    rw [hw3]
                    clear hw3
                    go_big_quiet (fail)
                    go_wp2_with fail
                    go_region
                    obtain ⟨b4', hk4'⟩ := boxed (nq := nq + 1) b3 hk3 (.int .i64 u) (.int .i64 v)
                    obtain ⟨w4, hw4⟩ : ∃ w4, ((w3.drewN (nq + 1)).setCell ⟨wr.heap.size, 0, none⟩ (.int .i64 u)).setCell ⟨wr.heap.size, 1, none⟩ (.int .i64 v) = w4 := ⟨_, rfl⟩
                    rw [hw4] at b4' hk4'
                    have b4 := Lib.hid b4'
                    have g0 := hk4'.cell 0
                    have g1 := hk4'.cell 1
                    simp at g0 g1
                    go_wp2_with fail
                    try rw [hw4]
                    clear b4' hk4' hw4 e0 e1 f0 f1 b3 hk3 c0 c1 d0 d1
                    have k1 := (b4.out.cell (p := ⟨g, ys.length * 2 + 1, none⟩) HG.out).trans HK1.out
                    have kf := (b4.out.frozen (p := ⟨g, ys.length * 2 + 1, none⟩) HG.out).trans HKF.out
                    go_big_quiet (fail)
                    obtain ⟨w5, hw5⟩ : ∃ w5, w4.drewN nq = w5 := ⟨_, rfl⟩
                    have b5 : Hid (Below wr.heap.size wr w5) := by rw [← hw5]; exact drewN_below b4.out _
                    have g2 : w5.cell? ⟨wr.heap.size, 0, none⟩ = some (.int .i64 u) := by rw [← hw5]; exact g0
                    have g3 : w5.cell? ⟨wr.heap.size, 1, none⟩ = some (.int .i64 v) := by rw [← hw5]; exact g1
                    have k2 : w5.cell? ⟨g, ys.length * 2 + 1, none⟩ = some (.int .i64 y) := by rw [← hw5]; exact k1
                    have kg : w5.frozen? ⟨g, ys.length * 2 + 1, none⟩ = false := by rw [← hw5]; exact kf
                    rw [hw5]
                    clear hw5 g0 g1 b4 k1 kf
                    have ho5 : Hid (OwnR w.heap.size w5 (.slice (some ⟨g, 0, none⟩) n cO) (ys ++ [(x, y)])) := ho.out.below b5.out
                    go_wp2_with fail
                    go_region
                    obtain ⟨o2, b2⟩ := ho5.out.moved (z := (x, max y v)) rfl
                    have o2' : Hid (OwnR w.heap.size (w5.setCell ⟨g, ys.length * 2 + 1, none⟩ (.int .i64 (max y v))).drew (.slice (some ⟨g, 0, none⟩) n cO) (Rg.step (ys ++ [(x, y)]) (u, v))) := by rw [step_joined ys (x, y) (u, v) (by show ¬ (y + 1 < u); have := hap.out; omega)]; exact o2
                    have b7 : Hid (Below w.heap.size wr (w5.setCell ⟨g, ys.length * 2 + 1, none⟩ (.int .i64 (max y v))).drew) := ((b5.out.mono hsw).trans b2).drew
                    have b6 := bw.trans b7.out
                    clear o2 b2
                    go_wp2_with fail
                    go_roundw
                    case rel => exact ⟨((p1, p2) :: t), s, _, _, _, _, rfl, rfl, rfl, b6, HO.out _ b7.out, HT.out _ b7.out, o2', HM2⟩
                    case measure => simp [lenV]; try omega
                  · by_cases h2 : y + 1 < u
                    · have hap := Lib.hid h2
                      have hb1 : decide (u ≤ y) = false := decide_eq_false h1
                      have hw := hwt (by omega)
                      have hb2 : (u - 1 == y) = false := by simp; omega
                      have hb3 : decide (u - 1 = y) = false := by simp; omega
                      clear hwu hwt h1 h2 HY hfu
                      go_wp2_with fail
                      obtain ⟨w3, hw3⟩ : ∃ w3, wr.alloc (.cells #[.int .i64 0, .int .i64 0] 26) = w3 := ⟨_, rfl⟩
                      have hk3 : Bk w3 wr.heap.size 26 #[.int .i64 0, .int .i64 0] := by rw [← hw3]; exact Bk.new wr _ _
                      have b3 : Below wr.heap.size wr w3 := by rw [← hw3]; exact (Below.refl _ wr).alloc (Nat.le_refl _) _
                      rw [← b3.cell (p := ad) (by omega)] at c0
                      rw [← b3.cell (p := ⟨ad.block, ad.off + 1, none⟩) (by show ad.block < _; omega)] at c1
                      rw [← b3.cell (p := bd) (by omega)] at d0
                      rw [← b3.cell (p := ⟨bd.block, bd.off + 1, none⟩) (by show bd.block < _; omega)] at d1
                      have e0 := hk3.cell 0
                      have e1 := hk3.cell 1
                      have f0 := hk3.free 0
                      have f1 := hk3.free 1
                      simp at e0 e1
                      rw [hw3]
                      clear hw3
                      go_big_quiet (fail)
                      go_wp2_with fail
                      go_region
                      obtain ⟨b4', hk4'⟩ := boxed (nq := nq + 1) b3 hk3 (.int .i64 u) (.int .i64 v)
                      obtain ⟨w4, hw4⟩ : ∃ w4, ((w3.drewN (nq + 1)).setCell ⟨wr.heap.size, 0, none⟩ (.int .i64 u)).setCell ⟨wr.heap.size, 1, none⟩ (.int .i64 v) = w4 := ⟨_, rfl⟩
                      rw [hw4] at b4' hk4'
                      have b4 := Lib.hid b4'
                      have g0 := hk4'.cell 0
                      have g1 := hk4'.cell 1
                      simp at g0 g1
                      go_wp2_with fail
                      try rw [hw4]
                      clear b4' hk4' hw4 e0 e1 f0 f1 b3 hk3 c0 c1 d0 d1
                      have k1 := (b4.out.cell (p := ⟨g, ys.length * 2 + 1, none⟩) HG.out).trans HK1.out
                      have kf := (b4.out.frozen (p := ⟨g, ys.length * 2 + 1, none⟩) HG.out).trans HKF.out
                      go_big_quiet (fail)
                      obtain ⟨w5, hw5⟩ : ∃ w5, w4.drewN nq = w5 := ⟨_, rfl⟩
                      have b5 : Hid (Below wr.heap.size wr w5) := by rw [← hw5]; exact drewN_below b4.out _
                      have g2 : w5.cell? ⟨wr.heap.size, 0, none⟩ = some (.int .i64 u) := by rw [← hw5]; exact g0
                      have g3 : w5.cell? ⟨wr.heap.size, 1, none⟩ = some (.int .i64 v) := by rw [← hw5]; exact g1
                      rw [hw5]
                      clear hw5 g0 g1 b4 k1 kf
                      have ho5 : Hid (OwnR w.heap.size w5 (.slice (some ⟨g, 0, none⟩) n cO) (ys ++ [(x, y)])) := ho.out.below b5.out
                      go_wp2_with (at_builtin; refine push_rng rfl _ _ rfl w.heap.size (.slice (some ⟨g, 0, none⟩) n cO) (ys ++ [(x, y)]) u v w5 rfl ho5.out rfl (by simp; try omega) (Nat.le_trans hsw b5.out.size) ?_)
                      intro v2 w2 o2 b2
                      have o2' : Hid (OwnR w.heap.size w2 v2 (Rg.step (ys ++ [(x, y)]) (u, v))) := by rw [step_apart ys (x, y) (u, v) (by show y + 1 < u; have := hap.out; omega), List.append_assoc]; exact o2
                      have b7 : Hid (Below w.heap.size wr w2) := (b5.out.mono hsw).trans b2
                      have b6 := bw.trans b7.out
                      clear o2 b2
                      go_wp2_with fail
                      go_roundw
                      case rel => exact ⟨((p1, p2) :: t), s, _, _, _, _, rfl, rfl, rfl, b6, HO.out _ b7.out, HT.out _ b7.out, o2', HM2⟩
                      case measure => simp [lenV]; try omega
                    · have hap := Lib.hid h2
                      have hb1 : decide (u ≤ y) = false := decide_eq_false h1
                      have hw := hwt (by omega)
                      have hb2 : (u - 1 == y) = true := by simp; omega
                      have hb3 : decide (u - 1 = y) = true := by simp; omega
                      clear hwu hwt h1 h2 HY hfu
                      go_wp2_with fail
                      obtain ⟨w3, hw3⟩ : ∃ w3, wr.alloc (.cells #[.int .i64 0, .int .i64 0] 26) = w3 := ⟨_, rfl⟩
                      have hk3 : Bk w3 wr.heap.size 26 #[.int .i64 0, .int .i64 0] := by rw [← hw3]; exact Bk.new wr _ _
                      have b3 : Below wr.heap.size wr w3 := by rw [← hw3]; exact (Below.refl _ wr).alloc (Nat.le_refl _) _
                      rw [← b3.cell (p := ad) (by omega)] at c0
                      rw [← b3.cell (p := ⟨ad.block, ad.off + 1, none⟩) (by show ad.block < _; omega)] at c1
                      rw [← b3.cell (p := bd) (by omega)] at d0
                      rw [← b3.cell (p := ⟨bd.block, bd.off + 1, none⟩) (by show bd.block < _; omega)] at d1
                      have e0 := hk3.cell 0
                      have e1 := hk3.cell 1
                      have f0 := hk3.free 0
                      have f1 := hk3.free 1
                      simp at e0 e1
                      rw [hw3]
                      clear hw3
                      go_big_quiet (fail)
                      go_wp2_with fail
                      go_region
                      obtain ⟨b4', hk4'⟩ := boxed (nq := nq + 1) b3 hk3 (.int .i64 u) (.int .i64 v)
                      obtain ⟨w4, hw4⟩ : ∃ w4, ((w3.drewN (nq + 1)).setCell ⟨wr.heap.size, 0, none⟩ (.int .i64 u)).setCell ⟨wr.heap.size, 1, none⟩ (.int .i64 v) = w4 := ⟨_, rfl⟩
                      rw [hw4] at b4' hk4'
                      have b4 := Lib.hid b4'
                      have g0 := hk4'.cell 0
                      have g1 := hk4'.cell 1
                      simp at g0 g1
                      go_wp2_with fail
                      try rw [hw4]
                      clear b4' hk4' hw4 e0 e1 f0 f1 b3 hk3 c0 c1 d0 d1
                      have k1 := (b4.out.cell (p := ⟨g, ys.length * 2 + 1, none⟩) HG.out).trans HK1.out
                      have kf := (b4.out.frozen (p := ⟨g, ys.length * 2 + 1, none⟩) HG.out).trans HKF.out
                      go_big_quiet (fail)
                      obtain ⟨w5, hw5⟩ : ∃ w5, w4.drewN nq = w5 := ⟨_, rfl⟩
                      have b5 : Hid (Below wr.heap.size wr w5) := by rw [← hw5]; exact drewN_below b4.out _
                      have g2 : w5.cell? ⟨wr.heap.size, 0, none⟩ = some (.int .i64 u) := by rw [← hw5]; exact g0
                      have g3 : w5.cell? ⟨wr.heap.size, 1, none⟩ = some (.int .i64 v) := by rw [← hw5]; exact g1
                      have k2 : w5.cell? ⟨g, ys.length * 2 + 1, none⟩ = some (.int .i64 y) := by rw [← hw5]; exact k1
                      have kg : w5.frozen? ⟨g, ys.length * 2 + 1, none⟩ = false := by rw [← hw5]; exact kf
                      rw [hw5]
                      clear hw5 g0 g1 b4 k1 kf
                      have ho5 : Hid (OwnR w.heap.size w5 (.slice (some ⟨g, 0, none⟩) n cO) (ys ++ [(x, y)])) := ho.out.below b5.out
                      go_wp2_with fail
                      go_region
                      obtain ⟨o2, b2⟩ := ho5.out.moved (z := (x, max y v)) rfl
                      have o2' : Hid (OwnR w.heap.size (w5.setCell ⟨g, ys.length * 2 + 1, none⟩ (.int .i64 (max y v))).drew (.slice (some ⟨g, 0, none⟩) n cO) (Rg.step (ys ++ [(x, y)]) (u, v))) := by rw [step_joined ys (x, y) (u, v) (by show ¬ (y + 1 < u); have := hap.out; omega)]; exact o2
                      have b7 : Hid (Below w.heap.size wr (w5.setCell ⟨g, ys.length * 2 + 1, none⟩ (.int .i64 (max y v))).drew) := ((b5.out.mono hsw).trans b2).drew
                      have b6 := bw.trans b7.out
                      clear o2 b2
                      go_wp2_with fail
                      go_roundw
                      case rel => exact ⟨((p1, p2) :: t), s, _, _, _, _, rfl, rfl, rfl, b6, HO.out _ b7.out, HT.out _ b7.out, o2', HM2⟩
                      case measure => simp [lenV]; try omega
end Go.Proofs.Ytpaojmiemjndlaa
