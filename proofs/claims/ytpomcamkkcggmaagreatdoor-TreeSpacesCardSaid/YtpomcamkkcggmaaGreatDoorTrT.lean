/-
  package tree: take.
-/
import Derived.Test.YtpomcamkkcggmaaGreatDoorTrS
namespace Go.Proofs.YtpomcamkkcggmaaGreatDoor
open Go.RowKit Tk Tr

theorem Stepped.from {N M B G : Nat} {w W1 : World} {bad : Nat} {st st' : St} {e : Ending} {w' : World} (h : Stepped N B G W1 bad st st' e w') (hm : N ≤ M) (hn : Tn G B w W1) (hk : KeepT 45 w W1) : Stepped M B G w bad st st' e w' := by
  obtain ⟨h1, h2, h3, h4⟩ := h
  exact ⟨h1, h2.more hm, hn.trans h3, hk.trans h4⟩
theorem bad_one {st : St} {t : TokI} (h : t.1 = 1) : badL st t = badOpen st ∧ nextL st t = beginL st t := ⟨by unfold badL; rw [if_pos h], by unfold nextL; rw [if_pos h]⟩
theorem bad_two {st : St} {t : TokI} (h : t.1 = 2) : badL st t = (if sameName st t.2.2.1 = true then 0 else 6) ∧ nextL st t = (st.1, st.2.dropLast) := by
  have h1 : ¬ t.1 = 1 := by omega
  exact ⟨by unfold badL; rw [if_neg h1, if_pos h], by unfold nextL; rw [if_neg h1, if_pos h]⟩
theorem bad_three {st : St} {t : TokI} (h : t.1 = 3) : badL st t = badSay st t.2.2.2.1 ∧ nextL st t = sayL st t.2.2.2.1 := by
  have h1 : ¬ t.1 = 1 := by omega
  have h2 : ¬ t.1 = 2 := by omega
  exact ⟨by unfold badL badSay; rw [if_neg h1, if_neg h2, if_pos h], by unfold nextL; rw [if_neg h1, if_neg h2]⟩
theorem bad_other {st : St} {t : TokI} (h1 : t.1 ≠ 1) (h2 : t.1 ≠ 2) (h3 : t.1 ≠ 3) : badL st t = 5 := by unfold badL; rw [if_neg h1, if_neg h2, if_neg h3]
set_option maxHeartbeats 4000000 in
set_option maxRecDepth 100000 in
theorem grow_any (N B G : Nat) (w : World) (st : St) (t : TokI) (u : Value) (h : GS N B G w st) (hok : OkS st) (hu : ReadA w u t.2.2.2.2.1) (hl : t.2.2.2.2.1.length ≤ 1000000000) (hs : t.2.2.2.1.length ≤ 9000000000000000000) (hG : G < B) (hB : B ≤ w.heap.size) (hNN : N ≤ 1000000) :
    Calls Tryz.prog 19 #[.pointer (some ⟨G, 0, none⟩), agT t u] w fun e w' => Stepped (N + 1) B G w (badL st t) st (nextL st t) e w' := by
  obtain ⟨UA, ucap, rfl, -⟩ := id hu
  obtain ⟨un, hun⟩ : ∃ n, t.2.2.2.2.1.length = n := ⟨_, rfl⟩
  obtain ⟨T, hT⟩ : ∃ T, w.heap.size = T := ⟨_, rfl⟩
  obtain ⟨W1, hW1⟩ : ∃ W1, w.alloc (.cells #[.int .i64 t.1, .int .i64 t.2.1, .string (bts t.2.2.1), .string (bts t.2.2.2.1), .slice UA un ucap, .bool t.2.2.2.2.2] 45) = W1 := ⟨_, rfl⟩
  have hw1 : Below w.heap.size w W1 := by rw [← hW1]; exact (Below.refl _ _).alloc (Nat.le_refl _) _
  have G1 := h.below hw1
  have Z1 : B ≤ W1.heap.size := Nat.le_trans hB hw1.size
  have N1 := Lib.hid (Tn.of (T := G) (hw1.mono hB))
  have K1 : Hid (KeepT 45 w W1) := KeepT.below hw1
  have KT : Bk W1 T 45 #[.int .i64 t.1, .int .i64 t.2.1, .string (bts t.2.2.1), .string (bts t.2.2.2.1), .slice UA un ucap, .bool t.2.2.2.2.2] := by rw [← hW1, ← hT]; exact Bk.new _ _ _
  have HBE := Lib.hid (begin_any N B G W1 st t (.slice UA t.2.2.2.2.1.length ucap) G1 hok (hu.below hw1) hl hG Z1)
  have HEN := Lib.hid (end_any N B G W1 st t.2.2.1 G1 hok hG Z1)
  have HSY := Lib.hid (say_any N B G W1 st t.2.2.2.1 G1 hok hs hG Z1 hNN)
  have HG1 := Lib.hid G1
  unfold agT at HBE ⊢
  rw [hun] at HBE ⊢
  have k0 : W1.cell? ⟨T, 0, none⟩ = some (.int .i64 t.1) := KT.cell 0
  have k1 : W1.cell? ⟨T, 1, none⟩ = some (.int .i64 t.2.1) := KT.cell 1
  have k2 : W1.cell? ⟨T, 2, none⟩ = some (.string (bts t.2.2.1)) := KT.cell 2
  have k3 : W1.cell? ⟨T, 3, none⟩ = some (.string (bts t.2.2.2.1)) := KT.cell 3
  have k4 : W1.cell? ⟨T, 4, none⟩ = some (.slice UA un ucap) := KT.cell 4
  have k5 : W1.cell? ⟨T, 5, none⟩ = some (.bool t.2.2.2.2.2) := KT.cell 5
  have HW1 := Lib.hid hW1
  have HTT := Lib.hid hT
  have HC : Hid ((t.1 = 1 → badL st t = badOpen st ∧ nextL st t = beginL st t) ∧ (t.1 = 2 → badL st t = (if sameName st t.2.2.1 = true then 0 else 6) ∧ nextL st t = (st.1, st.2.dropLast)) ∧ (t.1 = 3 → badL st t = badSay st t.2.2.2.1 ∧ nextL st t = sayL st t.2.2.2.1) ∧ (t.1 ≠ 1 → t.1 ≠ 2 → t.1 ≠ 3 → badL st t = 5)) := ⟨bad_one, bad_two, bad_three, bad_other⟩
  obtain ⟨a0, h0⟩ : ∃ a : Int, t.1 = a := ⟨_, rfl⟩
  obtain ⟨a1, h1⟩ : ∃ a : Int, t.2.1 = a := ⟨_, rfl⟩
  obtain ⟨a2, h2⟩ : ∃ a, bts t.2.2.1 = a := ⟨_, rfl⟩
  obtain ⟨a3, h3⟩ : ∃ a, bts t.2.2.2.1 = a := ⟨_, rfl⟩
  obtain ⟨a5, h5⟩ : ∃ a, t.2.2.2.2.2 = a := ⟨_, rfl⟩
  rw [h0, h1, h2, h3, h5] at HBE HW1
  rw [h2] at HEN
  rw [h3] at HSY
  rw [h0] at k0 HC
  rw [h1] at k1
  rw [h2] at k2
  rw [h3] at k3
  rw [h5] at k5
  rw [h0, h1, h2, h3, h5]
  have HBD : Hid (∃ bd nx, badL st t = bd ∧ nextL st t = nx) := ⟨_, _, rfl, rfl⟩
  obtain ⟨bd, nx, hbd, hnx⟩ := HBD.out
  have HB1 := Lib.hid hbd
  have HB2 := Lib.hid hnx
  rw [hbd, hnx] at HC
  rw [hbd, hnx]
  clear h hok hu hl hs hG hB hun hT hW1 hw1 G1 KT h0 h1 h2 h3 h5 hbd hnx HBD Z1 hNN
  by_cases e1 : a0 = 1
  · obtain ⟨q1, q2⟩ := HC.out.1 e1
    have Q1 := Lib.hid q1
    have Q2 := Lib.hid q2
    clear q1 q2
    subst e1
    go_enter Tryz.func19, Tryz.ntmps19
    go_upto_region 1 with fail
    rw [HW1.out, HTT.out]
    go_wp2_with (go_at_call 31; refine HBE.out.mono ?_; rintro e w2 ⟨rfl, s2, s3, s4⟩)
    go_ret
    rw [Q1.out, Q2.out]
    exact Stepped.from ⟨rfl, s2, s3, s4⟩ (Nat.le_succ N) N1.out K1.out
  by_cases e2 : a0 = 2
  · obtain ⟨q1, q2⟩ := HC.out.2.1 e2
    have Q1 := Lib.hid q1
    have Q2 := Lib.hid q2
    have g1 : (a0 == 1) = false := by simpa using e1
    clear q1 q2 e1
    subst e2
    obtain ⟨bs, hbs⟩ : ∃ bs, (if sameName st t.2.2.1 = true then 0 else 6) = bs := ⟨_, rfl⟩
    rw [hbs] at Q1 HEN
    clear hbs
    go_enter Tryz.func19, Tryz.ntmps19
    go_upto_region 1 with fail
    rw [HW1.out, HTT.out]
    go_wp2_with (go_at_call 32; refine HEN.out.mono ?_; rintro e w2 ⟨rfl, s2, s3, s4⟩)
    go_ret
    rw [Q1.out, Q2.out]
    exact Stepped.from ⟨rfl, s2, s3, s4⟩ (Nat.le_succ N) N1.out K1.out
  by_cases e3 : a0 = 3
  · obtain ⟨q1, q2⟩ := HC.out.2.2.1 e3
    have Q1 := Lib.hid q1
    have Q2 := Lib.hid q2
    have g1 : (a0 == 1) = false := by simpa using e1
    have g2 : (a0 == 2) = false := by simpa using e2
    clear q1 q2 e1 e2
    subst e3
    go_enter Tryz.func19, Tryz.ntmps19
    go_upto_region 1 with fail
    rw [HW1.out, HTT.out]
    go_wp2_with (go_at_call 33; refine HSY.out.mono ?_; rintro e w2 ⟨rfl, s2, s3, s4⟩)
    go_ret
    rw [Q1.out, Q2.out]
    exact Stepped.from ⟨rfl, s2, s3, s4⟩ (Nat.le_refl _) N1.out K1.out
  · have Q1 := Lib.hid (HC.out.2.2.2 e1 e2 e3)
    have g1 : (a0 == 1) = false := by simpa using e1
    have g2 : (a0 == 2) = false := by simpa using e2
    have g3 : (a0 == 3) = false := by simpa using e3
    clear e1 e2 e3
    go_enter Tryz.func19, Tryz.ntmps19
    go_upto_region 1 with fail
    rw [HW1.out, HTT.out]
    go_wp2_with fail
    go_ret
    rw [Q1.out]
    refine Stepped.from (W1 := W1) (N := N) ⟨rfl, ?_, Tn.refl _ _ _, fun _ _ hk => hk⟩ (Nat.le_succ N) N1.out K1.out
    rw [if_neg (by decide)]
    exact HG1.out
end Go.Proofs.YtpomcamkkcggmaaGreatDoor
