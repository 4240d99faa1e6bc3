/-
  cardexhelp.Own, Kept, at ranges.
-/
import Derived.Test.YtpaojmiemjndlaaRgH
namespace Go.Proofs.Ytpaojmiemjndlaa
open Go.RowKit Rg

/-- A copy, with three of one range in the room behind it. -/
def OwnK (B : Nat) (w : World) (v : Value) (l : List R) (r : R) : Prop := ∃ g, v = .slice (some ⟨g, 0, none⟩) l.length (l.length + 3) ∧ B ≤ g ∧ Bk w g 26 (prs (l ++ [r, r, r])).toArray
theorem OwnK.below {B C : Nat} {w w' : World} {v : Value} {l : List R} {r : R} (h : OwnK B w v l r) (hb : Below C w w') (hC : w.heap.size ≤ C) : OwnK B w' v l r := by
  obtain ⟨g, h1, h2, h3⟩ := h
  exact ⟨g, h1, h2, h3.below hb (Nat.lt_of_lt_of_le h3.lt hC)⟩
theorem OwnK.reads {B : Nat} {w : World} {v : Value} {l : List R} {r : R} (h : OwnK B w v l r) (hl : l.length ≤ 1000000000000) : ReadR w.heap.size w v l := by
  obtain ⟨g, rfl, _, h3⟩ := h
  refine ReadR.of_cells h3 rfl (by omega) (by unfold maxLen; omega) ?_
  rw [prs_append, ← prs_length l]
  exact List.take_left

theorem take_put2 {cur : Array Value} {m : Nat} {xs : List Value} (u v : Value) (h : cur.toList.take m = xs) (hm : m + 1 < cur.size) : ((cur.setIfInBounds m u).setIfInBounds (m + 1) v).toList.take (m + 2) = xs ++ [u, v] := by
  have hx : xs.length = m := by rw [← h, List.length_take, Array.length_toList]; omega
  refine List.ext_getElem? fun j => ?_
  by_cases hj : j < m + 2
  · rw [List.getElem?_take_of_lt hj, Array.getElem?_toList, Array.getElem?_setIfInBounds, Array.getElem?_setIfInBounds]
    by_cases h1 : m + 1 = j
    · subst h1
      rw [if_pos rfl, if_pos (by simp; omega), List.getElem?_append_right (by omega), hx, show m + 1 - m = 1 by omega]
      rfl
    · rw [if_neg h1]
      by_cases h2 : m = j
      · subst h2
        rw [if_pos rfl, if_pos (by omega), List.getElem?_append_right (by omega), hx, Nat.sub_self]
        rfl
      · rw [if_neg h2, List.getElem?_append_left (by omega), ← h, List.getElem?_take_of_lt (by omega), Array.getElem?_toList]
  · rw [List.getElem?_eq_none (by rw [List.length_take]; omega), List.getElem?_eq_none (by rw [List.length_append, hx]; simp; omega)]

set_option maxHeartbeats 4000000 in
theorem own_any (v : Value) (l : List R) (p q : Int) (w : World) (hv : ReadR w.heap.size w v l) (hl : l.length ≤ 1000000) :
    Calls Try.prog 8 #[v, .agg #[.int .i64 p, .int .i64 q]] w fun e w' => ∃ u, e = .returned u ∧ OwnK w.heap.size w' u l (p, q) ∧ Below w.heap.size w w' := by
  obtain ⟨i0, hi, hz0, hz1, hz2⟩ := info_parts infoRng
  have hsrc := hv.source
  obtain ⟨A, cap, rfl, _, _⟩ := hv
  obtain ⟨n, hn⟩ : ∃ n, l.length = n := ⟨_, rfl⟩
  have hb1 : Below w.heap.size w (w.alloc (.cells #[.int .i64 p, .int .i64 q] 26)) := (Below.refl _ w).alloc (Nat.le_refl _) _
  have hk1 := Bk.new w 26 #[.int .i64 p, .int .i64 q]
  have hmk := run_make (P := Try.prog) (w.alloc (.cells #[.int .i64 p, .int .i64 q] 26)) 22 26 i0 _ Try.underlying22 hi hz0 .i64 .i64 0 ((n : Int) + 3) (by omega) (by omega) (by rw [hz2]; omega) (by omega)
  have e1 : ((n : Int) + 3).toNat = n + 3 := by omega
  rw [e1, hz1] at hmk
  have e2 : (0 : Int).toNat = 0 := rfl
  rw [e2] at hmk
  obtain ⟨M, hM⟩ : ∃ M, madeCells (Value.agg #[.int .i64 0, .int .i64 0]).cells ((n + 3) * 2) = M := ⟨_, rfl⟩
  have hMs : M.size = (n + 3) * 2 := by rw [← hM, size_madeCells]
  rw [hM] at hmk
  obtain ⟨w2, hw2⟩ : ∃ w2, (w.alloc (.cells #[.int .i64 p, .int .i64 q] 26)).alloc (.cells M 26) = w2 := ⟨_, rfl⟩
  have hg2 : Bk w2 (w.heap.size + 1) 26 M := by rw [← hw2]; exact Bk.new1 w _ _ _
  have hk2 : Bk w2 w.heap.size 26 #[.int .i64 p, .int .i64 q] := by rw [← hw2]; exact hk1.alloc _
  have hb2 : Below w.heap.size w w2 := by rw [← hw2]; exact hb1.alloc (by simp) _
  rw [hw2, World.size_alloc] at hmk
  rw [hn] at hl ⊢
  have HN := Lib.hid hn
  -- behind the append
  have hap : ∃ w3 cur, ((A = none ∧ w3 = w2 ∧ n = 0) ∨ ∃ ad, A = some ad ∧ (∀ ty, (Builtin.append_ #[22, 22] ty #[.slice (some ⟨w.heap.size + 1, 0, none⟩) 0 (n + 3), .slice A n cap]).run Try.prog w2 = .ok (.slice (some ⟨w.heap.size + 1, 0, none⟩) n (n + 3)) w3)) ∧ Bk w3 (w.heap.size + 1) 26 cur ∧ cur.size = (n + 3) * 2 ∧ cur.toList.take (n * 2) = prs l ∧ Bk w3 w.heap.size 26 #[.int .i64 p, .int .i64 q] ∧ Below w.heap.size w w3 := by
    rcases hsrc with ⟨e, rfl⟩ | ⟨ad, cap', e, hc⟩
    · injection e with e1 e2 e3
      subst e1
      have hn0 : n = 0 := by rw [← hn]; rfl
      subst hn0
      exact ⟨w2, M, .inl ⟨rfl, rfl, rfl⟩, hg2, hMs, by rw [Nat.zero_mul, List.take_zero, prs_nil], hk2, hb2⟩
    · injection e with e1 e2 e3
      subst e1
      subst e3
      have hlp := prs_length l
      rw [hn] at hlp
      have hfr := fun ty => run_append_room (P := Try.prog) w2 22 ty 26 i0 Try.underlying22 hi (w.heap.size + 1) 0 (n + 3) M hg2 ad n cap (prs l) (by rw [hz1]; exact hlp) (fun j u hj => by
        have h := hc j u hj
        have hlt : (ad.add j).block < w.heap.size := World.block_lt_of_cell? w _ h
        rw [hb2.cell hlt]
        exact h) (prs_cells l) (by omega) (by omega)
      simp only [Nat.zero_mul, Nat.zero_add, List.take_zero, List.nil_append] at hfr
      refine ⟨_, _, .inr ⟨ad, rfl, hfr⟩, setRow_heap w2 (w.heap.size + 1) M _ 26 _ hg2, ?_, ?_, ?_, ?_⟩
      · simp [hlp, hMs]
        omega
      · show (prs l ++ M.toList.drop (prs l).length).take (n * 2) = prs l
        rw [← hlp]
        exact List.take_left
      · exact (setRow_other w2 (w.heap.size + 1) w.heap.size _ (by omega)).trans hk2
      · refine ⟨hb2.os, hb2.tape, hb2.output, by simpa using hb2.size, fun k hk => ?_⟩
        rw [setRow_other w2 (w.heap.size + 1) k _ (by omega)]
        exact hb2.block k hk
  obtain ⟨w3, cur, hap, hg3, hs3, ht3, hk3, hb3⟩ := hap
  have HG3 := Lib.hid hg3
  have HT3 := Lib.hid ht3
  have HS3 := Lib.hid hs3
  have HK3 := Lib.hid hk3
  have hown2 : Hid (w2.ownsRow w.heap.size 26 2 (.slice (some ⟨w.heap.size + 1, 0, none⟩) 0 (n + 3)) 0 []) := ⟨rfl, .inr ⟨_, _, M, rfl, Nat.le_succ _, hg2, Nat.zero_le _, by unfold maxLen; omega, hMs, rfl⟩⟩
  clear hg3 ht3 hs3 hk3 hsrc hb1 hk1 hM hMs hg2 hk2 hw2 e1 e2 hn hb2
  have hlen : n ≤ 1000000 := hl
  rcases hap with ⟨rfl, rfl, rfl⟩ | ⟨ad, rfl, hfr⟩
  · have HI := Lib.hid hi
    obtain rfl : l = [] := List.eq_nil_of_length_eq_zero HN.out
    clear hi hz0 hz1 hz2
    have hmk' : (Instr.makeSlice 22 (.int .i64 0) (.int .i64 3)).run Try.prog (w.alloc (.cells #[.int .i64 p, .int .i64 q] 26)) = .ok (.slice (some ⟨w.heap.size + 1, 0, none⟩) 0 3) w3 := hmk
    clear hmk
    go_enter Try.func8, Try.ntmps8
    go_wp2_with (at_builtin; refine wpList_append_own_none rfl _ _ 22 rfl w.heap.size 26 i0 2 Try.underlying22 HI.out (.slice (some ⟨w.heap.size + 1, 0, none⟩) 0 (0 + 3)) 0 [] rfl hown2.out rfl ?_)
    go_loopw [7] (fun i wr => ∃ (k m : Nat) (cs : Array Value), k ≤ 3 ∧ m = 0 + k ∧ i = .int .i64 m ∧ Hid (Bk wr (w.heap.size + 1) 26 cs) ∧ Hid (cs.size = (0 + 3) * 2) ∧ Hid (cs.toList.take (m * 2) = prs (([] : List R) ++ List.replicate k (p, q))) ∧ Hid (Bk wr w.heap.size 26 #[.int .i64 p, .int .i64 q]) ∧ Below w.heap.size w wr) (fun i _ => 0 + 3 - (intOf i).toNat)
    case atStart => exact ⟨0, 0, cur, by omega, rfl, rfl, HG3.out, HS3.out, by unfold Hid; rw [List.replicate_zero, List.append_nil]; exact HT3.out, HK3.out, hb3⟩
    case round =>
      obtain ⟨k, m, cs, hk, hm, rfl, hg, hs, ht, hbx, bw⟩ := hrel
      by_cases hlt : k < 3
      · have hmn : m < 0 + 3 := by omega
        have hcs := hs.out
        have c0 := hg.out.cell (m * 2)
        have c1 := hg.out.cell (m * 2 + 1)
        rw [Array.getElem?_eq_getElem (by omega)] at c0 c1
        generalize cs[m * 2]'(by omega) = x0 at c0
        generalize cs[m * 2 + 1]'(by omega) = x1 at c1
        have f0 := hg.out.free (m * 2)
        have f1 := hg.out.free (m * 2 + 1)
        have b0 := hbx.out.cell 0
        have b1 := hbx.out.cell 1
        simp at b0 b1
        have hg2 : Hid (Bk ((wr.setCell ⟨w.heap.size + 1, m * 2, none⟩ (.int .i64 p)).setCell ⟨w.heap.size + 1, m * 2 + 1, none⟩ (.int .i64 q)) (w.heap.size + 1) 26 ((cs.setIfInBounds (m * 2) (.int .i64 p)).setIfInBounds (m * 2 + 1) (.int .i64 q))) := (hg.out.put _ _).put _ _
        have hs2 : Hid (((cs.setIfInBounds (m * 2) (.int .i64 p)).setIfInBounds (m * 2 + 1) (.int .i64 q)).size = (0 + 3) * 2) := by unfold Hid; simp [hcs]
        have ht2 : Hid (((cs.setIfInBounds (m * 2) (.int .i64 p)).setIfInBounds (m * 2 + 1) (.int .i64 q)).toList.take ((m + 1) * 2) = prs (([] : List R) ++ List.replicate (k + 1) (p, q))) := by
          unfold Hid
          rw [show (m + 1) * 2 = m * 2 + 2 by omega, take_put2 _ _ ht.out (by omega), List.replicate_succ', ← List.append_assoc, prs_append (([] : List R) ++ List.replicate k (p, q)), prs_one]
        have hbx2 : Hid (Bk ((wr.setCell ⟨w.heap.size + 1, m * 2, none⟩ (.int .i64 p)).setCell ⟨w.heap.size + 1, m * 2 + 1, none⟩ (.int .i64 q)) w.heap.size 26 #[.int .i64 p, .int .i64 q]) := (hbx.out.far (by simp) _).far (by simp) _
        have bw2 : Below w.heap.size w ((wr.setCell ⟨w.heap.size + 1, m * 2, none⟩ (.int .i64 p)).setCell ⟨w.heap.size + 1, m * 2 + 1, none⟩ (.int .i64 q)) := ⟨bw.os, bw.tape, bw.output, by simpa [World.setCell] using bw.size, fun j hj => by rw [Below.heap_setCell _ _ _ _ (by show j ≠ w.heap.size + 1; omega), Below.heap_setCell _ _ _ _ (by show j ≠ w.heap.size + 1; omega)]; exact bw.block j hj⟩
        have hm2 : Hid (m + 1 = 0 + (k + 1)) := Lib.hid (by omega)
        have hk2 : k + 1 ≤ 3 := hlt
        have hmb : m ≤ 2000000 := by omega
        clear hcs hm hlt
        go_wp2_with fail
        go_roundw
        case rel => exact ⟨k + 1, m + 1, _, hk2, hm2.out, by go_num, hg2, hs2, ht2, hbx2, bw2⟩
        case measure => simp [intOf]; omega
      · obtain rfl : k = 3 := by omega
        have hmn : ¬ (m < 0 + 3) := by omega
        have ho : Hid (OwnK w.heap.size wr (.slice (some ⟨w.heap.size + 1, 0, none⟩) 0 (0 + 3)) ([] : List R) (p, q)) := by
          refine ⟨w.heap.size + 1, by rw [HN.out], Nat.le_succ _, ?_⟩
          have h1 := ht.out
          have h2 := hs.out
          rw [hm, ← h2, ← Array.length_toList, List.take_length] at h1
          have h3 := hg.out
          rw [show ([] : List R) ++ [(p, q), (p, q), (p, q)] = ([] : List R) ++ List.replicate 3 (p, q) from rfl, ← h1]
          exact h3
        clear hm
        go_wp2_with fail
        go_ret
        exact ⟨_, rfl, ho.out, bw⟩
  · clear hi hz0 hz1 hz2
    go_enter Try.func8, Try.ntmps8
    go_wp2_with (at_builtin; refine BigFrame.wpList_want rfl (fun K hK => wp_append_run _ _ 22 rfl rfl rfl (hfr _) (hK _ _ ?_)))
    go_loopw [7] (fun i wr => ∃ (k m : Nat) (cs : Array Value), k ≤ 3 ∧ m = n + k ∧ i = .int .i64 m ∧ Hid (Bk wr (w.heap.size + 1) 26 cs) ∧ Hid (cs.size = (n + 3) * 2) ∧ Hid (cs.toList.take (m * 2) = prs (l ++ List.replicate k (p, q))) ∧ Hid (Bk wr w.heap.size 26 #[.int .i64 p, .int .i64 q]) ∧ Below w.heap.size w wr) (fun i _ => n + 3 - (intOf i).toNat)
    case atStart => exact ⟨0, n, cur, by omega, rfl, rfl, HG3.out, HS3.out, by unfold Hid; rw [List.replicate_zero, List.append_nil]; exact HT3.out, HK3.out, hb3⟩
    case round =>
      obtain ⟨k, m, cs, hk, hm, rfl, hg, hs, ht, hbx, bw⟩ := hrel
      by_cases hlt : k < 3
      · have hmn : m < n + 3 := by omega
        have hcs := hs.out
        have c0 := hg.out.cell (m * 2)
        have c1 := hg.out.cell (m * 2 + 1)
        rw [Array.getElem?_eq_getElem (by omega)] at c0 c1
        generalize cs[m * 2]'(by omega) = x0 at c0
        generalize cs[m * 2 + 1]'(by omega) = x1 at c1
        have f0 := hg.out.free (m * 2)
        have f1 := hg.out.free (m * 2 + 1)
        have b0 := hbx.out.cell 0
        have b1 := hbx.out.cell 1
        simp at b0 b1
        have hg2 : Hid (Bk ((wr.setCell ⟨w.heap.size + 1, m * 2, none⟩ (.int .i64 p)).setCell ⟨w.heap.size + 1, m * 2 + 1, none⟩ (.int .i64 q)) (w.heap.size + 1) 26 ((cs.setIfInBounds (m * 2) (.int .i64 p)).setIfInBounds (m * 2 + 1) (.int .i64 q))) := (hg.out.put _ _).put _ _
        have hs2 : Hid (((cs.setIfInBounds (m * 2) (.int .i64 p)).setIfInBounds (m * 2 + 1) (.int .i64 q)).size = (n + 3) * 2) := by unfold Hid; simp [hcs]
        have ht2 : Hid (((cs.setIfInBounds (m * 2) (.int .i64 p)).setIfInBounds (m * 2 + 1) (.int .i64 q)).toList.take ((m + 1) * 2) = prs (l ++ List.replicate (k + 1) (p, q))) := by
          unfold Hid
          rw [show (m + 1) * 2 = m * 2 + 2 by omega, take_put2 _ _ ht.out (by omega), List.replicate_succ', ← List.append_assoc, prs_append (l ++ List.replicate k (p, q)), prs_one]
        have hbx2 : Hid (Bk ((wr.setCell ⟨w.heap.size + 1, m * 2, none⟩ (.int .i64 p)).setCell ⟨w.heap.size + 1, m * 2 + 1, none⟩ (.int .i64 q)) w.heap.size 26 #[.int .i64 p, .int .i64 q]) := (hbx.out.far (by simp) _).far (by simp) _
        have bw2 : Below w.heap.size w ((wr.setCell ⟨w.heap.size + 1, m * 2, none⟩ (.int .i64 p)).setCell ⟨w.heap.size + 1, m * 2 + 1, none⟩ (.int .i64 q)) := ⟨bw.os, bw.tape, bw.output, by simpa [World.setCell] using bw.size, fun j hj => by rw [Below.heap_setCell _ _ _ _ (by show j ≠ w.heap.size + 1; omega), Below.heap_setCell _ _ _ _ (by show j ≠ w.heap.size + 1; omega)]; exact bw.block j hj⟩
        have hm2 : Hid (m + 1 = n + (k + 1)) := Lib.hid (by omega)
        have hk2 : k + 1 ≤ 3 := hlt
        have hmb : m ≤ 2000000 := by omega
        clear hcs hm hlt
        go_wp2_with fail
        go_roundw
        case rel => exact ⟨k + 1, m + 1, _, hk2, hm2.out, by go_num, hg2, hs2, ht2, hbx2, bw2⟩
        case measure => simp [intOf]; omega
      · obtain rfl : k = 3 := by omega
        have hmn : ¬ (m < n + 3) := by omega
        have ho : Hid (OwnK w.heap.size wr (.slice (some ⟨w.heap.size + 1, 0, none⟩) n (n + 3)) l (p, q)) := by
          refine ⟨w.heap.size + 1, by rw [HN.out], Nat.le_succ _, ?_⟩
          have h1 := ht.out
          have h2 := hs.out
          rw [hm, ← h2, ← Array.length_toList, List.take_length] at h1
          have h3 := hg.out
          rw [show l ++ [(p, q), (p, q), (p, q)] = l ++ List.replicate 3 (p, q) from rfl, ← h1]
          exact h3
        clear hm
        go_wp2_with fail
        go_ret
        exact ⟨_, rfl, ho.out, bw⟩

set_option maxHeartbeats 4000000 in
theorem kept_any (B : Nat) (v u : Value) (l : List R) (p q : Int) (w : World) (hv : OwnK B w v l (p, q)) (hu : ReadR w.heap.size w u l) (hl : l.length ≤ 1000000) :
    Calls Try.prog 16 #[v, u, .agg #[.int .i64 p, .int .i64 q]] w fun e w' => e = .returned (.bool true) ∧ Below w.heap.size w w' := by
  have hb1 : Below w.heap.size w (w.alloc (.cells #[.int .i64 p, .int .i64 q] 26)) := (Below.refl _ w).alloc (Nat.le_refl _) _
  have hs1 := hb1.size
  have HP := Lib.hid (plainR_any v u l l (w.alloc (.cells #[.int .i64 p, .int .i64 q] 26)) (((hv.reads (by omega)).below hb1).more hs1) ((hu.below hb1).more hs1) (by omega) (by omega))
  rw [decide_eq_true rfl] at HP
  have hk1 := Bk.new w 26 #[.int .i64 p, .int .i64 q]
  obtain ⟨g, rfl, hB, hg⟩ := hv
  obtain ⟨A, cap, rfl, _, _⟩ := hu
  obtain ⟨n, hn⟩ : ∃ n, l.length = n := ⟨_, rfl⟩
  have HG := Lib.hid hg
  have HK := Lib.hid hk1
  have HW := Lib.hid hs1
  have hpl := prs_length (l ++ [(p, q), (p, q), (p, q)])
  have HC : Hid (∀ m, n ≤ m → m < n + 3 → (prs (l ++ [(p, q), (p, q), (p, q)])).toArray[m * 2]? = some (.int .i64 p) ∧ (prs (l ++ [(p, q), (p, q), (p, q)])).toArray[m * 2 + 1]? = some (.int .i64 q)) := by
    intro m h1 h2
    rw [List.getElem?_toArray, List.getElem?_toArray]
    refine prs_get (r := (p, q)) ?_
    rw [List.getElem?_append_right (by omega), hn]
    rcases (show m - n = 0 ∨ m - n = 1 ∨ m - n = 2 by omega) with h | h | h <;> rw [h] <;> rfl
  rw [hn] at hl HP ⊢
  have e1 := fun W => neqR (p, q) (p, q) W
  have e2 := fun op x y W => eqGuardR op x y (p, q) (p, q) W
  simp only [agR, decide_true, Bool.not_true] at e1 e2
  clear hg hk1 hpl hn hs1
  go_enter Try.func16, Try.ntmps16
  go_wp2_with fail
  refine HP.out.mono ?_
  rintro e w2 ⟨rfl, b2⟩
  have hg2 : Hid (Bk w2 g 26 (prs (l ++ [(p, q), (p, q), (p, q)])).toArray) := HG.out.below (hb1.trans (b2.mono HW.out)) HG.out.lt
  have hk2 : Hid (Bk w2 w.heap.size 26 #[.int .i64 p, .int .i64 q]) := HK.out.below b2 HK.out.lt
  have hb2 := hb1.trans (b2.mono HW.out)
  clear b2 hb1
  go_wp2_with fail
  go_loopw [8] (fun i wr => ∃ (k m d : Nat), k ≤ 3 ∧ m = n + k ∧ i = .int .i64 m ∧ wr = w2.drewN d) (fun i _ => n + 3 - (intOf i).toNat)
  case atStart => exact ⟨0, n, 0, by omega, rfl, rfl, rfl⟩
  case round =>
    obtain ⟨k, m, d, hk, hm, rfl, rfl⟩ := hrel
    by_cases hlt : k < 3
    · have hmn : m < n + 3 := by omega
      have hc := HC.out m (by omega) hmn
      have c0 := (hg2.out.cell (m * 2)).trans hc.1
      have c1 := (hg2.out.cell (m * 2 + 1)).trans hc.2
      have b0 := hk2.out.cell 0
      have b1 := hk2.out.cell 1
      simp at b0 b1
      have hm2 : Hid (m + 1 = n + (k + 1)) := Lib.hid (by omega)
      have hkk : k + 1 ≤ 3 := hlt
      have hmb : m ≤ 2000000 := by omega
      clear hm hlt hc
      go_wp2_with fail
      go_big_quiet (fail)
      go_wp2_with fail
      go_roundw
      case rel => exact ⟨k + 1, m + 1, _, hkk, hm2.out, by go_num, rfl⟩
      case measure => simp [intOf]; omega
    · have hmn : ¬ (m < n + 3) := by omega
      clear hm
      go_wp2_with fail
      go_ret
      exact ⟨rfl, drewN_below hb2 _⟩
end Go.Proofs.Ytpaojmiemjndlaa
