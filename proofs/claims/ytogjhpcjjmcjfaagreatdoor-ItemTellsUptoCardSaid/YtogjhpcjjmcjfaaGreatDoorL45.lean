import Derived.Test.YtogjhpcjjmcjfaaGreatDoorL03
import Derived.Test.YtogjhpcjjmcjfaaGreatDoorL41
import Derived.Laws.MakeOwn
import Derived.Laws.AppendOwnNone
import Derived.BigQuiet
/- what is reached of it -/
namespace Go.Proofs.YtogjhpcjjmcjfaaGreatDoor
open Go.RowKit Vc Ct
def vs (l : List ByteArray) : List Value := l.map Value.string
theorem vs_len (l : List ByteArray) : (vs l).length = l.length := List.length_map _
/-- A copy, with three of one text in the room behind it. -/
def OwnS3 (B : Nat) (w : World) (v : Value) (l : List ByteArray) (r : ByteArray) : Prop := ∃ g, v = .slice (some ⟨g, 0, none⟩) l.length (l.length + 3) ∧ B ≤ g ∧ Bk w g 9 (vs (l ++ [r, r, r])).toArray
theorem OwnS3.below {B C : Nat} {w w' : World} {v : Value} {l : List ByteArray} {r : ByteArray} (h : OwnS3 B w v l r) (hb : Below C w w') (hC : w.heap.size ≤ C) : OwnS3 B w' v l r := by
  obtain ⟨g, h1, h2, h3⟩ := h
  exact ⟨g, h1, h2, h3.below hb (Nat.lt_of_lt_of_le h3.lt hC)⟩
theorem OwnS3.reads {B : Nat} {w : World} {v : Value} {l : List ByteArray} {r : ByteArray} (h : OwnS3 B w v l r) : ReadT w.heap.size w v l := by
  obtain ⟨g, rfl, _, h3⟩ := h
  refine ⟨_, _, rfl, fun _ => ⟨_, rfl, h3.lt, fun i b hi => ?_⟩⟩
  rw [add_at, Nat.zero_add, h3.cell, List.getElem?_toArray]
  unfold vs
  rw [List.getElem?_map, List.getElem?_append_left (List.getElem?_eq_some_iff.1 hi).1, hi]
  rfl
theorem take_put1 {cur : Array Value} {m : Nat} {xs : List Value} (u : Value) (h : cur.toList.take m = xs) (hm : m < cur.size) : (cur.setIfInBounds m u).toList.take (m + 1) = xs ++ [u] := by
  have hx : xs.length = m := by rw [← h, List.length_take, Array.length_toList]; omega
  refine List.ext_getElem? fun j => ?_
  by_cases hj : j < m + 1
  · rw [List.getElem?_take_of_lt hj, Array.getElem?_toList, Array.getElem?_setIfInBounds]
    by_cases h1 : m = j
    · subst h1
      rw [if_pos rfl, if_pos hm, List.getElem?_append_right (by omega), hx, Nat.sub_self]
      rfl
    · rw [if_neg h1, List.getElem?_append_left (by omega), ← h, List.getElem?_take_of_lt (by omega), Array.getElem?_toList]
  · rw [List.getElem?_eq_none (by rw [List.length_take]; omega), List.getElem?_eq_none (by rw [List.length_append, hx]; simp; omega)]
set_option linter.unusedSimpArgs false in
set_option maxHeartbeats 4000000 in
set_option maxRecDepth 100000 in
theorem ownT_any (v : Value) (l : List ByteArray) (r : ByteArray) (w : World) (hv : ReadT w.heap.size w v l) (hl : l.length ≤ 1000000) :
    Calls Tryz.prog 11 #[v, .string r] w fun e w' => ∃ u, e = .returned u ∧ OwnS3 w.heap.size w' u l r ∧ Below w.heap.size w w' := by
  obtain ⟨i0, hi, hz0, hz1, hz2⟩ := info_parts infoStr
  obtain ⟨A, cap, rfl, hsrc⟩ := hv
  obtain ⟨n, hn⟩ : ∃ n, l.length = n := ⟨_, rfl⟩
  have hmk := run_make (P := Tryz.prog) w 22 9 i0 _ Tryz.underlying22 hi hz0 .i64 .i64 0 ((n : Int) + 3) (by omega) (by omega) (by rw [hz2]; omega) (by omega)
  have e1 : ((n : Int) + 3).toNat = n + 3 := by omega
  rw [e1, hz1] at hmk
  have e2 : (0 : Int).toNat = 0 := rfl
  rw [e2] at hmk
  obtain ⟨M, hM⟩ : ∃ M, madeCells (Value.string ⟨#[]⟩).cells ((n + 3) * 1) = M := ⟨_, rfl⟩
  have hMs : M.size = n + 3 := by rw [← hM, size_madeCells, Nat.mul_one]
  rw [hM] at hmk
  obtain ⟨g, hg⟩ : ∃ g, w.heap.size = g := ⟨_, rfl⟩
  obtain ⟨w2, hw2⟩ : ∃ w2, w.alloc (.cells M 9) = w2 := ⟨_, rfl⟩
  have hg2 : Bk w2 g 9 M := by rw [← hw2, ← hg]; exact Bk.new _ _ _
  have hb2 : Below w.heap.size w w2 := by rw [← hw2]; exact (Below.refl _ w).alloc (Nat.le_refl _) _
  rw [hw2, hg] at hmk
  rw [hn] at hl hsrc ⊢
  have HN := Lib.hid hn
  -- behind the append
  have hap : ∃ w3 cur, ((A = none ∧ w3 = w2 ∧ n = 0) ∨ ∃ ad, A = some ad ∧ (∀ ty, (Builtin.append_ #[22, 22] ty #[.slice (some ⟨g, 0, none⟩) 0 (n + 3), .slice A n cap]).run Tryz.prog w2 = .ok (.slice (some ⟨g, 0, none⟩) n (n + 3)) w3)) ∧ Bk w3 g 9 cur ∧ cur.size = n + 3 ∧ cur.toList.take n = vs l ∧ Below w.heap.size w w3 := by
    cases A with
    | none =>
      have hn0 : n = 0 := by
        rcases Nat.eq_zero_or_pos n with h | h
        · exact h
        · obtain ⟨ad, ha, _⟩ := hsrc h
          cases ha
      subst hn0
      obtain rfl : l = [] := List.length_eq_zero_iff.1 hn
      exact ⟨w2, M, .inl ⟨rfl, rfl, rfl⟩, hg2, hMs, rfl, hb2⟩
    | some ad =>
      have hlp := vs_len l
      rw [hn] at hlp
      have hfr := fun ty => run_append_room (P := Tryz.prog) w2 22 ty 9 i0 Tryz.underlying22 hi g 0 (n + 3) M hg2 ad n cap (vs l) (by rw [hz1]; omega) (fun j u hj => by
        have hj1 := (List.getElem?_eq_some_iff.1 hj).1
        obtain ⟨ad2, ha, hb, hc⟩ := hsrc (by omega)
        injection ha with ha
        subst ha
        unfold vs at hj
        rw [List.getElem?_map] at hj
        obtain ⟨b, hb1, rfl⟩ := Option.map_eq_some_iff.1 hj
        rw [hb2.cell (p := ad.add j) (by rw [addBlock]; exact hb)]
        exact hc j b hb1) (fun u hu => by
        obtain ⟨x, _, rfl⟩ := List.mem_map.1 hu
        rfl) (by omega) (by rw [Nat.zero_mul]; omega)
      simp only [Nat.zero_mul, Nat.zero_add, List.take_zero, List.nil_append] at hfr
      refine ⟨_, _, .inr ⟨ad, rfl, hfr⟩, setRow_heap w2 g M _ 9 _ hg2, ?_, ?_, ?_⟩
      · simp [hlp, hMs]
      · show (vs l ++ M.toList.drop (vs l).length).take n = vs l
        rw [← hlp]
        exact List.take_left
      · refine ⟨hb2.os, hb2.tape, hb2.output, by simpa using hb2.size, fun k hk => ?_⟩
        rw [setRow_other w2 g k _ (by omega)]
        exact hb2.block k hk
  obtain ⟨w3, cur, hap, hg3, hs3, ht3, hb3⟩ := hap
  have HG3 := Lib.hid hg3
  have HT3 := Lib.hid ht3
  have HS3 := Lib.hid hs3
  have HB3 := Lib.hid hb3
  have HGE := Lib.hid hg
  have HAP : Hid (Calls Tryz.prog 11 #[.slice A n cap, .string r] w fun e w' => ∃ u, e = .returned u ∧ OwnS3 w.heap.size w' u l r ∧ Below w.heap.size w w') := by
    have hown2 : Hid (w2.ownsRow w.heap.size 9 1 (.slice (some ⟨g, 0, none⟩) 0 (n + 3)) 0 []) := ⟨rfl, .inr ⟨_, _, M, rfl, by omega, hg2, Nat.zero_le _, by unfold maxLen; omega, by rw [hMs, Nat.mul_one], rfl⟩⟩
    clear hg3 ht3 hs3 hsrc hM hMs hg2 e1 e2 hn hb2 hb3 hg
    rcases hap with ⟨rfl, rfl, rfl⟩ | ⟨ad, rfl, hfr⟩
    · have HI := Lib.hid hi
      clear hi hz0 hz1 hz2
      have hmk' : (Instr.makeSlice 22 (.int .i64 0) (.int .i64 3)).run Tryz.prog w = .ok (.slice (some ⟨g, 0, none⟩) 0 3) w3 := hmk
      clear hmk
      have hcap : cap = cap := rfl
      go_enter Tryz.func11, Tryz.ntmps11
      go_wp2_with (at_builtin; refine wpList_append_own_none rfl _ _ 22 rfl w.heap.size 9 i0 1 Tryz.underlying22 HI.out (.slice (some ⟨g, 0, none⟩) 0 3) 0 [] rfl hown2.out rfl ?_)
      go_loopw [7] (fun i wr => ∃ (k m : Nat) (cs : Array Value), k ≤ 3 ∧ m = 0 + k ∧ i = .int .i64 m ∧ Hid (Bk wr g 9 cs) ∧ Hid (cs.size = 0 + 3) ∧ Hid (cs.toList.take m = vs (l ++ List.replicate k r)) ∧ Hid (Below w.heap.size w wr)) (fun i _ => 0 + 3 - (intOf i).toNat)
      case atStart => exact ⟨0, 0, cur, by omega, rfl, rfl, HG3.out, HS3.out, by unfold Hid; rw [List.replicate_zero, List.append_nil]; exact HT3.out, HB3.out⟩
      case round =>
        obtain ⟨k, m, cs, hk, hm, rfl, HG, HS, HT, BW⟩ := hrel
        by_cases hlt : k < 3
        · have hmn : m < 0 + 3 := by omega
          have hmz : (m : Int) < 0 + 3 := by omega
          have hm0 : (0 : Int) ≤ (m : Int) := by omega
          obtain ⟨x0, c0⟩ : ∃ x, wr.cell? ⟨g, m, none⟩ = some x := by
            rw [HG.out.cell m]
            exact ⟨_, Array.getElem?_eq_getElem (by rw [HS.out]; exact hmn)⟩
          have f0 := HG.out.free m
          have HG2 : Hid (Bk (wr.setCell ⟨g, m, none⟩ (.string r)) g 9 (cs.setIfInBounds m (.string r))) := HG.out.put _ _
          have HS2 : Hid ((cs.setIfInBounds m (.string r)).size = 0 + 3) := by unfold Hid; rw [Array.size_setIfInBounds]; exact HS.out
          have HT2 : Hid ((cs.setIfInBounds m (.string r)).toList.take (m + 1) = vs (l ++ List.replicate (k + 1) r)) := by
            unfold Hid
            rw [take_put1 _ HT.out (by rw [HS.out]; exact hmn), List.replicate_succ', ← List.append_assoc]
            unfold vs
            rw [List.map_append (l₁ := l ++ List.replicate k r)]
            rfl
          have BW2 : Hid (Below w.heap.size w (wr.setCell ⟨g, m, none⟩ (.string r))) := BW.out.setCell (p := ⟨g, m, none⟩) (by rw [HGE.out]; exact Nat.le_refl _) _
          have hm2 : Hid (m + 1 = 0 + (k + 1)) := Lib.hid (by omega)
          have hk2 : k + 1 ≤ 3 := hlt
          have hmb : m ≤ 2000000 := by omega
          clear hm hlt
          go_wp2_with fail
          go_roundw
          case rel => exact ⟨k + 1, m + 1, _, hk2, hm2.out, by go_num, HG2, HS2, HT2, BW2⟩
          case measure => simp [intOf]; omega
        · obtain rfl : k = 3 := by omega
          have hmn : ¬ (m < 0 + 3) := by omega
          have hmz : ¬ (m : Int) < 0 + 3 := by omega
          have HO : Hid (OwnS3 w.heap.size wr (.slice (some ⟨g, 0, none⟩) 0 (0 + 3)) l r) := by
            refine ⟨g, by rw [HN.out], by rw [HGE.out]; exact Nat.le_refl _, ?_⟩
            have h1 := HT.out
            have h2 := HS.out
            rw [hm, ← h2, ← Array.length_toList, List.take_length] at h1
            have h3 := HG.out
            rw [show l ++ [r, r, r] = l ++ List.replicate 3 r from rfl, ← h1]
            exact h3
          clear hm
          go_wp2_with fail
          go_ret
          exact ⟨_, rfl, by first | exact HO.out | (rw [← HGE.out]; exact HO.out), by first | exact BW.out | (rw [← HGE.out]; exact BW.out)⟩
    · clear hi hz0 hz1 hz2
      go_enter Tryz.func11, Tryz.ntmps11
      go_wp2_with (at_builtin; refine BigFrame.wpList_want rfl (fun K hK => wp_append_run _ _ 22 rfl rfl rfl (hfr _) (hK _ _ ?_)))
      go_loopw [7] (fun i wr => ∃ (k m : Nat) (cs : Array Value), k ≤ 3 ∧ m = n + k ∧ i = .int .i64 m ∧ Hid (Bk wr g 9 cs) ∧ Hid (cs.size = n + 3) ∧ Hid (cs.toList.take m = vs (l ++ List.replicate k r)) ∧ Hid (Below w.heap.size w wr)) (fun i _ => n + 3 - (intOf i).toNat)
      case atStart => exact ⟨0, n, cur, by omega, rfl, rfl, HG3.out, HS3.out, by unfold Hid; rw [List.replicate_zero, List.append_nil]; exact HT3.out, HB3.out⟩
      case round =>
        obtain ⟨k, m, cs, hk, hm, rfl, HG, HS, HT, BW⟩ := hrel
        by_cases hlt : k < 3
        · have hmn : m < n + 3 := by omega
          have hmz : (m : Int) < (n : Int) + 3 := by omega
          have hm0 : (0 : Int) ≤ (m : Int) := by omega
          obtain ⟨x0, c0⟩ : ∃ x, wr.cell? ⟨g, m, none⟩ = some x := by
            rw [HG.out.cell m]
            exact ⟨_, Array.getElem?_eq_getElem (by rw [HS.out]; exact hmn)⟩
          have f0 := HG.out.free m
          have HG2 : Hid (Bk (wr.setCell ⟨g, m, none⟩ (.string r)) g 9 (cs.setIfInBounds m (.string r))) := HG.out.put _ _
          have HS2 : Hid ((cs.setIfInBounds m (.string r)).size = n + 3) := by unfold Hid; rw [Array.size_setIfInBounds]; exact HS.out
          have HT2 : Hid ((cs.setIfInBounds m (.string r)).toList.take (m + 1) = vs (l ++ List.replicate (k + 1) r)) := by
            unfold Hid
            rw [take_put1 _ HT.out (by rw [HS.out]; exact hmn), List.replicate_succ', ← List.append_assoc]
            unfold vs
            rw [List.map_append (l₁ := l ++ List.replicate k r)]
            rfl
          have BW2 : Hid (Below w.heap.size w (wr.setCell ⟨g, m, none⟩ (.string r))) := BW.out.setCell (p := ⟨g, m, none⟩) (by rw [HGE.out]; exact Nat.le_refl _) _
          have hm2 : Hid (m + 1 = n + (k + 1)) := Lib.hid (by omega)
          have hk2 : k + 1 ≤ 3 := hlt
          have hmb : m ≤ 2000000 := by omega
          clear hm hlt
          go_wp2_with fail
          go_roundw
          case rel => exact ⟨k + 1, m + 1, _, hk2, hm2.out, by go_num, HG2, HS2, HT2, BW2⟩
          case measure => simp [intOf]; omega
        · obtain rfl : k = 3 := by omega
          have hmn : ¬ (m < n + 3) := by omega
          have hmz : ¬ (m : Int) < (n : Int) + 3 := by omega
          have HO : Hid (OwnS3 w.heap.size wr (.slice (some ⟨g, 0, none⟩) n (n + 3)) l r) := by
            refine ⟨g, by rw [HN.out], by rw [HGE.out]; exact Nat.le_refl _, ?_⟩
            have h1 := HT.out
            have h2 := HS.out
            rw [hm, ← h2, ← Array.length_toList, List.take_length] at h1
            have h3 := HG.out
            rw [show l ++ [r, r, r] = l ++ List.replicate 3 r from rfl, ← h1]
            exact h3
          clear hm
          go_wp2_with fail
          go_ret
          exact ⟨_, rfl, by first | exact HO.out | (rw [← HGE.out]; exact HO.out), by first | exact BW.out | (rw [← HGE.out]; exact BW.out)⟩
  exact HAP.out
set_option maxHeartbeats 4000000 in
set_option maxRecDepth 100000 in
theorem keptT_any (B : Nat) (v u : Value) (l : List ByteArray) (r : ByteArray) (w : World) (hv : OwnS3 B w v l r) (hu : ReadT w.heap.size w u l) (hl : l.length ≤ 1000000) :
    Calls Tryz.prog 22 #[v, u, .string r] w fun e w' => e = .returned (.bool true) ∧ Below w.heap.size w w' := by
  have HP := Lib.hid (plainT_any w.heap.size v u l l w hv.reads hu (by omega) (by omega))
  rw [decide_eq_true rfl] at HP
  obtain ⟨g, rfl, hB, hg⟩ := hv
  obtain ⟨A, cap, rfl, _⟩ := hu
  obtain ⟨n, hn⟩ : ∃ n, l.length = n := ⟨_, rfl⟩
  have HG := Lib.hid hg
  have HC : Hid (∀ m, n ≤ m → m < n + 3 → (vs (l ++ [r, r, r])).toArray[m]? = some (.string r)) := by
    intro m h1 h2
    rw [List.getElem?_toArray]
    unfold vs
    rw [List.getElem?_map, List.getElem?_append_right (by omega), hn]
    rcases (show m - n = 0 ∨ m - n = 1 ∨ m - n = 2 by omega) with h | h | h <;> rw [h] <;> rfl
  have hrr : (r.toList != r.toList) = false := by simp
  rw [hn] at hl HP ⊢
  clear hg hn
  go_enter Tryz.func22, Tryz.ntmps22
  go_wp2_with fail
  refine HP.out.mono ?_
  rintro e w2 ⟨rfl, b2⟩
  have HG2 := Lib.hid (HG.out.below b2 HG.out.lt)
  have HB2 := Lib.hid b2
  clear b2
  go_wp2_with fail
  go_loopw [8] (fun i wr => ∃ (m : Nat), n ≤ m ∧ m ≤ n + 3 ∧ i = .int .i64 m ∧ Hid (w2 = wr)) (fun i _ => n + 3 - (intOf i).toNat)
  case atStart => exact ⟨n, by omega, by omega, rfl, by first | exact trivial | exact rfl⟩
  case round =>
    obtain ⟨m, hm1, hm2, rfl, HWW⟩ := hrel
    have hww := HWW.out
    clear HWW
    subst hww
    by_cases hlt : m < n + 3
    · have hmz : (m : Int) < (n : Int) + 3 := by omega
      have hm0 : (0 : Int) ≤ (m : Int) := by omega
      have c0 := (HG2.out.cell m).trans (HC.out m hm1 hlt)
      have hmb : m ≤ 2000000 := by omega
      have HM1 := Lib.hid hm1
      clear hm1 hm2
      go_wp2_with fail
      go_roundw
      case rel => exact ⟨m + 1, by have := HM1.out; omega, by omega, by go_num, by first | exact trivial | exact rfl⟩
      case measure => simp [intOf]; omega
    · have hmz : ¬ (m : Int) < (n : Int) + 3 := by omega
      clear hm1 hm2
      go_wp2_with fail
      go_ret
      exact ⟨rfl, HB2.out⟩
end Go.Proofs.YtogjhpcjjmcjfaaGreatDoor
