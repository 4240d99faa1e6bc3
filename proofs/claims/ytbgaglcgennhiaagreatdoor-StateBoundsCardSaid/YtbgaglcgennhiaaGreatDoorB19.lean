import Derived.Test.YtbgaglcgennhiaaGreatDoorB18
import Derived.Test.YtbgaglcgennhiaaGreatDoorShelf
import Derived.Laws.EntriesVeiled
/- what is reached of it -/
namespace Go.Proofs.YtbgaglcgennhiaaGreatDoor
open Go.RowKit Rg Tx
/-- An append of numbers that stand in a new block. -/
theorem push_ints {ops : Array Oper} {rest : List Oper} {o : Oper} {a : Act} {Q : Exit → Act → World → Prop} (hgd : o.guard = none) (s x : Operand) (ho : o.op = .call { callee := .builtin .append, args := #[s, x], argTypes := #[56, 56] })
    (B : Nat) (v : Value) (l y : List Nat) (cs : Array Value) (n : Nat) (w0 : World) (hcs : cs.toList = ints y) (hn : y.length = n) (hs : a.eval s = v) (hown : Owned B w0 v l) (hx : a.eval x = .slice (some ⟨w0.heap.size, 0, none⟩) n n) (hl : l.length + y.length ≤ 2000000000000) (hB : B ≤ w0.heap.size)
    (h : ∀ v' w', Owned B w' v' (l ++ y) → Below B w0 w' → wpList Tryz.prog ops Q rest (a.put o.dst v') w') : wpList Tryz.prog ops Q (o :: rest) a (w0.alloc (.cells cs 3)) := by
  subst hn
  obtain ⟨i0, hi, hz0, hz1, hz2⟩ := info_parts infoInt
  have hown' : w0.ownsRow B 3 1 v l.length (ints l) := hown
  refine wpList_append_own _ hgd s x 56 ho B 3 i0 _ 1 8 Tryz.underlying56 hi hz0 hz1 hz2 rfl (by decide) v l.length (ints l) hs (hown'.alloc _) ⟨w0.heap.size, 0, none⟩ y.length y.length (ints y) hx ?_ ?_ ?_ ?_ (by omega) (by simp; omega) ?_
  · rw [ints_length, Nat.mul_one]
  · intro j u hj
    rw [add_at, cell_of_row _ _ _ cs _ (0, 0) (heap_alloc_new w0 _)]
    rw [Nat.zero_add, ← Array.getElem?_toList, hcs]
    exact hj
  · exact ints_cells y
  · unfold maxLen; omega
  · intro v' w' hown2 hg _
    refine h v' w' ?_ (((Below.refl B w0).alloc hB _).grown hg (by simp; omega) (fun j hj => (World.ownsRow.lt hown' j hj).1))
    unfold Owned
    rw [ints_append, List.length_append]
    exact hown2
theorem ints_of1 (a : Nat) : (#[.int .i64 (a : Nat)] : Array Value).toList = ints [a] := by rw [← ints_one]
theorem ints_of2 (a b : Nat) : (#[.int .i64 (a : Nat), .int .i64 (b : Nat)] : Array Value).toList = ints [a, b] := by rw [← ints_two]

set_option maxHeartbeats 1000000 in
theorem same_adds (w : World) : Adds w (.func (.func 213) #[] #[]) (fun c => [c]) := by
  refine ⟨_, _, rfl, Go.Proofs.enters_of Tryz.func213 (by kernel_rfl) rfl, fun B c d x W _ _ hB ho hx hc => ?_⟩
  show Calls Tryz.prog 213 #[d, .int .i64 c] W _
  have HO := Lib.hid ho
  obtain ⟨A, cap, rfl⟩ := ho.slice
  have hcs := Lib.hid (ints_of1 c)
  obtain ⟨z, hz⟩ : ∃ z : Int, (c : Int) = z := ⟨_, rfl⟩
  rw [hz] at hcs ⊢
  clear ho hz hc
  go_enter Tryz.func213, Tryz.ntmps213
  go_wp2_with (at_builtin; refine push_ints rfl _ _ rfl B (.slice A x.length cap) x [c] _ 1 W hcs.out rfl rfl HO.out rfl (by simp; omega) hB ?_)
  intro v' w' o2 b2
  have O2 := Lib.hid o2
  obtain ⟨A2, cap2, rfl⟩ := o2.slice
  clear o2
  go_wp2_with fail
  go_ret
  exact ⟨_, rfl, O2.out, b2⟩
set_option maxHeartbeats 2000000 in
theorem small_adds (w : World) : Adds w (.func (.func 194) #[] #[]) Pr.small := by
  refine ⟨_, _, rfl, Go.Proofs.enters_of Tryz.func194 (by kernel_rfl) rfl, fun B c d x W _ _ hB ho hx hc => ?_⟩
  show Calls Tryz.prog 194 #[d, .int .i64 c] W _
  have HO := Lib.hid ho
  obtain ⟨A, cap, rfl⟩ := ho.slice
  clear ho
  by_cases h0 : c = 223
  · have HF := Lib.hid (show Pr.small c = [115, 115] by unfold Pr.small; rw [if_pos h0])
    have hcs := Lib.hid (ints_of2 115 115)
    subst h0
    clear hc
    go_enter Tryz.func194, Tryz.ntmps194
    go_wp2_with (at_builtin; refine push_ints rfl _ _ rfl B (.slice A x.length cap) x [115, 115] _ 2 W hcs.out rfl rfl HO.out rfl (by simp; omega) hB ?_)
    intro v' w' o2 b2
    have O2 := Lib.hid o2
    obtain ⟨A2, cap2, rfl⟩ := o2.slice
    clear o2
    go_wp2_with fail
    go_ret
    exact ⟨_, rfl, by rw [HF.out]; exact O2.out, b2⟩
  · cases hcap : Pr.capital c with
    | true =>
      have HF := Lib.hid (show Pr.small c = [c + 32] by unfold Pr.small; rw [if_neg h0, hcap]; rfl)
      have hcs := Lib.hid (ints_of1 (c + 32))
      have h3 := Pr.capital_iff.1 hcap
      obtain ⟨z, hz⟩ : ∃ z : Int, (c : Int) = z := ⟨_, rfl⟩
      have e1 : ((c + 32 : Nat) : Int) = z + 32 := by omega
      rw [e1] at hcs
      have g0 : (z == 223) = false := by simp; omega
      have hz1 : z ≤ 1114111 := by omega
      have hz0 : 0 ≤ z := by omega
      rw [hz]
      rcases (show (decide (65 ≤ z) = true ∧ decide (z ≤ 90) = true) ∨ (decide (z ≤ 90) = false ∧ decide (65 ≤ z) = true ∧ decide (192 ≤ z) = true ∧ decide (z ≤ 222) = true ∧ (z != 215) = true) by
        simp only [decide_eq_true_eq, decide_eq_false_iff_not, bne_iff_ne]; omega) with ⟨g1, g2⟩ | ⟨g2, g1, g3, g4, g5⟩
      all_goals
        clear hcap h3 h0 hz e1 hc
        go_enter Tryz.func194, Tryz.ntmps194
        go_wp2_with (at_builtin; refine push_ints rfl _ _ rfl B (.slice A x.length cap) x [c + 32] _ 1 W hcs.out rfl rfl HO.out rfl (by simp; omega) hB ?_)
        intro v' w' o2 b2
        have O2 := Lib.hid o2
        obtain ⟨A2, cap2, rfl⟩ := o2.slice
        clear o2
        go_wp2_with fail
        go_ret
        exact ⟨_, rfl, by rw [HF.out]; exact O2.out, b2⟩
    | false =>
      have HF := Lib.hid (show Pr.small c = [c] by unfold Pr.small; rw [if_neg h0, hcap]; rfl)
      have hcs := Lib.hid (ints_of1 c)
      have h3 : ¬(65 ≤ c ∧ c ≤ 90 ∨ 192 ≤ c ∧ c ≤ 222 ∧ c ≠ 215) := fun h => by
        rw [Pr.capital_iff.2 h] at hcap
        cases hcap
      obtain ⟨z, hz⟩ : ∃ z : Int, (c : Int) = z := ⟨_, rfl⟩
      rw [hz] at hcs ⊢
      have g0 : (z == 223) = false := by simp; omega
      rcases (show (decide (65 ≤ z) = false ∧ decide (192 ≤ z) = false) ∨ (decide (65 ≤ z) = true ∧ decide (z ≤ 90) = false ∧ decide (192 ≤ z) = false) ∨ (decide (65 ≤ z) = true ∧ decide (z ≤ 90) = false ∧ decide (192 ≤ z) = true ∧ decide (z ≤ 222) = false) ∨ (decide (65 ≤ z) = true ∧ decide (z ≤ 90) = false ∧ decide (192 ≤ z) = true ∧ decide (z ≤ 222) = true ∧ (z != 215) = false) by
        simp only [decide_eq_true_eq, decide_eq_false_iff_not, bne_eq_false_iff_eq]; omega) with ⟨g1, g2⟩ | ⟨g1, g2, g3⟩ | ⟨g1, g2, g3, g4⟩ | ⟨g1, g2, g3, g4, g5⟩
      all_goals
        clear hcap h3 h0 hz hc
        go_enter Tryz.func194, Tryz.ntmps194
        go_wp2_with (at_builtin; refine push_ints rfl _ _ rfl B (.slice A x.length cap) x [c] _ 1 W hcs.out rfl rfl HO.out rfl (by simp; omega) hB ?_)
        intro v' w' o2 b2
        have O2 := Lib.hid o2
        obtain ⟨A2, cap2, rfl⟩ := o2.slice
        clear o2
        go_wp2_with fail
        go_ret
        exact ⟨_, rfl, by rw [HF.out]; exact O2.out, b2⟩

set_option maxHeartbeats 1000000 in
theorem lean1_any (g a : Nat) (vg va : Value) (q : Nat → Bool) (f : Nat → List Nat) (w0 : World) (hq : Asks w0 vg q) (hp : Adds w0 va f) (B c : Nat) (d : Value) (x : List Nat) (W : World) (hW : Below w0.heap.size w0 W) (h1 : w0.heap.size ≤ B) (hB : B ≤ W.heap.size)
    (hg : W.cell? ⟨g, 0, none⟩ = some vg) (ha : W.cell? ⟨a, 0, none⟩ = some va) (halt : a < w0.heap.size) (ho : Owned B W d x) (hx : x.length ≤ 1000000000000) (hc : c ≤ 1114111) :
    Calls Tryz.prog 253 #[d, .int .i64 c, .pointer (some ⟨g, 0, none⟩), .pointer (some ⟨a, 0, none⟩)] W fun e w' => ∃ d', e = .returned d' ∧ Owned B w' d' (x ++ if q c then [] else f c) ∧ Below B W w' := by
  obtain ⟨G, gb, rfl, eg, hq⟩ := hq
  obtain ⟨F, fb, rfl, ef, hp⟩ := hp
  have HQ := Lib.hid (hq c W hW)
  have HP := Lib.hid (fun W2 (b2 : Below W.heap.size W W2) (o2 : Owned B W2 d x) => hp B c d x W2 (hW.trans (b2.mono hW.size)) h1 (Nat.le_trans hB b2.size) o2 hx hc)
  have HO := Lib.hid ho
  have HA := Lib.hid (fun W2 (b2 : Below W.heap.size W W2) => (b2.cell (p := ⟨a, 0, none⟩) (Nat.lt_of_lt_of_le halt hW.size)).trans ha)
  obtain ⟨A, cap, rfl⟩ := ho.slice
  clear hq hp ho
  cases hqc : q c with
  | true =>
    have h0 := Lib.hid (show x ++ (if q c then [] else f c) = x by rw [hqc]; simp)
    rw [hqc] at HQ
    clear hqc ha
    go_enter Tryz.func253, Tryz.ntmps253
    go_wp2_with fail
    refine HQ.out.mono ?_
    rintro e w2 ⟨rfl, b2⟩
    have O2 := Lib.hid (HO.out.below b2)
    have b3 := b2.mono hB
    clear b2
    go_wp2_with fail
    go_ret
    exact ⟨_, rfl, by simpa using O2.out, b3⟩
  | false =>
    rw [hqc] at HQ
    clear hqc ha
    go_enter Tryz.func253, Tryz.ntmps253
    go_wp2_with fail
    refine HQ.out.mono ?_
    rintro e w2 ⟨rfl, b2⟩
    have O2 := Lib.hid (HO.out.below b2)
    have b3 := b2.mono hB
    have a2 := HA.out w2 b2
    have HN := Lib.hid (HP.out w2 b2 O2.out)
    clear b2
    go_wp2_with fail
    refine HN.out.mono ?_
    rintro e w4 ⟨d4, rfl, o4, b4⟩
    have O4 := Lib.hid o4
    obtain ⟨A4, cap4, hd4⟩ := o4.slice
    have b5 := b3.trans b4
    subst hd4
    clear o4 b4
    go_wp2_with fail
    go_ret
    exact ⟨_, rfl, by simpa using O4.out, b5⟩
set_option maxHeartbeats 1000000 in
theorem lean_any (u : Value) (f : Nat → List Nat) (w : World) (hp : Adds w u f) :
    Calls Tryz.prog 225 #[u] w fun e w' => ∃ v, e = .returned v ∧ Adds w' v (fun c => if Pr.gone c then [] else f c) ∧ Below w.heap.size w w' := by
  have hb1 : Below w.heap.size w (w.alloc (.cells #[u] 179)) := (Below.refl _ w).alloc (Nat.le_refl _) _
  have HK := Lib.hid (Bk.new w 179 #[u])
  have HG := Lib.hid (gone_any (w.alloc (.cells #[u] 179)))
  have HW := Lib.hid (fun v W (h : OwnR (w.heap.size + 1) W v goneL) => within_any v goneL W h.reads (by simp [goneL]))
  have HP := Lib.hid hp
  have eg : Hid (∀ args W, (callFunc 253 args).run Tryz.prog W = .ok (.enter 253 args) W) := Go.Proofs.enters_of Tryz.func253 (by kernel_rfl) rfl
  have HB1 := Lib.hid hb1
  obtain ⟨F, cb, rfl, _, _⟩ := hp
  clear hb1
  go_enter Tryz.func225, Tryz.ntmps225
  go_wp2_with fail
  refine HG.out.mono ?_
  rintro e w2 ⟨v2, rfl, o2, b2⟩
  rw [World.size_alloc] at o2
  have O2 := Lib.hid o2
  have B2 := Lib.hid (HB1.out.trans (b2.mono (by simp)))
  have K2 := Lib.hid (HK.out.below b2 (by simp))
  obtain ⟨A2, c2, hv2⟩ := o2.slice
  subst hv2
  clear o2 b2
  go_wp2_with fail
  refine (HW.out _ _ O2.out).mono ?_
  rintro e w3 ⟨v3, rfl, q3, b3⟩
  have B3 := Lib.hid (B2.out.trans (b3.mono B2.out.size))
  have K3 := Lib.hid (K2.out.below b3 K2.out.lt)
  have Q3 := Lib.hid q3
  obtain ⟨G, gb, rfl, _, _⟩ := q3
  obtain ⟨w4, hw4⟩ : ∃ w4, w3.alloc (.cells #[.func (.func G) #[] gb] 147) = w4 := ⟨_, rfl⟩
  have hb4 : Below w3.heap.size w3 w4 := by rw [← hw4]; exact (Below.refl _ w3).alloc (Nat.le_refl _) _
  have hk4 : Bk w4 w3.heap.size 147 #[.func (.func G) #[] gb] := by rw [← hw4]; exact Bk.new w3 _ _
  have hs4 : w4.heap.size = w3.heap.size + 1 := by rw [← hw4, World.size_alloc]
  have HF : Hid (Adds w4 (.func (.func 253) #[] #[.pointer (some ⟨w3.heap.size, 0, none⟩), .pointer (some ⟨w.heap.size, 0, none⟩)]) (fun c => if Pr.gone c then [] else f c)) := by
    refine ⟨_, _, rfl, eg.out, fun B c d x W hW h1 hB ho hx hc => ?_⟩
    have hk5 := (K3.out.below hb4 K3.out.lt).below hW (by have := K3.out.lt; omega)
    exact lean1_any w3.heap.size w.heap.size _ _ _ f _ (Q3.out.below hb4) ((HP.out.below B3.out).below hb4) B c d x W hW h1 hB ((hk4.below hW (by omega)).cell 0) (hk5.cell 0) (by have := K3.out.lt; omega) ho hx hc
  have HB4 := Lib.hid (B3.out.trans (hb4.mono B3.out.size))
  have HW4 := Lib.hid hw4
  clear hb4 hk4 b3 hw4 hs4
  go_wp2_with fail
  go_ret
  exact ⟨_, rfl, by have h := HF.out; rw [← HW4.out] at h; exact h, by have h := HB4.out; rw [← HW4.out] at h; exact h⟩
end Go.Proofs.YtbgaglcgennhiaaGreatDoor
