import Derived.Test.YtogjhpcjjmcjfaaGreatDoorM13
import Derived.Test.YtogjhpcjjmcjfaaGreatDoorM12
import Derived.Lib.Hide
import Derived.Test.YtogjhpcjjmcjfaaGreatDoorShelf
import Derived.Laws.EntriesVeiled
section
/- what is reached of it -/
namespace Go.Proofs.YtogjhpcjjmcjfaaGreatDoor
open Go.RowKit Rg
/-- A question that may be asked of a character: a function that the call was handed, or has made. -/
def Asks (w : World) (v : Value) (p : Nat → Bool) : Prop := ∃ (F : FuncId) (cb : Array Value), v = .func (.func F) #[] cb ∧ (∀ args W, (callFunc F args).run Tryz.prog W = .ok (.enter F args) W) ∧
  ∀ (c : Nat) W, Below w.heap.size w W → Calls Tryz.prog F (#[.int .i64 c] ++ cb) W fun e w' => e = .returned (.bool (p c)) ∧ Below W.heap.size W w'
theorem Asks.below {w w' : World} {v : Value} {p : Nat → Bool} (h : Asks w v p) (hb : Below w.heap.size w w') : Asks w' v p := by
  obtain ⟨F, cb, rfl, eg, hp⟩ := h
  exact ⟨F, cb, rfl, eg, fun c W hW => hp c W (hb.trans (hW.mono hb.size))⟩
theorem any_hit {x : List Nat} {p : Nat → Bool} {k : Nat} (h : k < x.length) (hp : p (x.getD k 0) = true) : x.any p = true := by
  rw [List.any_eq_true]
  refine ⟨x.getD k 0, ?_, hp⟩
  rw [List.getD, List.getElem?_eq_getElem h]
  exact List.getElem_mem h
theorem any_miss {x : List Nat} {p : Nat → Bool} (h : ∀ k, k < x.length → p (x.getD k 0) = false) : x.any p = false := by
  rw [List.any_eq_false]
  intro c hc
  obtain ⟨k, hk, rfl⟩ := List.getElem_of_mem hc
  have := h k hk
  rw [List.getD, List.getElem?_eq_getElem hk] at this
  simpa using this

set_option maxHeartbeats 1000000 in
theorem indexFunc_any (v u : Value) (x : List Nat) (p : Nat → Bool) (w : World) (hv : Reads w.heap.size w v x) (hl : x.length ≤ 140737488355328) (hp : Asks w u p) :
    Calls Tryz.prog 167 #[v, u] w fun e w' => (∃ z : Int, e = .returned (.int .i64 z) ∧ decide (z ≥ 0) = x.any p) ∧ Below w.heap.size w w' := by
  obtain ⟨F, cb, rfl, eg, hp⟩ := hp
  obtain ⟨A, cap, rfl, hx⟩ := hv
  have HX := Lib.hid hx
  have HP := Lib.hid hp
  have HH := Lib.hid (fun (k : Nat) (h : k < x.length) (h2 : p (x.getD k 0) = true) => any_hit h h2)
  have HM := Lib.hid (fun (h : ∀ k, k < x.length → p (x.getD k 0) = false) => any_miss h)
  clear hx hp
  go_enter Tryz.func167, Tryz.ntmps167
  go_wp2_with fail
  go_loopw [8] (fun i wr => ∃ (k : Nat), k ≤ x.length ∧ i = .int .i64 k ∧ Hid (∀ j, j < k → p (x.getD j 0) = false) ∧ Below w.heap.size w wr) (fun i _ => x.length - (intOf i).toNat)
  case atStart => exact ⟨0, Nat.zero_le _, rfl, Lib.hid (fun j h => absurd h (Nat.not_lt_zero _)), Below.refl _ _⟩
  case round =>
    obtain ⟨k, hk, rfl, hno, hb⟩ := hrel
    have hsw := hb.size
    by_cases hlt : k < x.length
    · obtain ⟨ad, rfl, hlb, hc⟩ := HX.out (by omega)
      have c0 := hc k hlt
      rw [← hb.cell (p := ad.add k) (by rw [addBlock]; omega)] at c0
      obtain ⟨c, hcx⟩ : ∃ c, x.getD k 0 = c := ⟨_, rfl⟩
      rw [hcx] at c0
      have HC := Lib.hid hcx
      clear hc hcx
      go_wp2_with fail
      refine (HP.out c _ hb).mono ?_
      rintro e w2 ⟨rfl, b2⟩
      have hb2 : Below w.heap.size w w2 := hb.trans (b2.mono hsw)
      cases hq : p c with
      | true =>
        have hf := Lib.hid (HH.out k hlt (by rw [HC.out]; exact hq))
        clear hq b2
        go_wp2_with fail
        go_ret
        exact ⟨⟨_, rfl, by rw [hf.out]; simp⟩, hb2⟩
      | false =>
        have hno2 : Hid (∀ j, j < k + 1 → p (x.getD j 0) = false) := Lib.hid (fun j hj => by
          rcases Nat.lt_or_ge j k with h | h
          · exact hno.out j h
          · obtain rfl : j = k := by omega
            rw [HC.out]
            exact hq)
        clear hq b2
        go_wp2_with fail
        go_roundw
        case rel => exact ⟨k + 1, by omega, by go_num, hno2, hb2⟩
        case measure => simp [intOf]; omega
    · have hke : k = x.length := by omega
      have hf := Lib.hid (HM.out (fun j hj => hno.out j (by omega)))
      clear hke
      go_wp2_with fail
      go_ret
      exact ⟨⟨_, rfl, by rw [hf.out]; simp⟩, hb⟩
set_option maxHeartbeats 400000 in
theorem containsFunc_any (v u : Value) (x : List Nat) (p : Nat → Bool) (w : World) (hv : Reads w.heap.size w v x) (hl : x.length ≤ 140737488355328) (hp : Asks w u p) :
    Calls Tryz.prog 131 #[v, u] w fun e w' => e = .returned (.bool (x.any p)) ∧ Below w.heap.size w w' := by
  have HI := Lib.hid (indexFunc_any v u x p w hv hl hp)
  obtain ⟨A, cap, rfl, hx⟩ := hv
  obtain ⟨F, cb, rfl, eg, hp⟩ := hp
  obtain ⟨r, hr⟩ : ∃ r, x.any p = r := ⟨_, rfl⟩
  rw [hr] at HI ⊢
  clear hx hp hr eg
  go_enter Tryz.func131, Tryz.ntmps131
  go_wp2_with (go_at_call 167; refine HI.out.mono ?_; rintro e w1 ⟨⟨z, rfl, hz⟩, hb⟩)
  go_ret
  exact ⟨rfl, hb⟩

set_option maxHeartbeats 400000 in
theorem within1_any (bx : Nat) (v : Value) (l : List R) (c : Nat) (W : World) (hbx : W.cell? ⟨bx, 0, none⟩ = some v) (hv : ReadR W.heap.size W v l) (hl : l.length ≤ 140737488355328) :
    Calls Tryz.prog 135 (#[.int .i64 c] ++ #[.pointer (some ⟨bx, 0, none⟩)]) W fun e w' => e = .returned (.bool (inL l c)) ∧ Below W.heap.size W w' := by
  have HI := Lib.hid (in_any v l c W hv hl)
  obtain ⟨A, cap, rfl, _, hx⟩ := hv
  clear hx
  go_enter Tryz.func135, Tryz.ntmps135
  go_wp2_with fail
  refine HI.out.mono ?_
  rintro e w1 ⟨rfl, hb⟩
  go_wp2_with fail
  go_ret
  exact ⟨rfl, hb⟩
set_option maxHeartbeats 400000 in
theorem within_any (v : Value) (l : List R) (w : World) (hv : ReadR w.heap.size w v l) (hl : l.length ≤ 140737488355328) :
    Calls Tryz.prog 111 #[v] w fun e w' => ∃ u, e = .returned u ∧ Asks w' u (fun c => inL l c) ∧ Below w.heap.size w w' := by
  have hb1 : Below w.heap.size w (w.alloc (.cells #[v] 118)) := (Below.refl _ w).alloc (Nat.le_refl _) _
  have hk := Bk.new w 118 #[v]
  have eg : ∀ args w, (callFunc 135 args).run Tryz.prog w = .ok (.enter 135 args) w := Go.Proofs.enters_of Tryz.func135 (by kernel_rfl) rfl
  have HA : Hid (Asks (w.alloc (.cells #[v] 118)) (.func (.func 135) #[] #[.pointer (some ⟨w.heap.size, 0, none⟩)]) (fun c => inL l c)) := by
    refine ⟨_, _, rfl, eg, fun c W hW => ?_⟩
    have hs := hW.size
    rw [World.size_alloc] at hs
    refine within1_any w.heap.size v l c W ?_ ?_ hl
    · exact (hk.below hW (by simp)).cell 0
    · exact (((hv.below hb1).more (by simp)).below hW).more (by simp; omega)
  obtain ⟨A, cap, rfl, _, hx⟩ := hv
  clear hx eg hk
  go_enter Tryz.func111, Tryz.ntmps111
  go_wp2_with fail
  go_ret
  exact ⟨_, rfl, HA.out, hb1⟩

/-- What adds to the characters done, c by c. -/
def Adds (w : World) (v : Value) (f : Nat → List Nat) : Prop := ∃ (F : FuncId) (cb : Array Value), v = .func (.func F) #[] cb ∧ (∀ args W, (callFunc F args).run Tryz.prog W = .ok (.enter F args) W) ∧
  ∀ (B c : Nat) (d : Value) (x : List Nat) W, Below w.heap.size w W → w.heap.size ≤ B → B ≤ W.heap.size → Owned B W d x → x.length ≤ 1000000000000 → c ≤ 1114111 →
    Calls Tryz.prog F (#[d, .int .i64 c] ++ cb) W fun e w' => ∃ d', e = .returned d' ∧ Owned B w' d' (x ++ f c) ∧ Below B W w'
theorem Adds.below {w w' : World} {v : Value} {f : Nat → List Nat} (h : Adds w v f) (hb : Below w.heap.size w w') : Adds w' v f := by
  obtain ⟨F, cb, rfl, eg, hp⟩ := h
  exact ⟨F, cb, rfl, eg, fun B c d x W hW h1 h2 => hp B c d x W (hb.trans (hW.mono hb.size)) (Nat.le_trans hb.size h1) h2⟩
theorem flatMap_take {x : List Nat} {f : Nat → List Nat} {k : Nat} (h : k < x.length) : (x.take (k + 1)).flatMap f = (x.take k).flatMap f ++ f (x.getD k 0) := by
  rw [List.take_add_one, List.getElem?_eq_getElem h, List.flatMap_append, List.getD, List.getElem?_eq_getElem h, Option.toList_some, List.flatMap_singleton, Option.getD_some]
theorem flatMap_len {f : Nat → List Nat} (hf : ∀ c, (f c).length ≤ 2) : ∀ x : List Nat, (x.flatMap f).length ≤ 2 * x.length
  | [] => by simp
  | c :: x => by
    have := flatMap_len hf x
    have := hf c
    rw [List.flatMap_cons, List.length_append, List.length_cons]
    omega
theorem Owned.slice {B : Nat} {w : World} {v : Value} {x : List Nat} (h : Owned B w v x) : ∃ A cap, v = .slice A x.length cap := by
  rcases h.2 with ⟨rfl, h0⟩ | ⟨g, cap, cur, rfl, _⟩
  · exact ⟨none, 0, by rw [h0]⟩
  · exact ⟨_, _, rfl⟩
theorem Owned.weak {B B' : Nat} {w : World} {v : Value} {x : List Nat} (h : Owned B w v x) (hB : B' ≤ B) : Owned B' w v x :=
  ⟨h.1, h.2.imp id fun ⟨g, cap, cur, h1, h2, h3⟩ => ⟨g, cap, cur, h1, Nat.le_trans hB h2, h3⟩⟩

set_option maxHeartbeats 1000000 in
theorem mapped_any (v u : Value) (x : List Nat) (f : Nat → List Nat) (w : World) (hv : Reads w.heap.size w v x) (hl : x.length ≤ 100000000000) (hx0 : ∀ c ∈ x, c ≤ 1114111) (hf : ∀ c, (f c).length ≤ 2) (hp : Adds w u f) :
    Calls Tryz.prog 128 #[v, u] w fun e w' => ∃ d, e = .returned d ∧ Owned w.heap.size w' d (x.flatMap f) ∧ Below w.heap.size w w' := by
  obtain ⟨F, cb, rfl, eg, hp⟩ := hp
  obtain ⟨A, cap, rfl, hx⟩ := hv
  have HX := Lib.hid hx
  have HP := Lib.hid hp
  have HL := Lib.hid (fun k => flatMap_len hf (x.take k))
  have H0 := Lib.hid hx0
  clear hx hp hf hx0
  go_enter Tryz.func128, Tryz.ntmps128
  go_wp2_with fail
  go_loopw [5, 10] (fun vv i wr => ∃ (k : Nat) (d : Value), vv = d ∧ k ≤ x.length ∧ i = .int .i64 k ∧ Below w.heap.size w wr ∧ Hid (Owned w.heap.size wr d ((x.take k).flatMap f))) (fun _ i _ => x.length - (intOf i).toNat)
  case atStart => exact ⟨0, _, rfl, Nat.zero_le _, rfl, Below.refl _ _, Owned.nil _ _⟩
  case round =>
    obtain ⟨k, d, hd, hk, rfl, hb, ho⟩ := hrel
    have hd2 := hd.symm
    clear hd
    subst hd2
    have hsw := hb.size
    by_cases hlt : k < x.length
    · obtain ⟨ad, rfl, hlb, hc⟩ := HX.out (by omega)
      have c0 := hc k hlt
      rw [← hb.cell (p := ad.add k) (by rw [addBlock]; omega)] at c0
      obtain ⟨c, hcx⟩ : ∃ c, x.getD k 0 = c := ⟨_, rfl⟩
      have hcm : c ≤ 1114111 := H0.out c (by rw [← hcx, List.getD, List.getElem?_eq_getElem hlt]; exact List.getElem_mem hlt)
      have htk := Lib.hid (flatMap_take (f := f) hlt)
      rw [hcx] at c0 htk
      have hlen := HL.out k
      rw [List.length_take] at hlen
      have HN := Lib.hid (HP.out w.heap.size c d _ wr hb (Nat.le_refl _) hsw ho.out (by omega) hcm)
      obtain ⟨A2, c2, rfl⟩ := ho.out.slice
      obtain ⟨n2, hn2⟩ : ∃ n2, ((x.take k).flatMap f).length = n2 := ⟨_, rfl⟩
      rw [hn2] at HN
      rw [hn2]
      clear hc hcx hlen hn2 ho
      go_wp2_with fail
      refine HN.out.mono ?_
      rintro e w2 ⟨d2, rfl, o2, b2⟩
      have hb2 : Below w.heap.size w w2 := hb.trans b2
      have o3 : Hid (Owned w.heap.size w2 d2 ((x.take (k + 1)).flatMap f)) := by unfold Hid; rw [htk.out]; exact o2
      clear b2 o2 htk HN
      go_wp2_with fail
      go_roundw
      case rel => exact ⟨k + 1, _, rfl, by omega, by go_num, hb2, o3⟩
      case measure => simp [intOf]; omega
    · have hke : k = x.length := by omega
      have ho2 : Hid (Owned w.heap.size wr d (x.flatMap f)) := by
        have := ho.out
        rw [hke, List.take_length] at this
        exact this
      clear hke
      go_wp2_with fail
      go_ret
      exact ⟨_, rfl, ho2.out, hb⟩
end Go.Proofs.YtogjhpcjjmcjfaaGreatDoor
end
section
/- what is reached of it -/
namespace Go.Proofs.YtogjhpcjjmcjfaaGreatDoor
open Go.RowKit Rg Tx
/-- An append of numbers that stand in a new block. -/
theorem push_ints {ops : Array Oper} {rest : List Oper} {o : Oper} {a : Act} {Q : Exit → Act → World → Prop} (hgd : o.guard = none) (s x : Operand) (ho : o.op = .call { callee := .builtin .append, args := #[s, x], argTypes := #[73, 73] })
    (B : Nat) (v : Value) (l y : List Nat) (cs : Array Value) (n : Nat) (w0 : World) (hcs : cs.toList = ints y) (hn : y.length = n) (hs : a.eval s = v) (hown : Owned B w0 v l) (hx : a.eval x = .slice (some ⟨w0.heap.size, 0, none⟩) n n) (hl : l.length + y.length ≤ 2000000000000) (hB : B ≤ w0.heap.size)
    (h : ∀ v' w', Owned B w' v' (l ++ y) → Below B w0 w' → wpList Tryz.prog ops Q rest (a.put o.dst v') w') : wpList Tryz.prog ops Q (o :: rest) a (w0.alloc (.cells cs 3)) := by
  subst hn
  obtain ⟨i0, hi, hz0, hz1, hz2⟩ := info_parts infoInt
  have hown' : w0.ownsRow B 3 1 v l.length (ints l) := hown
  refine wpList_append_own _ hgd s x 73 ho B 3 i0 _ 1 8 Tryz.underlying73 hi hz0 hz1 hz2 rfl (by decide) v l.length (ints l) hs (hown'.alloc _) ⟨w0.heap.size, 0, none⟩ y.length y.length (ints y) hx ?_ ?_ ?_ ?_ (by omega) (by simp; omega) ?_
  · rw [ints_length, Nat.mul_one]
  · intro j u hj
    rw [add_at, cell_of_row _ _ _ cs _ (0, 0) (heap_alloc_new w0 _)]
    rw [Nat.zero_add, ← Array.getElem?_toList, hcs]
    exact hj
  · exact ints_cells y
  · unfold maxLen; omega
  · intro v' w' hown2 hg _
    refine h v' w' ?_ (((Below.refl B w0).alloc hB _).grown hg (by simp; omega) (fun j hj => (World.ownsRow.lt hown' j hj).1))
    unfold Owned
    rw [ints_append, List.length_append]
    exact hown2
theorem ints_of1 (a : Nat) : (#[.int .i64 (a : Nat)] : Array Value).toList = ints [a] := by rw [← ints_one]
theorem ints_of2 (a b : Nat) : (#[.int .i64 (a : Nat), .int .i64 (b : Nat)] : Array Value).toList = ints [a, b] := by rw [← ints_two]

set_option maxHeartbeats 1000000 in
theorem same_adds (w : World) : Adds w (.func (.func 115) #[] #[]) (fun c => [c]) := by
  refine ⟨_, _, rfl, Go.Proofs.enters_of Tryz.func115 (by kernel_rfl) rfl, fun B c d x W _ _ hB ho hx hc => ?_⟩
  show Calls Tryz.prog 115 #[d, .int .i64 c] W _
  have HO := Lib.hid ho
  obtain ⟨A, cap, rfl⟩ := ho.slice
  have hcs := Lib.hid (ints_of1 c)
  obtain ⟨z, hz⟩ : ∃ z : Int, (c : Int) = z := ⟨_, rfl⟩
  rw [hz] at hcs ⊢
  clear ho hz hc
  go_enter Tryz.func115, Tryz.ntmps115
  go_wp2_with (at_builtin; refine push_ints rfl _ _ rfl B (.slice A x.length cap) x [c] _ 1 W hcs.out rfl rfl HO.out rfl (by simp; omega) hB ?_)
  intro v' w' o2 b2
  have O2 := Lib.hid o2
  obtain ⟨A2, cap2, rfl⟩ := o2.slice
  clear o2
  go_wp2_with fail
  go_ret
  exact ⟨_, rfl, O2.out, b2⟩
set_option maxHeartbeats 2000000 in
theorem small_adds (w : World) : Adds w (.func (.func 110) #[] #[]) Pr.small := by
  refine ⟨_, _, rfl, Go.Proofs.enters_of Tryz.func110 (by kernel_rfl) rfl, fun B c d x W _ _ hB ho hx hc => ?_⟩
  show Calls Tryz.prog 110 #[d, .int .i64 c] W _
  have HO := Lib.hid ho
  obtain ⟨A, cap, rfl⟩ := ho.slice
  clear ho
  by_cases h0 : c = 223
  · have HF := Lib.hid (show Pr.small c = [115, 115] by unfold Pr.small; rw [if_pos h0])
    have hcs := Lib.hid (ints_of2 115 115)
    subst h0
    clear hc
    go_enter Tryz.func110, Tryz.ntmps110
    go_wp2_with (at_builtin; refine push_ints rfl _ _ rfl B (.slice A x.length cap) x [115, 115] _ 2 W hcs.out rfl rfl HO.out rfl (by simp; omega) hB ?_)
    intro v' w' o2 b2
    have O2 := Lib.hid o2
    obtain ⟨A2, cap2, rfl⟩ := o2.slice
    clear o2
    go_wp2_with fail
    go_ret
    exact ⟨_, rfl, by rw [HF.out]; exact O2.out, b2⟩
  · cases hcap : Pr.capital c with
    | true =>
      have HF := Lib.hid (show Pr.small c = [c + 32] by unfold Pr.small; rw [if_neg h0, hcap]; rfl)
      have hcs := Lib.hid (ints_of1 (c + 32))
      have h3 := Pr.capital_iff.1 hcap
      obtain ⟨z, hz⟩ : ∃ z : Int, (c : Int) = z := ⟨_, rfl⟩
      have e1 : ((c + 32 : Nat) : Int) = z + 32 := by omega
      rw [e1] at hcs
      have g0 : (z == 223) = false := by simp; omega
      have hz1 : z ≤ 1114111 := by omega
      have hz0 : 0 ≤ z := by omega
      rw [hz]
      rcases (show (decide (65 ≤ z) = true ∧ decide (z ≤ 90) = true) ∨ (decide (z ≤ 90) = false ∧ decide (65 ≤ z) = true ∧ decide (192 ≤ z) = true ∧ decide (z ≤ 222) = true ∧ (z != 215) = true) by
        simp only [decide_eq_true_eq, decide_eq_false_iff_not, bne_iff_ne]; omega) with ⟨g1, g2⟩ | ⟨g2, g1, g3, g4, g5⟩
      all_goals
        clear hcap h3 h0 hz e1 hc
        go_enter Tryz.func110, Tryz.ntmps110
        go_wp2_with (at_builtin; refine push_ints rfl _ _ rfl B (.slice A x.length cap) x [c + 32] _ 1 W hcs.out rfl rfl HO.out rfl (by simp; omega) hB ?_)
        intro v' w' o2 b2
        have O2 := Lib.hid o2
        obtain ⟨A2, cap2, rfl⟩ := o2.slice
        clear o2
        go_wp2_with fail
        go_ret
        exact ⟨_, rfl, by rw [HF.out]; exact O2.out, b2⟩
    | false =>
      have HF := Lib.hid (show Pr.small c = [c] by unfold Pr.small; rw [if_neg h0, hcap]; rfl)
      have hcs := Lib.hid (ints_of1 c)
      have h3 : ¬(65 ≤ c ∧ c ≤ 90 ∨ 192 ≤ c ∧ c ≤ 222 ∧ c ≠ 215) := fun h => by
        rw [Pr.capital_iff.2 h] at hcap
        cases hcap
      obtain ⟨z, hz⟩ : ∃ z : Int, (c : Int) = z := ⟨_, rfl⟩
      rw [hz] at hcs ⊢
      have g0 : (z == 223) = false := by simp; omega
      rcases (show (decide (65 ≤ z) = false ∧ decide (192 ≤ z) = false) ∨ (decide (65 ≤ z) = true ∧ decide (z ≤ 90) = false ∧ decide (192 ≤ z) = false) ∨ (decide (65 ≤ z) = true ∧ decide (z ≤ 90) = false ∧ decide (192 ≤ z) = true ∧ decide (z ≤ 222) = false) ∨ (decide (65 ≤ z) = true ∧ decide (z ≤ 90) = false ∧ decide (192 ≤ z) = true ∧ decide (z ≤ 222) = true ∧ (z != 215) = false) by
        simp only [decide_eq_true_eq, decide_eq_false_iff_not, bne_eq_false_iff_eq]; omega) with ⟨g1, g2⟩ | ⟨g1, g2, g3⟩ | ⟨g1, g2, g3, g4⟩ | ⟨g1, g2, g3, g4, g5⟩
      all_goals
        clear hcap h3 h0 hz hc
        go_enter Tryz.func110, Tryz.ntmps110
        go_wp2_with (at_builtin; refine push_ints rfl _ _ rfl B (.slice A x.length cap) x [c] _ 1 W hcs.out rfl rfl HO.out rfl (by simp; omega) hB ?_)
        intro v' w' o2 b2
        have O2 := Lib.hid o2
        obtain ⟨A2, cap2, rfl⟩ := o2.slice
        clear o2
        go_wp2_with fail
        go_ret
        exact ⟨_, rfl, by rw [HF.out]; exact O2.out, b2⟩

set_option maxHeartbeats 1000000 in
theorem lean1_any (g a : Nat) (vg va : Value) (q : Nat → Bool) (f : Nat → List Nat) (w0 : World) (hq : Asks w0 vg q) (hp : Adds w0 va f) (B c : Nat) (d : Value) (x : List Nat) (W : World) (hW : Below w0.heap.size w0 W) (h1 : w0.heap.size ≤ B) (hB : B ≤ W.heap.size)
    (hg : W.cell? ⟨g, 0, none⟩ = some vg) (ha : W.cell? ⟨a, 0, none⟩ = some va) (halt : a < w0.heap.size) (ho : Owned B W d x) (hx : x.length ≤ 1000000000000) (hc : c ≤ 1114111) :
    Calls Tryz.prog 166 #[d, .int .i64 c, .pointer (some ⟨g, 0, none⟩), .pointer (some ⟨a, 0, none⟩)] W fun e w' => ∃ d', e = .returned d' ∧ Owned B w' d' (x ++ if q c then [] else f c) ∧ Below B W w' := by
  obtain ⟨G, gb, rfl, eg, hq⟩ := hq
  obtain ⟨F, fb, rfl, ef, hp⟩ := hp
  have HQ := Lib.hid (hq c W hW)
  have HP := Lib.hid (fun W2 (b2 : Below W.heap.size W W2) (o2 : Owned B W2 d x) => hp B c d x W2 (hW.trans (b2.mono hW.size)) h1 (Nat.le_trans hB b2.size) o2 hx hc)
  have HO := Lib.hid ho
  have HA := Lib.hid (fun W2 (b2 : Below W.heap.size W W2) => (b2.cell (p := ⟨a, 0, none⟩) (Nat.lt_of_lt_of_le halt hW.size)).trans ha)
  obtain ⟨A, cap, rfl⟩ := ho.slice
  clear hq hp ho
  cases hqc : q c with
  | true =>
    have h0 := Lib.hid (show x ++ (if q c then [] else f c) = x by rw [hqc]; simp)
    rw [hqc] at HQ
    clear hqc ha
    go_enter Tryz.func166, Tryz.ntmps166
    go_wp2_with fail
    refine HQ.out.mono ?_
    rintro e w2 ⟨rfl, b2⟩
    have O2 := Lib.hid (HO.out.below b2)
    have b3 := b2.mono hB
    clear b2
    go_wp2_with fail
    go_ret
    exact ⟨_, rfl, by simpa using O2.out, b3⟩
  | false =>
    rw [hqc] at HQ
    clear hqc ha
    go_enter Tryz.func166, Tryz.ntmps166
    go_wp2_with fail
    refine HQ.out.mono ?_
    rintro e w2 ⟨rfl, b2⟩
    have O2 := Lib.hid (HO.out.below b2)
    have b3 := b2.mono hB
    have a2 := HA.out w2 b2
    have HN := Lib.hid (HP.out w2 b2 O2.out)
    clear b2
    go_wp2_with fail
    refine HN.out.mono ?_
    rintro e w4 ⟨d4, rfl, o4, b4⟩
    have O4 := Lib.hid o4
    obtain ⟨A4, cap4, hd4⟩ := o4.slice
    have b5 := b3.trans b4
    subst hd4
    clear o4 b4
    go_wp2_with fail
    go_ret
    exact ⟨_, rfl, by simpa using O4.out, b5⟩
set_option maxHeartbeats 1000000 in
theorem lean_any (u : Value) (f : Nat → List Nat) (w : World) (hp : Adds w u f) :
    Calls Tryz.prog 130 #[u] w fun e w' => ∃ v, e = .returned v ∧ Adds w' v (fun c => if Pr.gone c then [] else f c) ∧ Below w.heap.size w w' := by
  have hb1 : Below w.heap.size w (w.alloc (.cells #[u] 116)) := (Below.refl _ w).alloc (Nat.le_refl _) _
  have HK := Lib.hid (Bk.new w 116 #[u])
  have HG := Lib.hid (gone_any (w.alloc (.cells #[u] 116)))
  have HW := Lib.hid (fun v W (h : OwnR (w.heap.size + 1) W v goneL) => within_any v goneL W h.reads (by simp [goneL]))
  have HP := Lib.hid hp
  have eg : Hid (∀ args W, (callFunc 166 args).run Tryz.prog W = .ok (.enter 166 args) W) := Go.Proofs.enters_of Tryz.func166 (by kernel_rfl) rfl
  have HB1 := Lib.hid hb1
  obtain ⟨F, cb, rfl, _, _⟩ := hp
  clear hb1
  go_enter Tryz.func130, Tryz.ntmps130
  go_wp2_with fail
  refine HG.out.mono ?_
  rintro e w2 ⟨v2, rfl, o2, b2⟩
  rw [World.size_alloc] at o2
  have O2 := Lib.hid o2
  have B2 := Lib.hid (HB1.out.trans (b2.mono (by simp)))
  have K2 := Lib.hid (HK.out.below b2 (by simp))
  obtain ⟨A2, c2, hv2⟩ := o2.slice
  subst hv2
  clear o2 b2
  go_wp2_with fail
  refine (HW.out _ _ O2.out).mono ?_
  rintro e w3 ⟨v3, rfl, q3, b3⟩
  have B3 := Lib.hid (B2.out.trans (b3.mono B2.out.size))
  have K3 := Lib.hid (K2.out.below b3 K2.out.lt)
  have Q3 := Lib.hid q3
  obtain ⟨G, gb, rfl, _, _⟩ := q3
  obtain ⟨w4, hw4⟩ : ∃ w4, w3.alloc (.cells #[.func (.func G) #[] gb] 108) = w4 := ⟨_, rfl⟩
  have hb4 : Below w3.heap.size w3 w4 := by rw [← hw4]; exact (Below.refl _ w3).alloc (Nat.le_refl _) _
  have hk4 : Bk w4 w3.heap.size 108 #[.func (.func G) #[] gb] := by rw [← hw4]; exact Bk.new w3 _ _
  have hs4 : w4.heap.size = w3.heap.size + 1 := by rw [← hw4, World.size_alloc]
  have HF : Hid (Adds w4 (.func (.func 166) #[] #[.pointer (some ⟨w3.heap.size, 0, none⟩), .pointer (some ⟨w.heap.size, 0, none⟩)]) (fun c => if Pr.gone c then [] else f c)) := by
    refine ⟨_, _, rfl, eg.out, fun B c d x W hW h1 hB ho hx hc => ?_⟩
    have hk5 := (K3.out.below hb4 K3.out.lt).below hW (by have := K3.out.lt; omega)
    exact lean1_any w3.heap.size w.heap.size _ _ _ f _ (Q3.out.below hb4) ((HP.out.below B3.out).below hb4) B c d x W hW h1 hB ((hk4.below hW (by omega)).cell 0) (hk5.cell 0) (by have := K3.out.lt; omega) ho hx hc
  have HB4 := Lib.hid (B3.out.trans (hb4.mono B3.out.size))
  have HW4 := Lib.hid hw4
  clear hb4 hk4 b3 hw4 hs4
  go_wp2_with fail
  go_ret
  exact ⟨_, rfl, by have h := HF.out; rw [← HW4.out] at h; exact h, by have h := HB4.out; rw [← HW4.out] at h; exact h⟩
end Go.Proofs.YtogjhpcjjmcjfaaGreatDoor
end
