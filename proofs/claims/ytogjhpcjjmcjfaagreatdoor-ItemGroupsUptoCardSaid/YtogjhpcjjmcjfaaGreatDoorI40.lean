import Derived.Test.YtogjhpcjjmcjfaaGreatDoorI39
import Derived.Test.YtogjhpcjjmcjfaaGreatDoorI37
import Derived.Test.YtogjhpcjjmcjfaaGreatDoorI28
import Derived.Test.YtogjhpcjjmcjfaaGreatDoorI29
import Derived.Sort.KeysCollected
import Derived.Sort.Walk0
import Derived.Lib.SlicesCompact
section
/- what is reached of it -/
namespace Go.Proofs.YtogjhpcjjmcjfaaGreatDoor.Ct
open Go.Proofs.YtogjhpcjjmcjfaaGreatDoor Tx Vc
theorem flat_cons1 (c : Nat) (cs : List Nat) : flat (c :: cs) = enc c ++ flat cs := by rw [show c :: cs = [c] ++ cs from rfl, flat_append, flat_one]
theorem flat_len : ∀ cs : List Nat, (flat cs).length ≤ 4 * cs.length
  | [] => by simp [flat]
  | c :: cs => by
    have h1 := flat_len cs
    have h2 := (enc_len (n := c)).2
    rw [flat_cons1, List.length_append, List.length_cons]
    omega
/-- one more group, at its place -/
theorem ins_at : ∀ {l : List (List UInt8)} {x : List UInt8} {k : Nat}, (∀ i y, i < k → l[i]? = some y → Jd.ltL y x = true) → (∀ y, l[k]? = some y → Jd.ltL y x = false) → k ≤ l.length → ins x l = if l[k]? = some x then l else l.take k ++ x :: l.drop k
  | [], x, k, _, _, hk => by
    obtain rfl : k = 0 := by simpa using hk
    rfl
  | y :: t, x, 0, _, h2, _ => by
    have h3 : Jd.ltL y x = false := h2 y rfl
    rw [ins, if_neg (by rw [h3]; decide)]
    by_cases e : y = x
    · rw [if_pos e, if_pos (by rw [e]; rfl)]
    · rw [if_neg e, if_neg (show ¬ (y :: t)[0]? = some x from fun h => e (Option.some.inj h))]
      rfl
  | y :: t, x, k + 1, h1, h2, hk => by
    have h3 : Jd.ltL y x = true := h1 0 y (Nat.succ_pos _) rfl
    rw [ins, if_pos h3, ins_at (l := t) (x := x) (k := k) (fun i z hi hz => h1 (i + 1) z (by omega) hz) (fun z hz => h2 z hz) (by simpa using hk)]
    by_cases e : t[k]? = some x
    · rw [if_pos e, if_pos (show (y :: t)[k + 1]? = some x from e)]
    · rw [if_neg e, if_neg (show ¬ (y :: t)[k + 1]? = some x from e)]
      rfl
end Go.Proofs.YtogjhpcjjmcjfaaGreatDoor.Ct
end
section
/- what is reached of it -/
namespace Go.Proofs.YtogjhpcjjmcjfaaGreatDoor
open Go.RowKit Vc Ct
def conCells (c : Con) (g o : Value) : Array Value := #[.string (bts c.name), .string (bts c.family), .string (bts c.given), .string (bts c.nick), .string (bts c.jid), .string (bts c.email), .string (bts c.tel), .string (bts c.note), .string (bts c.uid), g, o]
abbrev agC (c : Con) (g o : Value) : Value := .agg (conCells c g o)
/-- Attributes, properties that can be read, each at a place of its own. -/
def SeenA (w : World) (u : Value) (l : List Att) : Prop := ∃ A cap, u = .slice A l.length cap ∧ (0 < l.length → ∃ b o : Nat, A = some ⟨b, o, none⟩ ∧ b < w.heap.size ∧ ∀ i a, l[i]? = some a → w.cell? ⟨b, o + i * 2, none⟩ = some (.string (bts a.1)) ∧ w.cell? ⟨b, o + i * 2 + 1, none⟩ = some (.string (bts a.2)))
theorem SeenA.reads {w : World} {u : Value} {l : List Att} (h : SeenA w u l) : ReadA w u l := by
  obtain ⟨A, cap, rfl, h2⟩ := h
  refine ⟨A, cap, rfl, fun h0 => ?_⟩
  obtain ⟨b, o, rfl, hl, hc⟩ := h2 h0
  refine ⟨_, rfl, hl, fun i a hi => ?_⟩
  rw [add_at]
  exact hc i a hi
theorem SeenA.below {w w' : World} {u : Value} {l : List Att} (h : SeenA w u l) (hb : Below w.heap.size w w') : SeenA w' u l := by
  obtain ⟨A, cap, rfl, h2⟩ := h
  refine ⟨A, cap, rfl, fun h0 => ?_⟩
  obtain ⟨b, o, rfl, hl, hc⟩ := h2 h0
  refine ⟨b, o, rfl, Nat.lt_of_lt_of_le hl hb.size, fun i a hi => ?_⟩
  rw [hb.cell (p := ⟨b, o + i * 2, none⟩) hl, hb.cell (p := ⟨b, o + i * 2 + 1, none⟩) hl]
  exact hc i a hi
def SeenP (w : World) (v : Value) (ps : List Pr) : Prop := ∃ A cap, v = .slice A ps.length cap ∧ (0 < ps.length → ∃ ad : Addr, A = some ad ∧ ad.block < w.heap.size ∧ ∀ i x, ps[i]? = some x → ∃ u, AtP w (ad.add (i * 4)) x u ∧ SeenA w u x.2.2.1)
theorem SeenP.reads {w : World} {v : Value} {ps : List Pr} (h : SeenP w v ps) : ReadP w v ps := by
  obtain ⟨A, cap, rfl, h2⟩ := h
  refine ⟨A, cap, rfl, fun h0 => ?_⟩
  obtain ⟨ad, rfl, hl, hc⟩ := h2 h0
  refine ⟨ad, rfl, hl, fun i x hi => ?_⟩
  obtain ⟨u, h3, h4⟩ := hc i x hi
  exact ⟨u, h3, h4.reads⟩
theorem SeenP.below {w w' : World} {v : Value} {ps : List Pr} (h : SeenP w v ps) (hb : Below w.heap.size w w') : SeenP w' v ps := by
  obtain ⟨A, cap, rfl, h2⟩ := h
  refine ⟨A, cap, rfl, fun h0 => ?_⟩
  obtain ⟨ad, rfl, hl, hc⟩ := h2 h0
  refine ⟨ad, rfl, Nat.lt_of_lt_of_le hl hb.size, fun i x hi => ?_⟩
  obtain ⟨u, h3, h4⟩ := hc i x hi
  exact ⟨u, h3.of (hb.block _ (by rw [addBlock]; exact hl)), h4.below hb⟩
theorem SeenP.nil (w : World) : SeenP w (.slice none 0 0) [] := ⟨none, 0, rfl, fun h => absurd h (Nat.not_lt_zero _)⟩
/-- A contact that can be read. -/
def SeenC (w : World) (v : Value) (c : Con) : Prop := ∃ g o, v = agC c g o ∧ ReadT w.heap.size w g (sts c.groups) ∧ SeenP w o c.other
theorem ReadT.upon {w w' : World} {v : Value} {x : List ByteArray} (h : ReadT w.heap.size w v x) (hb : Below w.heap.size w w') : ReadT w'.heap.size w' v x := (h.below hb).more hb.size
theorem SeenC.below {w w' : World} {v : Value} {c : Con} (h : SeenC w v c) (hb : Below w.heap.size w w') : SeenC w' v c := by
  obtain ⟨g, o, rfl, h1, h2⟩ := h
  exact ⟨g, o, rfl, h1.upon hb, h2.below hb⟩
end Go.Proofs.YtogjhpcjjmcjfaaGreatDoor
end
section
/- what is reached of it -/
namespace Go.Proofs.YtogjhpcjjmcjfaaGreatDoor.Ct
open Go.Proofs.YtogjhpcjjmcjfaaGreatDoor Tx Vc
theorem rising_uniq : ∀ {a b : List (List UInt8)}, risingB a = true → risingB b = true → (∀ g, g ∈ a ↔ g ∈ b) → a = b
  | [], [], _, _, _ => rfl
  | [], y :: t, _, _, h => by have := (h y).2 List.mem_cons_self; cases this
  | x :: s, [], _, _, h => by have := (h x).1 List.mem_cons_self; cases this
  | x :: s, y :: t, h1, h2, h => by
    have hx := (h x).1 List.mem_cons_self
    have hy := (h y).2 List.mem_cons_self
    have e : x = y := by
      rcases List.mem_cons.1 hx with hx | hx
      · exact hx
      rcases List.mem_cons.1 hy with hy | hy
      · exact hy.symm
      have k1 := rising_lt h2 x hx
      have k2 := rising_lt h1 y hy
      have := Jd.lt_trans _ _ _ k1 k2
      rw [Jd.lt_irr] at this
      cases this
    subst e
    congr 1
    refine rising_uniq (rising_tail h1) (rising_tail h2) fun g => ?_
    have hg := h g
    constructor
    · intro k
      rcases List.mem_cons.1 (hg.1 (List.mem_cons_of_mem _ k)) with k2 | k2
      · subst k2
        have := rising_lt h1 _ k
        rw [Jd.lt_irr] at this
        cases this
      · exact k2
    · intro k
      rcases List.mem_cons.1 (hg.2 (List.mem_cons_of_mem _ k)) with k2 | k2
      · subst k2
        have := rising_lt h2 _ k
        rw [Jd.lt_irr] at this
        cases this
      · exact k2
/-- a list that rises, of just those -/
theorem groups_is {l m : List (List UInt8)} (h1 : risingB m = true) (h2 : ∀ g, g ∈ m ↔ (g ∈ l ∧ g ≠ [])) : m = groupsL l := by
  obtain ⟨k1, k2⟩ := groups_rising l
  exact rising_uniq h1 k1 fun g => (h2 g).trans (k2 g).symm

end Go.Proofs.YtogjhpcjjmcjfaaGreatDoor.Ct
end
section
/- what is reached of it -/
namespace Go.Proofs.YtogjhpcjjmcjfaaGreatDoor.Ct
open Go.Proofs.YtogjhpcjjmcjfaaGreatDoor Tx Vc
theorem lt_iff (x y : List UInt8) : Jd.ltL x y = true ↔ x < y := by
  unfold Jd.ltL
  rw [Go.Proofs.bytesLess_eq, decide_eq_true_eq]
theorem rising_pair : ∀ {l : List (List UInt8)}, l.Pairwise (fun x y => Jd.ltL x y = true) → risingB l = true
  | [], _ => rfl
  | [_], _ => rfl
  | x :: y :: t, h => by
    obtain ⟨h1, h2⟩ := List.pairwise_cons.1 h
    show (Jd.ltL x y && risingB (y :: t)) = true
    rw [h1 y List.mem_cons_self, rising_pair h2]
    rfl
/-- all that is sorted stands in order -/
theorem sorted_at {zs : List (List UInt8)} : (zs.mergeSort fun x y => decide (x ≤ y)).Pairwise (fun x y => x ≤ y) := by
  have tr : ∀ a b c : List UInt8, decide (a ≤ b) = true → decide (b ≤ c) = true → decide (a ≤ c) = true := fun a b c h1 h2 => by
    simp only [decide_eq_true_eq] at *
    exact List.le_trans h1 h2
  have tot : ∀ a b : List UInt8, (decide (a ≤ b) || decide (b ≤ a)) = true := fun a b => by
    simp only [Bool.or_eq_true, decide_eq_true_eq]
    exact List.le_total a b
  exact (List.pairwise_mergeSort tr tot zs).imp (fun h => of_decide_eq_true h)
theorem compact_rising {s : List (List UInt8)} (h : s.Pairwise (fun x y => x ≤ y)) : (Lib.compact s).Pairwise (fun x y => Jd.ltL x y = true) ∧ ∀ x, x ∈ Lib.compact s ↔ x ∈ s := by
  have hle : ∀ i j, i ≤ j → j < s.length → s.toArray[i]! ≤ s.toArray[j]! := fun i j hij hj => by
    have hi : i < s.length := by omega
    rw [getElem!_pos _ i (by simpa using hi), getElem!_pos _ j (by simpa using hj)]
    rcases Nat.lt_or_eq_of_le hij with h2 | h2
    · have := List.pairwise_iff_getElem.1 h i j hi hj h2
      simpa using this
    · subst h2
      exact List.le_refl _
  constructor
  · unfold Lib.compact Lib.compactUpTo
    rw [List.pairwise_map]
    have hr : ((List.range s.length).filter (Lib.keeps s.toArray)).Pairwise (fun i j => i < j ∧ Lib.keeps s.toArray j = true ∧ j < s.length) := by
      refine List.Pairwise.imp_of_mem (R := fun i j => i < j) (fun {i j} hi hj hlt => ?_) (List.Pairwise.filter _ List.pairwise_lt_range)
      obtain ⟨k1, k2⟩ := List.mem_filter.1 hj
      exact ⟨hlt, k2, List.mem_range.1 k1⟩
    refine hr.imp (fun {i j} hij => ?_)
    obtain ⟨hlt, hk, hj⟩ := hij
    rw [lt_iff]
    have h1 := hle i j (by omega) hj
    rcases List.le_iff_lt_or_eq.1 h1 with h2 | h2
    · exact h2
    · exfalso
      unfold Lib.keeps at hk
      rcases of_decide_eq_true hk with k | k
      · omega
      · apply k
        have a1 := hle i (j - 1) (by omega) (by omega)
        have a2 := hle (j - 1) j (by omega) hj
        rw [h2] at a1
        exact List.le_antisymm a1 a2
  · intro x
    unfold Lib.compact Lib.compactUpTo
    rw [List.mem_map]
    constructor
    · rintro ⟨i, hi, rfl⟩
      have := List.mem_range.1 (List.mem_filter.1 hi).1
      rw [getElem!_pos _ i (by simpa using this)]
      simp
    · intro hx
      obtain ⟨j, hj, rfl⟩ := List.getElem_of_mem hx
      have key : ∀ j, j < s.length → ∃ k, k < s.length ∧ Lib.keeps s.toArray k = true ∧ s.toArray[k]! = s.toArray[j]! := by
        intro j
        induction j with
        | zero => exact fun hj => ⟨0, hj, decide_eq_true (.inl rfl), rfl⟩
        | succ j ih =>
          intro hj
          by_cases hk : Lib.keeps s.toArray (j + 1) = true
          · exact ⟨j + 1, hj, hk, rfl⟩
          · obtain ⟨k, k1, k2, k3⟩ := ih (by omega)
            refine ⟨k, k1, k2, k3.trans ?_⟩
            unfold Lib.keeps at hk
            have h2 := of_decide_eq_false (Bool.eq_false_iff.2 hk)
            have h3 : ¬ s.toArray[j + 1]! ≠ s.toArray[j + 1 - 1]! := fun e => h2 (.inr e)
            exact (Decidable.not_not.1 h3).symm
      obtain ⟨k, k1, k2, k3⟩ := key j hj
      refine ⟨k, List.mem_filter.2 ⟨List.mem_range.2 k1, k2⟩, k3.trans ?_⟩
      rw [getElem!_pos _ j (by simpa using hj)]
      simp
/-- sorted, each once, none "": these are the groups -/
theorem groups_way (zs : List (List UInt8)) : (Lib.compact (zs.mergeSort fun x y => decide (x ≤ y))).filter (fun x => decide (x ≠ [])) = groupsL zs := by
  obtain ⟨h1, h2⟩ := compact_rising (sorted_at (zs := zs))
  refine groups_is (rising_pair (h1.filter _)) fun g => ?_
  rw [List.mem_filter, h2, List.mem_mergeSort, decide_eq_true_eq]
end Go.Proofs.YtogjhpcjjmcjfaaGreatDoor.Ct
end
