import Derived.Test.YtapelnndjjbeeaaGreatDoorZ32
import Derived.Sort.KeysCollected
import Derived.Sort.Walk0
import Derived.Lib.SlicesCompact
import Derived.Lib.Strings
section
/- what is reached of it -/
namespace Go.Proofs.YtapelnndjjbeeaaGreatDoor.Ct
open Go.Proofs.YtapelnndjjbeeaaGreatDoor Tx Vc
theorem lt_iff (x y : List UInt8) : Jd.ltL x y = true ↔ x < y := by
  unfold Jd.ltL
  rw [Go.Proofs.bytesLess_eq, decide_eq_true_eq]
theorem rising_pair : ∀ {l : List (List UInt8)}, l.Pairwise (fun x y => Jd.ltL x y = true) → risingB l = true
  | [], _ => rfl
  | [_], _ => rfl
  | x :: y :: t, h => by
    obtain ⟨h1, h2⟩ := List.pairwise_cons.1 h
    show (Jd.ltL x y && risingB (y :: t)) = true
    rw [h1 y List.mem_cons_self, rising_pair h2]
    rfl
/-- all that is sorted stands in order -/
theorem sorted_at {zs : List (List UInt8)} : (zs.mergeSort fun x y => decide (x ≤ y)).Pairwise (fun x y => x ≤ y) := by
  have tr : ∀ a b c : List UInt8, decide (a ≤ b) = true → decide (b ≤ c) = true → decide (a ≤ c) = true := fun a b c h1 h2 => by
    simp only [decide_eq_true_eq] at *
    exact List.le_trans h1 h2
  have tot : ∀ a b : List UInt8, (decide (a ≤ b) || decide (b ≤ a)) = true := fun a b => by
    simp only [Bool.or_eq_true, decide_eq_true_eq]
    exact List.le_total a b
  exact (List.pairwise_mergeSort tr tot zs).imp (fun h => of_decide_eq_true h)
theorem compact_rising {s : List (List UInt8)} (h : s.Pairwise (fun x y => x ≤ y)) : (Lib.compact s).Pairwise (fun x y => Jd.ltL x y = true) ∧ ∀ x, x ∈ Lib.compact s ↔ x ∈ s := by
  have hle : ∀ i j, i ≤ j → j < s.length → s.toArray[i]! ≤ s.toArray[j]! := fun i j hij hj => by
    have hi : i < s.length := by omega
    rw [getElem!_pos _ i (by simpa using hi), getElem!_pos _ j (by simpa using hj)]
    rcases Nat.lt_or_eq_of_le hij with h2 | h2
    · have := List.pairwise_iff_getElem.1 h i j hi hj h2
      simpa using this
    · subst h2
      exact List.le_refl _
  constructor
  · unfold Lib.compact Lib.compactUpTo
    rw [List.pairwise_map]
    have hr : ((List.range s.length).filter (Lib.keeps s.toArray)).Pairwise (fun i j => i < j ∧ Lib.keeps s.toArray j = true ∧ j < s.length) := by
      refine List.Pairwise.imp_of_mem (R := fun i j => i < j) (fun {i j} hi hj hlt => ?_) (List.Pairwise.filter _ List.pairwise_lt_range)
      obtain ⟨k1, k2⟩ := List.mem_filter.1 hj
      exact ⟨hlt, k2, List.mem_range.1 k1⟩
    refine hr.imp (fun {i j} hij => ?_)
    obtain ⟨hlt, hk, hj⟩ := hij
    rw [lt_iff]
    have h1 := hle i j (by omega) hj
    rcases List.le_iff_lt_or_eq.1 h1 with h2 | h2
    · exact h2
    · exfalso
      unfold Lib.keeps at hk
      rcases of_decide_eq_true hk with k | k
      · omega
      · apply k
        have a1 := hle i (j - 1) (by omega) (by omega)
        have a2 := hle (j - 1) j (by omega) hj
        rw [h2] at a1
        exact List.le_antisymm a1 a2
  · intro x
    unfold Lib.compact Lib.compactUpTo
    rw [List.mem_map]
    constructor
    · rintro ⟨i, hi, rfl⟩
      have := List.mem_range.1 (List.mem_filter.1 hi).1
      rw [getElem!_pos _ i (by simpa using this)]
      simp
    · intro hx
      obtain ⟨j, hj, rfl⟩ := List.getElem_of_mem hx
      have key : ∀ j, j < s.length → ∃ k, k < s.length ∧ Lib.keeps s.toArray k = true ∧ s.toArray[k]! = s.toArray[j]! := by
        intro j
        induction j with
        | zero => exact fun hj => ⟨0, hj, decide_eq_true (.inl rfl), rfl⟩
        | succ j ih =>
          intro hj
          by_cases hk : Lib.keeps s.toArray (j + 1) = true
          · exact ⟨j + 1, hj, hk, rfl⟩
          · obtain ⟨k, k1, k2, k3⟩ := ih (by omega)
            refine ⟨k, k1, k2, k3.trans ?_⟩
            unfold Lib.keeps at hk
            have h2 := of_decide_eq_false (Bool.eq_false_iff.2 hk)
            have h3 : ¬ s.toArray[j + 1]! ≠ s.toArray[j + 1 - 1]! := fun e => h2 (.inr e)
            exact (Decidable.not_not.1 h3).symm
      obtain ⟨k, k1, k2, k3⟩ := key j hj
      refine ⟨k, List.mem_filter.2 ⟨List.mem_range.2 k1, k2⟩, k3.trans ?_⟩
      rw [getElem!_pos _ j (by simpa using hj)]
      simp
/-- sorted, each once, none "": these are the groups -/
theorem groups_way (zs : List (List UInt8)) : (Lib.compact (zs.mergeSort fun x y => decide (x ≤ y))).filter (fun x => decide (x ≠ [])) = groupsL zs := by
  obtain ⟨h1, h2⟩ := compact_rising (sorted_at (zs := zs))
  refine groups_is (rising_pair (h1.filter _)) fun g => ?_
  rw [List.mem_filter, h2, List.mem_mergeSort, decide_eq_true_eq]
theorem filter_take {α : Type} {l : List α} {k : Nat} {x : α} (p : α → Bool) (h : l[k]? = some x) : (l.take (k + 1)).filter p = (l.take k).filter p ++ if p x then [x] else [] := by
  rw [List.take_add_one, h, List.filter_append]
  cases hp : p x <;> simp [hp]
end Go.Proofs.YtapelnndjjbeeaaGreatDoor.Ct
end
section
/- what is reached of it -/
namespace Go.Proofs.YtapelnndjjbeeaaGreatDoor.Ct
open Go.Proofs.YtapelnndjjbeeaaGreatDoor Tx Vc
/-- what a kind's plain texts say -/
def putR (i : Nat) (xs : List (List UInt8)) (c : Con) : Nat × Con :=
  if i = 1 then fiveC c xs else if i = 6 then (0, { c with groups := groupsL xs }) else if i = 3 then ((Jd.bareL (xs.headD [])).2, { c with jid := (Jd.bareL (xs.headD [])).1 }) else (0, setC (kname i) (xs.headD []) c)
theorem all_snoc : ∀ {a : List (List UInt8)} {ys : List (List UInt8)} (x : List UInt8), allP a = some ys → allP (a ++ [x]) = (plain x).map (fun y => ys ++ [y])
  | [], ys, x, h => by
    obtain rfl : [] = ys := Option.some.inj h
    rw [List.nil_append, allP]
    cases plain x <;> rfl
  | z :: a, ys, x, h => by
    rw [allP] at h
    rw [List.cons_append, allP]
    cases hz : plain z with
    | none => rw [hz] at h; cases h
    | some y =>
      rw [hz] at h
      obtain ⟨ys2, h2, rfl⟩ := Option.map_eq_some_iff.1 h
      simp only [all_snoc x h2]
      cases plain x <;> rfl
theorem all_take {parts ys : List (List UInt8)} {k : Nat} {x : List UInt8} (hx : parts[k]? = some x) (h : allP (parts.take k) = some ys) : allP (parts.take (k + 1)) = (plain x).map (fun y => ys ++ [y]) := by
  rw [List.take_add_one, hx]
  exact all_snoc x h
theorem all_bad : ∀ {parts : List (List UInt8)} {k : Nat} {x : List UInt8}, parts[k]? = some x → plain x = none → allP parts = none
  | [], k, x, h, _ => by simp at h
  | z :: t, 0, x, h, hp => by
    obtain rfl : z = x := by simpa using h
    rw [allP, hp]
  | z :: t, k + 1, x, h, hp => by
    rw [allP]
    cases hz : plain z with
    | none => rfl
    | some y => simp only [all_bad (parts := t) (k := k) (by simpa using h) hp, Option.map_none]
theorem plainC_len : ∀ (n : Nat) (l x : List UInt8), l.length ≤ n → plain l = some x → x.length ≤ l.length
  | n, [], x, _, h => by
    obtain rfl : [] = x := Option.some.inj h
    simp
  | 0, _ :: _, _, h, _ => by simp at h
  | n + 1, c :: t, x, hn, h => by
    by_cases hc : c = 92
    · subst hc
      cases t with
      | nil => rw [plain_end] at h; cases h
      | cons d u =>
        cases hu : unb d with
        | none => rw [plain_bad u hu] at h; cases h
        | some y =>
          rw [plain_esc u hu] at h
          cases hp : plain u with
          | none => rw [hp] at h; cases h
          | some z =>
            rw [hp] at h
            obtain rfl : y :: z = x := Option.some.inj h
            have := plainC_len n u z (by simp at hn; omega) hp
            simp; omega
    · rw [plain_on t hc] at h
      cases hp : plain t with
      | none => rw [hp] at h; cases h
      | some z =>
        rw [hp] at h
        obtain rfl : c :: z = x := Option.some.inj h
        have := plainC_len n t z (by simpa using hn) hp
        simpa using this
/-- a value's texts -/
def partsK (i : Nat) (v : List UInt8) : List (List UInt8) := if i = 1 then split1 59 v else if i = 6 then split1 44 v else [v.drop (kstart i).length]
/-- read: as it is told kind by kind -/
theorem read_parts {i : Nat} {v : List UInt8} {c : Con} (h6 : i = 6 → c.groups = []) : (allP (partsK i v) = none → readC i v c = (18, c)) ∧ ∀ xs, allP (partsK i v) = some xs → (readC i v c).1 = (putR i xs c).1 ∧ ((readC i v c).1 = 0 → (readC i v c).2 = (putR i xs c).2) := by
  unfold readC partsK putR manyL
  by_cases h1 : i = 1
  · simp only [if_pos h1]
    constructor
    · intro h; rw [h]
    · intro xs h; rw [h]; exact ⟨rfl, fun _ => rfl⟩
  simp only [if_neg h1]
  by_cases hi6 : i = 6
  · simp only [if_pos hi6]
    constructor
    · intro h; rw [h]
    · intro xs h; rw [h, h6 hi6]; exact ⟨rfl, fun _ => rfl⟩
  simp only [if_neg hi6]
  by_cases h3 : i = 3
  · subst h3
    simp only [if_true]
    have e : v.drop (kstart 3).length = v.drop 5 := rfl
    rw [e]
    cases hp : plain (v.drop 5) with
    | none =>
      constructor
      · intro _; rfl
      · intro xs h; rw [allP, hp] at h; cases h
    | some t =>
      constructor
      · intro h; rw [allP, hp] at h; cases h
      · intro xs h
        rw [allP, hp] at h
        obtain rfl : [t] = xs := Option.some.inj h
        show (ite ((Jd.bareL t).2 = 0) _ _ : Nat × Con).1 = (Jd.bareL t).2 ∧ _
        by_cases hb : (Jd.bareL t).2 = 0
        · simp only [if_pos hb]
          exact ⟨hb.symm, fun _ => rfl⟩
        · simp only [if_neg hb]
          exact ⟨trivial, fun e => absurd e hb⟩
  · simp only [if_neg h3]
    have e : v.drop (kstart i).length = v := by unfold kstart; rw [if_neg h3]; rfl
    rw [e]
    cases hp : plain v with
    | none =>
      constructor
      · intro _; rfl
      · intro xs h; rw [allP, hp] at h; cases h
    | some t =>
      constructor
      · intro h; rw [allP, hp] at h; cases h
      · intro xs h
        rw [allP, hp] at h
        obtain rfl : [t] = xs := Option.some.inj h
        exact ⟨rfl, fun _ => rfl⟩
theorem split_ne (sep : UInt8) (v : List UInt8) : split1 sep v ≠ [] := fun e => by
  have : ∀ (l cur : List UInt8) (b : Bool), spl sep b cur l ≠ [] := by
    intro l
    induction l with
    | nil => intro cur b h; simp [spl] at h
    | cons x l ih =>
      intro cur b h
      unfold spl at h
      split at h
      · cases h
      · exact ih _ _ h
  exact this v [] false e
theorem split_lens (sep : UInt8) (v : List UInt8) : (split1 sep v).length ≤ v.length + 1 ∧ ∀ x ∈ split1 sep v, x.length ≤ v.length := by
  have : ∀ (l cur : List UInt8) (b : Bool), (spl sep b cur l).length ≤ l.length + 1 ∧ ∀ x ∈ spl sep b cur l, x.length ≤ cur.length + l.length := by
    intro l
    induction l with
    | nil => intro cur b; simp [spl]
    | cons x l ih =>
      intro cur b
      unfold spl
      split
      · obtain ⟨h1, h2⟩ := ih [] (x == 92 && !b)
        refine ⟨by simp only [List.length_cons]; omega, fun y hy => ?_⟩
        rcases List.mem_cons.1 hy with rfl | hy
        · simp only [List.length_cons]; omega
        · have := h2 y hy; simp only [List.length_nil, List.length_cons] at this ⊢; omega
      · obtain ⟨h1, h2⟩ := ih (cur ++ [x]) (x == 92 && !b)
        refine ⟨by simp only [List.length_cons]; omega, fun y hy => ?_⟩
        have := h2 y hy
        simp only [List.length_append, List.length_cons, List.length_nil] at this ⊢
        omega
  have h := this v [] false
  simpa [split1] using h
theorem trim_start {i : Nat} {v : List UInt8} (h : v.take (kstart i).length = kstart i) : Lib.trimPrefix v (kstart i) = v.drop (kstart i).length := by
  unfold Lib.trimPrefix Lib.hasPrefix
  rw [if_pos]
  rw [List.isPrefixOf_iff_prefix]
  refine ⟨v.drop (kstart i).length, ?_⟩
  have e := List.take_append_drop (kstart i).length v
  rw [h] at e
  exact e
end Go.Proofs.YtapelnndjjbeeaaGreatDoor.Ct
end
