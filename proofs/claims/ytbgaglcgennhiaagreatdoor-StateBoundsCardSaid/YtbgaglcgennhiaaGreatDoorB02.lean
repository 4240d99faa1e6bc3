import Derived.Lib.Hide
/- what is reached of it -/
namespace Go.Proofs.YtbgaglcgennhiaaGreatDoor.Rg
abbrev R := Int × Int
/-- An int of 64 bits. -/
def Fit (z : Int) : Prop := -9223372036854775808 ≤ z ∧ z ≤ 9223372036854775807
def Fits (l : List R) : Prop := ∀ r ∈ l, Fit r.1 ∧ Fit r.2

/-- Is c in a range of l? -/
def inL (l : List R) (c : Int) : Bool := l.any fun r => decide (r.1 ≤ c) && decide (c ≤ r.2)
theorem inL_iff {l : List R} {c : Int} : inL l c = true ↔ ∃ r ∈ l, r.1 ≤ c ∧ c ≤ r.2 := by simp [inL]
theorem inL_append (a b : List R) (c : Int) : inL (a ++ b) c = (inL a c || inL b c) := by simp [inL]
theorem inL_cons (r : R) (l : List R) (c : Int) : inL (r :: l) c = (decide (r.1 ≤ c) && decide (c ≤ r.2) || inL l c) := by simp [inL]
theorem inL_nil (c : Int) : inL [] c = false := rfl
theorem inL_hit {l : List R} {c : Int} {k : Nat} {r : R} (h : l[k]? = some r) (h1 : r.1 ≤ c) (h2 : c ≤ r.2) : inL l c = true := inL_iff.2 ⟨r, List.mem_of_getElem? h, h1, h2⟩
/-- What is wrong at a place, if anything. -/
def Bad (l : List R) (i : Nat) : Prop := ∃ r, l[i]? = some r ∧ (r.2 < r.1 ∨ ∃ j p, i = j + 1 ∧ l[j]? = some p ∧ r.1 ≤ p.2)
/-- Each has a character at least, and begins above the end of the one ahead. -/
def rightB : List R → Bool
  | [] => true
  | [r] => decide (r.1 ≤ r.2)
  | r :: s :: l => decide (r.1 ≤ r.2) && decide (r.2 < s.1) && rightB (s :: l)
theorem rightB_iff : ∀ {l : List R}, rightB l = true ↔ ∀ i, ¬Bad l i
  | [] => by simp [rightB, Bad]
  | [r] => by
    simp only [rightB, decide_eq_true_eq]
    constructor
    · rintro h i ⟨s, hs, h2⟩
      match i, hs with
      | 0, hs =>
        simp at hs
        subst hs
        rcases h2 with h2 | ⟨j, p, hj, _⟩
        · omega
        · omega
      | i + 1, hs => simp at hs
    · intro h
      have := h 0
      refine Int.not_lt.1 fun h2 => this ⟨r, rfl, .inl h2⟩
  | r :: s :: l => by
    have ih := rightB_iff (l := s :: l)
    simp only [rightB, Bool.and_eq_true, decide_eq_true_eq]
    constructor
    · rintro ⟨⟨h1, h2⟩, h3⟩ i ⟨t, ht, h4⟩
      match i, ht, h4 with
      | 0, ht, h4 =>
        simp at ht
        subst ht
        rcases h4 with h4 | ⟨j, p, hj, _⟩
        · omega
        · omega
      | 1, ht, h4 =>
        simp at ht
        subst ht
        rcases h4 with h4 | ⟨j, p, hj, hp, h5⟩
        · exact ih.1 h3 0 ⟨s, rfl, .inl h4⟩
        · obtain rfl : j = 0 := by omega
          simp at hp
          subst hp
          omega
      | i + 2, ht, h4 =>
        refine ih.1 h3 (i + 1) ⟨t, by simpa using ht, ?_⟩
        rcases h4 with h4 | ⟨j, p, hj, hp, h5⟩
        · exact .inl h4
        · obtain rfl : j = i + 1 := by omega
          exact .inr ⟨i, p, rfl, by simpa using hp, h5⟩
    · intro h
      refine ⟨⟨Int.not_lt.1 fun h2 => h 0 ⟨r, rfl, .inl h2⟩, Int.not_le.1 fun h2 => h 1 ⟨s, rfl, .inr ⟨0, r, rfl, rfl, h2⟩⟩⟩, ih.2 fun i => ?_⟩
      rintro ⟨t, ht, h4⟩
      refine h (i + 1) ⟨t, by simpa using ht, ?_⟩
      rcases h4 with h4 | ⟨j, p, hj, hp, h5⟩
      · exact .inl h4
      · subst hj
        exact .inr ⟨j + 1, p, rfl, by simpa using hp, h5⟩
theorem bad_at {l : List R} {i : Nat} {r : R} (hr : l[i]? = some r) (h : r.2 < r.1) : Bad l i := ⟨r, hr, .inl h⟩
theorem bad_next {l : List R} {j : Nat} {r p : R} (hr : l[j + 1]? = some r) (hp : l[j]? = some p) (h : r.1 ≤ p.2) : Bad l (j + 1) := ⟨r, hr, .inr ⟨j, p, rfl, hp, h⟩⟩
theorem rightB_each {l : List R} (h : rightB l = true) : ∀ r ∈ l, r.1 ≤ r.2 := fun r hr => by
  obtain ⟨j, hj, rfl⟩ := List.mem_iff_getElem.1 hr
  exact Int.not_lt.1 fun h2 => rightB_iff.1 h j (bad_at (List.getElem?_eq_getElem hj) h2)
/-- In a right list the lows rise. -/
theorem rightB_rise : ∀ {l : List R}, rightB l = true → l.Pairwise fun p q => p.2 < q.1
  | [], _ => .nil
  | [r], _ => by simp
  | r :: s :: l, h => by
    simp only [rightB, Bool.and_eq_true, decide_eq_true_eq] at h
    have ih := rightB_rise h.2
    refine List.pairwise_cons.2 ⟨fun t ht => ?_, ih⟩
    rcases List.mem_cons.1 ht with rfl | ht
    · exact h.1.2
    · have h1 := (List.pairwise_cons.1 ih).1 t ht
      have h2 := rightB_each h.2 s (by simp)
      omega
theorem rightB_of_rise : ∀ {l : List R}, (∀ r ∈ l, r.1 ≤ r.2) → (l.Pairwise fun p q => p.2 < q.1) → rightB l = true
  | [], _, _ => rfl
  | [r], h, _ => by simpa [rightB] using h
  | r :: s :: l, h, h2 => by
    simp only [rightB, Bool.and_eq_true, decide_eq_true_eq]
    have h3 := List.pairwise_cons.1 h2
    exact ⟨⟨h r (by simp), h3.1 s (by simp)⟩, rightB_of_rise (fun t ht => h t (by simp [ht])) h3.2⟩
/-- The fewest ranges: right, and no two touch. -/
def Canon (l : List R) : Prop := (∀ r ∈ l, r.1 ≤ r.2) ∧ l.Pairwise fun p q => p.2 + 1 < q.1
theorem Canon.nil : Canon [] := ⟨fun _ h => by simp at h, .nil⟩
theorem Canon.tail {r : R} {l : List R} (h : Canon (r :: l)) : Canon l := ⟨fun t ht => h.1 t (by simp [ht]), (List.pairwise_cons.1 h.2).2⟩
theorem Canon.right {l : List R} (h : Canon l) : rightB l = true := rightB_of_rise h.1 (h.2.imp fun h => by omega)
theorem Canon.first {r : R} {l : List R} (h : Canon (r :: l)) {c : Int} (hc : inL (r :: l) c = true) : r.1 ≤ c := by
  obtain ⟨t, ht, h1, _⟩ := inL_iff.1 hc
  rcases List.mem_cons.1 ht with rfl | ht
  · exact h1
  · have h2 := (List.pairwise_cons.1 h.2).1 t ht
    have h3 := h.1 r (by simp)
    omega
theorem Canon.rest {r : R} {l : List R} (h : Canon (r :: l)) {c : Int} (hc : inL l c = true) : r.2 + 1 < c := by
  obtain ⟨t, ht, h1, _⟩ := inL_iff.1 hc
  have h2 := (List.pairwise_cons.1 h.2).1 t ht
  omega
/-- There is just one such list. -/
theorem Canon.uniq : ∀ {x y : List R}, Canon x → Canon y → (∀ c, inL x c = inL y c) → x = y
  | [], [], _, _, _ => rfl
  | [], q :: y, _, hy, h => by
    have h1 := h q.1
    rw [inL_hit (l := q :: y) (k := 0) rfl (Int.le_refl _) (hy.1 q (by simp))] at h1
    simp [inL] at h1
  | p :: x, [], hx, _, h => by
    have h1 := h p.1
    rw [inL_hit (l := p :: x) (k := 0) rfl (Int.le_refl _) (hx.1 p (by simp))] at h1
    simp [inL] at h1
  | p :: x, q :: y, hx, hy, h => by
    have hp := hx.1 p (by simp)
    have hq := hy.1 q (by simp)
    have a1 : q.1 ≤ p.1 := hy.first ((h p.1).symm.trans (inL_hit (k := 0) rfl (Int.le_refl _) hp))
    have a2 : p.1 ≤ q.1 := hx.first ((h q.1).trans (inL_hit (k := 0) rfl (Int.le_refl _) hq))
    have ends : ∀ {p q : R} {x y : List R}, Canon (p :: x) → Canon (q :: y) → (∀ c, inL (p :: x) c = inL (q :: y) c) → p.1 = q.1 → ¬ p.2 < q.2 := by
      intro p q x y hx hy h he hlt
      have hp := hx.1 p (by simp)
      have h1 : inL (p :: x) (p.2 + 1) = true := (h _).trans (inL_hit (k := 0) rfl (by omega) (by omega))
      rw [inL_cons] at h1
      have h2 : (decide (p.1 ≤ p.2 + 1) && decide (p.2 + 1 ≤ p.2)) = false := by simp; omega
      rw [h2, Bool.false_or] at h1
      have := hx.rest h1
      omega
    have e1 : p.1 = q.1 := by omega
    have b1 := ends hx hy h e1
    have b2 := ends hy hx (fun c => (h c).symm) e1.symm
    have e2 : p.2 = q.2 := by omega
    have e : p = q := Prod.ext e1 e2
    subst e
    have := Canon.uniq hx.tail hy.tail (fun c => by
      have hc := h c
      rw [inL_cons, inL_cons] at hc
      by_cases hm : c ≤ p.2 + 1
      · have f1 : inL x c = false := by
          cases hh : inL x c with
          | false => rfl
          | true => have := hx.rest hh; omega
        have f2 : inL y c = false := by
          cases hh : inL y c with
          | false => rfl
          | true => have := hy.rest hh; omega
        rw [f1, f2]
      · have f0 : (decide (p.1 ≤ c) && decide (c ≤ p.2)) = false := by simp; omega
        rw [f0, Bool.false_or, Bool.false_or] at hc
        exact hc)
    rw [this]

/-- One more range, which begins no lower than any that is there. -/
def step (acc : List R) (r : R) : List R := match acc.getLast? with
  | none => [r]
  | some p => if p.2 + 1 < r.1 then acc ++ [r] else acc.dropLast ++ [(p.1, max p.2 r.2)]
theorem step_nil (r : R) : step [] r = [r] := rfl
theorem step_apart (ys : List R) (p r : R) (h : p.2 + 1 < r.1) : step (ys ++ [p]) r = ys ++ [p] ++ [r] := by simp [step, h]
theorem step_joined (ys : List R) (p r : R) (h : ¬ p.2 + 1 < r.1) : step (ys ++ [p]) r = ys ++ [(p.1, max p.2 r.2)] := by simp [step, h]
theorem step_spec {acc : List R} {r : R} (ha : Canon acc) (hr : r.1 ≤ r.2) (hl : ∀ p ∈ acc, p.1 ≤ r.1) :
    Canon (step acc r) ∧ (∀ c, inL (step acc r) c = (inL acc c || decide (r.1 ≤ c) && decide (c ≤ r.2))) ∧ ∀ p ∈ step acc r, p.1 ≤ r.1 := by
  rcases List.eq_nil_or_concat acc with rfl | ⟨ys, p, rfl⟩
  · rw [step_nil]
    refine ⟨⟨by simpa using hr, by simp⟩, fun c => by simp [inL], by simp⟩
  · rw [List.concat_eq_append] at ha hl ⊢
    have hp := ha.1 p (by simp)
    have hpr := hl p (by simp)
    have hys := List.pairwise_append.1 ha.2
    by_cases h : p.2 + 1 < r.1
    · rw [step_apart _ _ _ h]
      refine ⟨⟨fun t ht => ?_, ?_⟩, fun c => by rw [inL_append, inL_cons, inL_nil, Bool.or_false], fun t ht => ?_⟩
      · rcases List.mem_append.1 ht with ht | ht
        · exact ha.1 t ht
        · rw [List.mem_singleton.1 ht]; exact hr
      · rw [List.pairwise_append]
        refine ⟨ha.2, by simp, fun t ht q hq => ?_⟩
        rw [List.mem_singleton.1 hq]
        rcases List.mem_append.1 ht with ht | ht
        · have := hys.2.2 t ht p (by simp)
          omega
        · rw [List.mem_singleton.1 ht]; exact h
      · rcases List.mem_append.1 ht with ht | ht
        · exact hl t ht
        · rw [List.mem_singleton.1 ht]; exact Int.le_refl _
    · rw [step_joined _ _ _ h]
      refine ⟨⟨fun t ht => ?_, ?_⟩, fun c => ?_, fun t ht => ?_⟩
      · rcases List.mem_append.1 ht with ht | ht
        · exact ha.1 t (by simp [ht])
        · rw [List.mem_singleton.1 ht]
          show p.1 ≤ max p.2 r.2
          omega
      · rw [List.pairwise_append]
        refine ⟨hys.1, by simp, fun t ht q hq => ?_⟩
        rw [List.mem_singleton.1 hq]
        exact hys.2.2 t ht p (by simp)
      · rw [inL_append, inL_append, inL_cons, inL_cons, inL_nil, Bool.or_false, Bool.or_false, Bool.or_assoc]
        congr 1
        rw [Bool.eq_iff_iff]
        simp only [Bool.and_eq_true, Bool.or_eq_true, decide_eq_true_eq]
        omega
      · rcases List.mem_append.1 ht with ht | ht
        · exact hl t (by simp [ht])
        · rw [List.mem_singleton.1 ht]; exact hpr
theorem fold_spec : ∀ {l : List R} {acc : List R}, Canon acc → (∀ r ∈ l, r.1 ≤ r.2) → (l.Pairwise fun p q => p.1 ≤ q.1) → (∀ p ∈ acc, ∀ r ∈ l, p.1 ≤ r.1) →
    Canon (l.foldl step acc) ∧ ∀ c, inL (l.foldl step acc) c = (inL acc c || inL l c)
  | [], acc, ha, _, _, _ => ⟨ha, fun c => by simp [inL]⟩
  | r :: l, acc, ha, hr, hs, hl => by
    have h1 := step_spec ha (hr r (by simp)) (fun p hp => hl p hp r (by simp))
    have h2 := List.pairwise_cons.1 hs
    have ih := fold_spec (l := l) h1.1 (fun t ht => hr t (by simp [ht])) h2.2 (fun p hp t ht => Int.le_trans (h1.2.2 p hp) (h2.1 t ht))
    refine ⟨ih.1, fun c => ?_⟩
    rw [List.foldl_cons, ih.2, h1.2.1, inL_cons, Bool.or_assoc]

/-- What Join must tell. -/
def IsJoin (a b j : List R) : Prop := (rightB a = true ∧ rightB b = true ∧ Canon j ∧ ∀ c, inL j c = (inL a c || inL b c)) ∨ (¬(rightB a = true ∧ rightB b = true) ∧ j = [])
theorem IsJoin.uniq {a b j k : List R} (h : IsJoin a b j) (h2 : IsJoin a b k) : j = k := by
  rcases h with ⟨r1, r2, h3, h4⟩ | ⟨h1, rfl⟩
  · rcases h2 with ⟨_, _, h6, h7⟩ | ⟨h5, _⟩
    · exact h3.uniq h6 fun c => (h4 c).trans (h7 c).symm
    · exact absurd ⟨r1, r2⟩ h5
  · rcases h2 with ⟨r1, r2, _⟩ | ⟨_, rfl⟩
    · exact absurd ⟨r1, r2⟩ h1
    · rfl
theorem IsJoin.symm {a b j : List R} (h : IsJoin a b j) : IsJoin b a j := by
  rcases h with ⟨r1, r2, h3, h4⟩ | ⟨h1, h2⟩
  · exact .inl ⟨r2, r1, h3, fun c => by rw [h4, Bool.or_comm]⟩
  · exact .inr ⟨fun h => h1 ⟨h.2, h.1⟩, h2⟩
/-- All of both, by their lows, and joined one by one. -/
theorem IsJoin.of_sorted {a b d : List R} (ha : rightB a = true) (hb : rightB b = true) (hp : d.Perm (a ++ b)) (hs : d.Pairwise fun p q => p.1 ≤ q.1) : IsJoin a b (d.foldl step []) := by
  have h := fold_spec (l := d) Canon.nil (fun r hr => by
    rcases List.mem_append.1 (hp.mem_iff.1 hr) with h | h
    · exact rightB_each ha r h
    · exact rightB_each hb r h) hs (fun p hp => by simp at hp)
  refine .inl ⟨ha, hb, h.1, fun c => ?_⟩
  rw [h.2, inL_nil, Bool.false_or, ← inL_append]
  rw [Bool.eq_iff_iff, inL_iff, inL_iff]
  exact ⟨fun ⟨r, h1, h2⟩ => ⟨r, hp.mem_iff.1 h1, h2⟩, fun ⟨r, h1, h2⟩ => ⟨r, hp.mem_iff.2 h1, h2⟩⟩
/-- The fewest ranges with all that is in a or b; none, unless both are right. -/
def joinL (a b : List R) : List R := if rightB a = true ∧ rightB b = true then ((a ++ b).mergeSort fun p q => decide (p.1 ≤ q.1)).foldl step [] else []
theorem joinL_is (a b : List R) : IsJoin a b (joinL a b) := by
  unfold joinL
  by_cases h : rightB a = true ∧ rightB b = true
  · rw [if_pos h]
    refine IsJoin.of_sorted h.1 h.2 (List.mergeSort_perm _ _) ?_
    refine (List.pairwise_mergeSort (le := fun p q : R => decide (p.1 ≤ q.1)) (fun p q r h1 h2 => ?_) (fun p q => ?_) (a ++ b)).imp fun h => by simpa using h
    · simp at h1 h2 ⊢; omega
    · simp; omega
  · rw [if_neg h]
    exact .inr ⟨h, rfl⟩
theorem joinL_of {a b j : List R} (h : IsJoin a b j) : j = joinL a b := h.uniq (joinL_is a b)
theorem joinL_wrong {a b : List R} (h : ¬(rightB a = true ∧ rightB b = true)) : joinL a b = [] := (joinL_of (.inr ⟨h, rfl⟩)).symm
theorem joinL_right (a b : List R) : rightB (joinL a b) = true := by
  rcases joinL_is a b with ⟨_, _, h, _⟩ | ⟨_, h⟩
  · exact h.right
  · rw [h]; rfl
theorem step_fits {acc : List R} {r : R} (ha : Fits acc) (hr : Fit r.1 ∧ Fit r.2) : Fits (step acc r) := by
  rcases List.eq_nil_or_concat acc with rfl | ⟨ys, p, rfl⟩
  · rw [step_nil]
    intro t ht
    rw [List.mem_singleton.1 ht]
    exact hr
  · rw [List.concat_eq_append] at ha ⊢
    by_cases h : p.2 + 1 < r.1
    · rw [step_apart _ _ _ h]
      intro t ht
      rcases List.mem_append.1 ht with ht | ht
      · exact ha t ht
      · rw [List.mem_singleton.1 ht]; exact hr
    · rw [step_joined _ _ _ h]
      intro t ht
      rcases List.mem_append.1 ht with ht | ht
      · exact ha t (by simp [ht])
      · rw [List.mem_singleton.1 ht]
        have hp := ha p (by simp)
        refine ⟨hp.1, ?_⟩
        show Fit (max p.2 r.2)
        unfold Fit at *
        omega
theorem fold_fits : ∀ {l acc : List R}, Fits acc → Fits l → Fits (l.foldl step acc)
  | [], _, ha, _ => ha
  | r :: l, acc, ha, hl => fold_fits (l := l) (step_fits ha (hl r (by simp))) (fun t ht => hl t (by simp [ht]))
theorem Fits.append {a b : List R} (ha : Fits a) (hb : Fits b) : Fits (a ++ b) := fun r hr => (List.mem_append.1 hr).elim (ha r) (hb r)
theorem joinL_fits {a b : List R} (ha : Fits a) (hb : Fits b) : Fits (joinL a b) := by
  unfold joinL
  split
  · exact fold_fits (fun r hr => by simp at hr) (fun r hr => (ha.append hb) r ((List.mergeSort_perm _ _).mem_iff.1 hr))
  · intro r hr
    simp at hr
theorem step_length (acc : List R) (r : R) : (step acc r).length ≤ acc.length + 1 := by
  rcases List.eq_nil_or_concat acc with rfl | ⟨ys, p, rfl⟩
  · simp [step_nil]
  · rw [List.concat_eq_append]
    by_cases h : p.2 + 1 < r.1
    · rw [step_apart _ _ _ h]; simp
    · rw [step_joined _ _ _ h]; simp
theorem fold_length : ∀ (l acc : List R), (l.foldl step acc).length ≤ acc.length + l.length
  | [], acc => by simp
  | r :: l, acc => by
    have h1 := fold_length l (step acc r)
    have h2 := step_length acc r
    rw [List.foldl_cons, List.length_cons]
    omega
theorem joinL_length (a b : List R) : (joinL a b).length ≤ a.length + b.length := by
  unfold joinL
  split
  · have := fold_length ((a ++ b).mergeSort fun p q => decide (p.1 ≤ q.1)) []
    simpa [List.length_mergeSort] using this
  · simp

/-- Two lists on the way to their joint one. -/
structure Mrg (a b a' b' out : List R) : Prop where
  canon : Canon out
  ra : rightB a' = true
  rb : rightB b' = true
  mem : ∀ c, (inL out c || inL a' c || inL b' c) = (inL a c || inL b c)
  la : ∀ p ∈ out, ∀ r ∈ a', p.1 ≤ r.1
  lb : ∀ p ∈ out, ∀ r ∈ b', p.1 ≤ r.1
  fo : Fits out
  fa : Fits a'
  fb : Fits b'
  len : out.length + a'.length + b'.length ≤ a.length + b.length
theorem Mrg.start {a b : List R} (ha : rightB a = true) (hb : rightB b = true) (fa : Fits a) (fb : Fits b) : Mrg a b a b [] :=
  ⟨Canon.nil, ha, hb, fun c => by simp [inL_nil], fun p hp => by simp at hp, fun p hp => by simp at hp, fun r hr => by simp at hr, fa, fb, by simp⟩
theorem Mrg.symm {a b a' b' out : List R} (h : Mrg a b a' b' out) : Mrg b a b' a' out :=
  ⟨h.canon, h.rb, h.ra, fun c => by rw [Bool.or_assoc, Bool.or_comm (inL b' c), ← Bool.or_assoc, h.mem, Bool.or_comm], h.lb, h.la, h.fo, h.fb, h.fa, by have := h.len; omega⟩
theorem Mrg.left {a b t b' out : List R} {x : R} (h : Mrg a b (x :: t) b' out) (hle : ∀ r ∈ b', x.1 ≤ r.1) : Mrg a b t b' (step out x) := by
  have hx := rightB_each h.ra x (by simp)
  have hs := step_spec h.canon hx (fun p hp => h.la p hp x (by simp))
  have hrise := List.pairwise_cons.1 (rightB_rise h.ra)
  refine ⟨hs.1, rightB_of_rise (fun r hr => rightB_each h.ra r (by simp [hr])) hrise.2, h.rb, fun c => ?_, fun p hp r hr => ?_, fun p hp r hr => ?_, step_fits h.fo (h.fa x (by simp)), fun r hr => h.fa r (by simp [hr]), h.fb, ?_⟩
  · rw [hs.2.1, ← h.mem c, inL_cons]
    simp only [Bool.or_assoc]
  · have h1 := hs.2.2 p hp
    have h2 := hrise.1 r hr
    omega
  · have h1 := hs.2.2 p hp
    have h2 := hle r hr
    omega
  · have h1 := step_length out x
    have h2 := h.len
    rw [List.length_cons] at h2
    omega
theorem Mrg.done {a b out : List R} (ha : rightB a = true) (hb : rightB b = true) (h : Mrg a b [] [] out) : out = joinL a b :=
  joinL_of (.inl ⟨ha, hb, h.canon, fun c => by have := h.mem c; simpa [inL_nil] using this⟩)
end Go.Proofs.YtbgaglcgennhiaaGreatDoor.Rg
