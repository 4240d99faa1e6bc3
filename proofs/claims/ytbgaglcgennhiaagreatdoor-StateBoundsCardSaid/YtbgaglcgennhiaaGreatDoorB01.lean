import Derived.WalkKit
/- what is reached of it -/
namespace Go.Proofs.YtbgaglcgennhiaaGreatDoor.Sy
variable {α : Type} {lt : α → α → Bool}
/-- A weak order: not both ways; and what is below is below, or above, any third one. -/
structure Weak (lt : α → α → Bool) : Prop where
  asym : ∀ {x y}, lt x y = true → lt y x = false
  neg : ∀ {x z}, lt x z = true → ∀ y, lt x y = true ∨ lt y z = true

theorem Weak.trans (h : Weak lt) {x y z : α} (a : lt x y = true) (b : lt y z = true) : lt x z = true := by
  rcases h.neg a z with c | c
  · exact c
  · have := h.asym b; rw [c] at this; cases this
theorem Weak.n1 (h : Weak lt) {x a b : α} (p : lt x a = true) (q : lt b a = false) : lt x b = true := by
  rcases h.neg p b with c | c
  · exact c
  · rw [q] at c; cases c
theorem Weak.n2 (h : Weak lt) {y a b : α} (p : lt y a = true) (q : lt y b = false) : lt b a = true := by
  rcases h.neg p b with c | c
  · rw [q] at c; cases c
  · exact c
theorem Weak.irr (h : Weak lt) (x : α) : lt x x = false := by
  cases e : lt x x with
  | false => rfl
  | true => have := h.asym e; rw [e] at this; cases this

/-- x behind all that it is not below. -/
def insS (lt : α → α → Bool) (x : α) : List α → List α
  | [] => [x]
  | y :: l => if lt x y = true then x :: y :: l else y :: insS lt x l
def sortS (lt : α → α → Bool) (l : List α) : List α := l.foldl (fun acc x => insS lt x acc) []
def mergeS (lt : α → α → Bool) : List α → List α → List α
  | [], B => B
  | a :: A, [] => a :: A
  | a :: A, b :: B => if lt b a = true then b :: mergeS lt (a :: A) B else a :: mergeS lt A (b :: B)
termination_by A B => A.length + B.length
def Up (lt : α → α → Bool) (l : List α) : Prop := l.Pairwise fun x y => lt y x = false

theorem merge_nil (A : List α) : mergeS lt A [] = A := by cases A <;> simp [mergeS]
theorem nil_merge (B : List α) : mergeS lt [] B = B := by simp [mergeS]
theorem merge_cons (a b : α) (A B : List α) : mergeS lt (a :: A) (b :: B) = if lt b a = true then b :: mergeS lt (a :: A) B else a :: mergeS lt A (b :: B) := by simp [mergeS]

theorem sortS_snoc (l : List α) (x : α) : sortS lt (l ++ [x]) = insS lt x (sortS lt l) := by simp [sortS]
theorem ins_len (x : α) (l : List α) : (insS lt x l).length = l.length + 1 := by
  induction l with
  | nil => rfl
  | cons y l ih => unfold insS; split <;> simp [ih]
theorem sortS_len (l : List α) : (sortS lt l).length = l.length := by
  suffices h : ∀ (l acc : List α), (l.foldl (fun acc x => insS lt x acc) acc).length = acc.length + l.length by simpa [sortS] using h l []
  intro l
  induction l with
  | nil => simp
  | cons x l ih => intro acc; simp only [List.foldl_cons, ih, ins_len, List.length_cons]; omega
theorem ins_mem (x z : α) (l : List α) : z ∈ insS lt x l ↔ z = x ∨ z ∈ l := by
  induction l with
  | nil => simp [insS]
  | cons y l ih =>
    unfold insS; split
    · simp
    · simp only [List.mem_cons, ih]; constructor <;> rintro (h | h | h) <;> simp [h]
theorem ins_perm (x : α) (l : List α) : (insS lt x l).Perm (x :: l) := by
  induction l with
  | nil => exact List.Perm.refl _
  | cons y l ih =>
    unfold insS; split
    · exact List.Perm.refl _
    · exact (List.Perm.cons y ih).trans (List.Perm.swap x y l)
theorem sortS_perm (l : List α) : (sortS lt l).Perm l := by
  suffices h : ∀ (l acc : List α), (l.foldl (fun acc x => insS lt x acc) acc).Perm (acc ++ l) by simpa [sortS] using h l []
  intro l
  induction l with
  | nil => intro acc; simp
  | cons x l ih =>
    intro acc
    simp only [List.foldl_cons]
    refine (ih _).trans ?_
    refine ((ins_perm x acc).append_right l).trans ?_
    exact (List.perm_middle (a := x) (l₁ := acc) (l₂ := l)).symm
theorem ins_up (h : Weak lt) (x : α) (l : List α) (hl : Up lt l) : Up lt (insS lt x l) := by
  induction l with
  | nil => simp [insS, Up]
  | cons y l ih =>
    have hy : ∀ z ∈ l, lt z y = false := (List.pairwise_cons.1 hl).1
    have hl' : Up lt l := (List.pairwise_cons.1 hl).2
    unfold insS; split
    · rename_i hxy
      refine List.pairwise_cons.2 ⟨?_, hl⟩
      intro z hz
      rcases List.mem_cons.1 hz with rfl | hz
      · exact h.asym hxy
      · exact h.asym (h.n1 hxy (hy z hz))
    · rename_i hxy
      refine List.pairwise_cons.2 ⟨?_, ih hl'⟩
      intro z hz
      rcases (ins_mem x z l).1 hz with rfl | hz
      · exact Bool.eq_false_iff.2 hxy
      · exact hy z hz
theorem sortS_up (h : Weak lt) (l : List α) : Up lt (sortS lt l) := by
  suffices g : ∀ (l acc : List α), Up lt acc → Up lt (l.foldl (fun acc x => insS lt x acc) acc) from g l [] List.Pairwise.nil
  intro l
  induction l with
  | nil => intro acc ha; exact ha
  | cons x l ih => intro acc ha; exact ih _ (ins_up h x acc ha)

theorem ins_split (x : α) (P Q : List α) (hP : ∀ p ∈ P, lt x p = false) (hQ : ∀ q ∈ Q.head?, lt x q = true) : insS lt x (P ++ Q) = P ++ x :: Q := by
  induction P with
  | nil =>
    cases Q with
    | nil => rfl
    | cons q Q => simp only [List.nil_append, insS]; rw [if_pos (hQ q (by simp))]
  | cons p P ih =>
    simp only [List.cons_append, insS]
    rw [if_neg (by rw [hP p (by simp)]; simp), ih (fun z hz => hP z (by simp [hz]))]
/-- where an insertion from behind ends -/
theorem ins_at (h : Weak lt) (x : α) (P Q : List α) (hs : Up lt (P ++ Q)) (hP : ∀ p ∈ P.getLast?, lt x p = false) (hQ : ∀ q ∈ Q.head?, lt x q = true) : insS lt x (P ++ Q) = P ++ x :: Q := by
  refine ins_split x P Q ?_ hQ
  intro p hp
  rcases List.eq_nil_or_concat P with rfl | ⟨P', z, rfl⟩
  · simp at hp
  · have hz : lt x z = false := hP z (by simp)
    rw [List.concat_eq_append] at hs hp
    rcases List.mem_append.1 hp with hp | hp
    · have hsp : Up lt (P' ++ [z]) := (List.pairwise_append.1 hs).1
      have hzp : lt z p = false := (List.pairwise_append.1 hsp).2.2 p hp z (by simp)
      cases e : lt x p with
      | false => rfl
      | true => have := h.n1 e hzp; rw [hz] at this; cases this
    · simp at hp; subst hp; exact hz

theorem merge_ins (h : Weak lt) (x : α) : ∀ (n : Nat) (A B : List α), A.length + B.length ≤ n → mergeS lt A (insS lt x B) = insS lt x (mergeS lt A B) := by
  intro n
  induction n with
  | zero =>
    intro A B hn
    have hA : A = [] := List.length_eq_zero_iff.1 (by omega)
    subst hA; rw [nil_merge, nil_merge]
  | succ n ih =>
    intro A B hn
    cases A with
    | nil => rw [nil_merge, nil_merge]
    | cons a A =>
      cases B with
      | nil =>
        rw [merge_nil]
        simp only [insS]
        rw [merge_cons]
        by_cases hx : lt x a = true
        · rw [if_pos hx, if_pos hx, merge_nil]
        · rw [if_neg hx, if_neg hx]
          have := ih A [] (by simp at hn ⊢; omega)
          simp only [insS, merge_nil] at this
          rw [this]
      | cons b B =>
        simp only [List.length_cons] at hn
        by_cases hba : lt b a = true
        · rw [merge_cons a b, if_pos hba]
          have e : insS lt x (b :: mergeS lt (a :: A) B) = if lt x b = true then x :: b :: mergeS lt (a :: A) B else b :: insS lt x (mergeS lt (a :: A) B) := rfl
          rw [e]
          by_cases hxb : lt x b = true
          · rw [if_pos hxb]
            have e2 : insS lt x (b :: B) = x :: b :: B := by simp only [insS]; rw [if_pos hxb]
            rw [e2, merge_cons, if_pos (h.trans hxb hba), merge_cons, if_pos hba]
          · rw [if_neg hxb]
            have e2 : insS lt x (b :: B) = b :: insS lt x B := by simp only [insS]; rw [if_neg hxb]
            rw [e2, merge_cons, if_pos hba, ih (a :: A) B (by simp only [List.length_cons]; omega)]
        · rw [merge_cons a b, if_neg hba]
          have e : insS lt x (a :: mergeS lt A (b :: B)) = if lt x a = true then x :: a :: mergeS lt A (b :: B) else a :: insS lt x (mergeS lt A (b :: B)) := rfl
          rw [e]
          have ih' := ih A (b :: B) (by simp only [List.length_cons]; omega)
          by_cases hxa : lt x a = true
          · rw [if_pos hxa]
            have hxb : lt x b = true := h.n1 hxa (Bool.eq_false_iff.2 hba)
            have e2 : insS lt x (b :: B) = x :: b :: B := by simp only [insS]; rw [if_pos hxb]
            rw [e2, merge_cons, if_pos hxa, merge_cons, if_neg hba]
          · rw [if_neg hxa]
            by_cases hxb : lt x b = true
            · have e2 : insS lt x (b :: B) = x :: b :: B := by simp only [insS]; rw [if_pos hxb]
              rw [e2, merge_cons, if_neg hxa, ← ih', e2]
            · have e2 : insS lt x (b :: B) = b :: insS lt x B := by simp only [insS]; rw [if_neg hxb]
              rw [e2, merge_cons, if_neg hba, ← ih', e2]

/-- Two lists sorted, and merged: both, sorted. -/
theorem sort_app (h : Weak lt) (l m : List α) : sortS lt (l ++ m) = mergeS lt (sortS lt l) (sortS lt m) := by
  suffices g : ∀ n (m : List α), m.length = n → sortS lt (l ++ m) = mergeS lt (sortS lt l) (sortS lt m) from g _ m rfl
  intro n
  induction n with
  | zero => intro m hm; rw [List.length_eq_zero_iff.1 hm, List.append_nil, show sortS lt ([] : List α) = [] from rfl, merge_nil]
  | succ n ih =>
    intro m hm
    rcases List.eq_nil_or_concat m with rfl | ⟨k, x, rfl⟩
    · simp at hm
    · rw [List.concat_eq_append] at hm ⊢
      rw [← List.append_assoc, sortS_snoc, sortS_snoc, ih k (by simpa using hm), merge_ins h x _ _ _ (Nat.le_refl _)]

/-- A merging cut in two. -/
theorem merge_split (A1 A2 B1 B2 : List α) (h1 : ∀ a ∈ A2, ∀ b ∈ B1, lt b a = true) (h2 : ∀ a ∈ A1, ∀ b ∈ B2, lt b a = false) : mergeS lt (A1 ++ A2) (B1 ++ B2) = mergeS lt A1 B1 ++ mergeS lt A2 B2 := by
  suffices g : ∀ (n : Nat) (A1 B1 : List α), A1.length + B1.length ≤ n → (∀ a ∈ A2, ∀ b ∈ B1, lt b a = true) → (∀ a ∈ A1, ∀ b ∈ B2, lt b a = false) → mergeS lt (A1 ++ A2) (B1 ++ B2) = mergeS lt A1 B1 ++ mergeS lt A2 B2 from g _ A1 B1 (Nat.le_refl _) h1 h2
  clear h1 h2 A1 B1
  intro n
  induction n with
  | zero =>
    intro A1 B1 hn h1 h2
    have hA : A1 = [] := List.length_eq_zero_iff.1 (by omega)
    have hB : B1 = [] := List.length_eq_zero_iff.1 (by omega)
    subst hA; subst hB; simp [nil_merge]
  | succ n ih =>
    intro A1 B1 hn h1 h2
    cases A1 with
    | nil =>
      cases B1 with
      | nil => simp [nil_merge]
      | cons b B1 =>
        rw [nil_merge, List.nil_append]
        have ih' := ih [] B1 (by simp at hn ⊢; omega) (fun a ha z hz => h1 a ha z (by simp [hz])) (by simp)
        rw [nil_merge, List.nil_append] at ih'
        cases A2 with
        | nil => rw [nil_merge, nil_merge]
        | cons a A2 => rw [List.cons_append, merge_cons, if_pos (h1 a (by simp) b (by simp)), ih']; rfl
    | cons a A1 =>
      cases B1 with
      | nil =>
        rw [merge_nil, List.nil_append]
        have ih' := ih A1 [] (by simp at hn ⊢; omega) (by simp) (fun z hz => h2 z (by simp [hz]))
        rw [merge_nil, List.nil_append] at ih'
        cases B2 with
        | nil => rw [merge_nil, merge_nil]
        | cons b B2 => rw [List.cons_append, merge_cons, if_neg (by rw [h2 a (by simp) b (by simp)]; simp), ih']; rfl
      | cons b B1 =>
        simp only [List.length_cons] at hn
        rw [List.cons_append, List.cons_append, merge_cons, merge_cons]
        split
        · have ih' := ih (a :: A1) B1 (by simp only [List.length_cons]; omega) (fun a ha z hz => h1 a ha z (by simp [hz])) h2
          rw [List.cons_append] at ih'
          rw [ih']; rfl
        · have ih' := ih A1 (b :: B1) (by simp only [List.length_cons]; omega) h1 (fun z hz => h2 z (by simp [hz]))
          rw [List.cons_append] at ih'
          rw [ih']; rfl
theorem merge_len (A B : List α) : (mergeS lt A B).length = A.length + B.length := by
  suffices g : ∀ (n : Nat) (A B : List α), A.length + B.length ≤ n → (mergeS lt A B).length = A.length + B.length from g _ A B (Nat.le_refl _)
  intro n
  induction n with
  | zero =>
    intro A B hn
    have hA : A = [] := List.length_eq_zero_iff.1 (by omega)
    subst hA; simp [nil_merge]
  | succ n ih =>
    intro A B hn
    cases A with
    | nil => simp [nil_merge]
    | cons a A =>
      cases B with
      | nil => simp [merge_nil]
      | cons b B =>
        simp only [List.length_cons] at hn
        rw [merge_cons]
        split
        · simp only [List.length_cons]; rw [ih (a :: A) B (by simp only [List.length_cons]; omega)]; simp only [List.length_cons]; omega
        · simp only [List.length_cons]; rw [ih A (b :: B) (by simp only [List.length_cons]; omega)]; simp only [List.length_cons]; omega
/-- One ahead of many; one behind many. -/
theorem merge_one (a : α) (B1 B2 : List α) (h1 : ∀ b ∈ B1, lt b a = true) (h2 : ∀ b ∈ B2.head?, lt b a = false) : mergeS lt [a] (B1 ++ B2) = B1 ++ a :: B2 := by
  have := merge_split (lt := lt) [] [a] B1 B2 (fun z hz b hb => by simp at hz; subst hz; exact h1 b hb) (by simp)
  rw [List.nil_append] at this
  rw [this, nil_merge]
  cases B2 with
  | nil => rw [merge_nil]
  | cons b B2 => rw [merge_cons, if_neg (by rw [h2 b (by simp)]; simp), nil_merge]
theorem one_merge (x : α) (A1 A2 : List α) (h1 : ∀ a ∈ A1, lt x a = false) (h2 : ∀ a ∈ A2, lt x a = true) : mergeS lt (A1 ++ A2) [x] = A1 ++ x :: A2 := by
  have := merge_split (lt := lt) A1 A2 [] [x] (by simp) (fun a ha b hb => by simp at hb; subst hb; exact h1 a ha)
  rw [List.nil_append] at this
  rw [this, merge_nil]
  cases A2 with
  | nil => rw [nil_merge]
  | cons a A2 => rw [merge_cons, if_pos (h2 a (by simp)), merge_nil]

/-- Sorted lists and two places: all ahead of the one, all behind the other. -/
theorem up_cut (h : Weak lt) (A1 A2 B1 B2 : List α) (hA : Up lt (A1 ++ A2)) (hB : Up lt (B1 ++ B2)) (h1 : ∀ a ∈ A2.head?, ∀ b ∈ B1.getLast?, lt b a = true) (h2 : ∀ a ∈ A1.getLast?, ∀ b ∈ B2.head?, lt b a = false) :
    mergeS lt (A1 ++ A2) (B1 ++ B2) = mergeS lt A1 B1 ++ mergeS lt A2 B2 := by
  refine merge_split A1 A2 B1 B2 ?_ ?_
  · intro a ha b hb
    obtain ⟨a0, A', rfl⟩ : ∃ a0 A', A2 = a0 :: A' := by cases A2 with | nil => simp at ha | cons c C => exact ⟨c, C, rfl⟩
    rcases List.eq_nil_or_concat B1 with rfl | ⟨B', z, rfl⟩
    · simp at hb
    · rw [List.concat_eq_append] at hB hb h1
      have k : lt z a0 = true := h1 a0 (by simp) z (by simp)
      have kb : b = z ∨ lt z b = false := by
        rcases List.mem_append.1 hb with hb | hb
        · exact Or.inr ((List.pairwise_append.1 (List.pairwise_append.1 hB).1).2.2 b hb z (by simp))
        · simp at hb; exact Or.inl hb
      have ka : a = a0 ∨ lt a a0 = false := by
        rcases List.mem_cons.1 ha with ha | ha
        · exact Or.inl ha
        · exact Or.inr ((List.pairwise_cons.1 (List.pairwise_append.1 hA).2.1).1 a ha)
      have k2 : lt b a0 = true := by rcases kb with rfl | kb; exact k; exact h.n2 k kb
      rcases ka with rfl | ka
      · exact k2
      · exact h.n1 k2 ka
  · intro a ha b hb
    obtain ⟨b0, B', rfl⟩ : ∃ a0 A', B2 = a0 :: A' := by cases B2 with | nil => simp at hb | cons c C => exact ⟨c, C, rfl⟩
    rcases List.eq_nil_or_concat A1 with rfl | ⟨A', z, rfl⟩
    · simp at ha
    · rw [List.concat_eq_append] at hA ha h2
      have k : lt b0 z = false := h2 z (by simp) b0 (by simp)
      have ka : a = z ∨ lt z a = false := by
        rcases List.mem_append.1 ha with ha | ha
        · exact Or.inr ((List.pairwise_append.1 (List.pairwise_append.1 hA).1).2.2 a ha z (by simp))
        · simp at ha; exact Or.inl ha
      have kb : b = b0 ∨ lt b b0 = false := by
        rcases List.mem_cons.1 hb with hb | hb
        · exact Or.inl hb
        · exact Or.inr ((List.pairwise_cons.1 (List.pairwise_append.1 hB).2.1).1 b hb)
      cases e : lt b a with
      | false => rfl
      | true =>
        have e2 : lt b0 a = true := by rcases kb with rfl | kb; exact e; exact h.n2 e kb
        have e3 : lt b0 z = true := by rcases ka with rfl | ka; exact e2; exact h.n1 e2 ka
        rw [k] at e3; cases e3
end Go.Proofs.YtbgaglcgennhiaaGreatDoor.Sy
