import Derived.WalkKit
import Derived.Test.YtogjhpcjjmcjfaaGreatDoorJ03
import Derived.Shelf.SlicesQ.Reverse
import Derived.Laws.AppendOwn
import Derived.Deep.QuietTactic
section
/- what is reached of it -/
namespace Go.Proofs.YtogjhpcjjmcjfaaGreatDoor.Sy
variable {α : Type} {lt : α → α → Bool}
/-- A weak order: not both ways; and what is below is below, or above, any third one. -/
structure Weak (lt : α → α → Bool) : Prop where
  asym : ∀ {x y}, lt x y = true → lt y x = false
  neg : ∀ {x z}, lt x z = true → ∀ y, lt x y = true ∨ lt y z = true

theorem Weak.trans (h : Weak lt) {x y z : α} (a : lt x y = true) (b : lt y z = true) : lt x z = true := by
  rcases h.neg a z with c | c
  · exact c
  · have := h.asym b; rw [c] at this; cases this
theorem Weak.n1 (h : Weak lt) {x a b : α} (p : lt x a = true) (q : lt b a = false) : lt x b = true := by
  rcases h.neg p b with c | c
  · exact c
  · rw [q] at c; cases c
theorem Weak.n2 (h : Weak lt) {y a b : α} (p : lt y a = true) (q : lt y b = false) : lt b a = true := by
  rcases h.neg p b with c | c
  · rw [q] at c; cases c
  · exact c
theorem Weak.irr (h : Weak lt) (x : α) : lt x x = false := by
  cases e : lt x x with
  | false => rfl
  | true => have := h.asym e; rw [e] at this; cases this

/-- x behind all that it is not below. -/
def insS (lt : α → α → Bool) (x : α) : List α → List α
  | [] => [x]
  | y :: l => if lt x y = true then x :: y :: l else y :: insS lt x l
def sortS (lt : α → α → Bool) (l : List α) : List α := l.foldl (fun acc x => insS lt x acc) []
def mergeS (lt : α → α → Bool) : List α → List α → List α
  | [], B => B
  | a :: A, [] => a :: A
  | a :: A, b :: B => if lt b a = true then b :: mergeS lt (a :: A) B else a :: mergeS lt A (b :: B)
termination_by A B => A.length + B.length
def Up (lt : α → α → Bool) (l : List α) : Prop := l.Pairwise fun x y => lt y x = false

theorem merge_nil (A : List α) : mergeS lt A [] = A := by cases A <;> simp [mergeS]
theorem nil_merge (B : List α) : mergeS lt [] B = B := by simp [mergeS]
theorem merge_cons (a b : α) (A B : List α) : mergeS lt (a :: A) (b :: B) = if lt b a = true then b :: mergeS lt (a :: A) B else a :: mergeS lt A (b :: B) := by simp [mergeS]

theorem sortS_snoc (l : List α) (x : α) : sortS lt (l ++ [x]) = insS lt x (sortS lt l) := by simp [sortS]
theorem ins_len (x : α) (l : List α) : (insS lt x l).length = l.length + 1 := by
  induction l with
  | nil => rfl
  | cons y l ih => unfold insS; split <;> simp [ih]
theorem sortS_len (l : List α) : (sortS lt l).length = l.length := by
  suffices h : ∀ (l acc : List α), (l.foldl (fun acc x => insS lt x acc) acc).length = acc.length + l.length by simpa [sortS] using h l []
  intro l
  induction l with
  | nil => simp
  | cons x l ih => intro acc; simp only [List.foldl_cons, ih, ins_len, List.length_cons]; omega
theorem ins_mem (x z : α) (l : List α) : z ∈ insS lt x l ↔ z = x ∨ z ∈ l := by
  induction l with
  | nil => simp [insS]
  | cons y l ih =>
    unfold insS; split
    · simp
    · simp only [List.mem_cons, ih]; constructor <;> rintro (h | h | h) <;> simp [h]
theorem ins_perm (x : α) (l : List α) : (insS lt x l).Perm (x :: l) := by
  induction l with
  | nil => exact List.Perm.refl _
  | cons y l ih =>
    unfold insS; split
    · exact List.Perm.refl _
    · exact (List.Perm.cons y ih).trans (List.Perm.swap x y l)
theorem sortS_perm (l : List α) : (sortS lt l).Perm l := by
  suffices h : ∀ (l acc : List α), (l.foldl (fun acc x => insS lt x acc) acc).Perm (acc ++ l) by simpa [sortS] using h l []
  intro l
  induction l with
  | nil => intro acc; simp
  | cons x l ih =>
    intro acc
    simp only [List.foldl_cons]
    refine (ih _).trans ?_
    refine ((ins_perm x acc).append_right l).trans ?_
    exact (List.perm_middle (a := x) (l₁ := acc) (l₂ := l)).symm
theorem ins_up (h : Weak lt) (x : α) (l : List α) (hl : Up lt l) : Up lt (insS lt x l) := by
  induction l with
  | nil => simp [insS, Up]
  | cons y l ih =>
    have hy : ∀ z ∈ l, lt z y = false := (List.pairwise_cons.1 hl).1
    have hl' : Up lt l := (List.pairwise_cons.1 hl).2
    unfold insS; split
    · rename_i hxy
      refine List.pairwise_cons.2 ⟨?_, hl⟩
      intro z hz
      rcases List.mem_cons.1 hz with rfl | hz
      · exact h.asym hxy
      · exact h.asym (h.n1 hxy (hy z hz))
    · rename_i hxy
      refine List.pairwise_cons.2 ⟨?_, ih hl'⟩
      intro z hz
      rcases (ins_mem x z l).1 hz with rfl | hz
      · exact Bool.eq_false_iff.2 hxy
      · exact hy z hz
theorem sortS_up (h : Weak lt) (l : List α) : Up lt (sortS lt l) := by
  suffices g : ∀ (l acc : List α), Up lt acc → Up lt (l.foldl (fun acc x => insS lt x acc) acc) from g l [] List.Pairwise.nil
  intro l
  induction l with
  | nil => intro acc ha; exact ha
  | cons x l ih => intro acc ha; exact ih _ (ins_up h x acc ha)

theorem ins_split (x : α) (P Q : List α) (hP : ∀ p ∈ P, lt x p = false) (hQ : ∀ q ∈ Q.head?, lt x q = true) : insS lt x (P ++ Q) = P ++ x :: Q := by
  induction P with
  | nil =>
    cases Q with
    | nil => rfl
    | cons q Q => simp only [List.nil_append, insS]; rw [if_pos (hQ q (by simp))]
  | cons p P ih =>
    simp only [List.cons_append, insS]
    rw [if_neg (by rw [hP p (by simp)]; simp), ih (fun z hz => hP z (by simp [hz]))]
/-- where an insertion from behind ends -/
theorem ins_at (h : Weak lt) (x : α) (P Q : List α) (hs : Up lt (P ++ Q)) (hP : ∀ p ∈ P.getLast?, lt x p = false) (hQ : ∀ q ∈ Q.head?, lt x q = true) : insS lt x (P ++ Q) = P ++ x :: Q := by
  refine ins_split x P Q ?_ hQ
  intro p hp
  rcases List.eq_nil_or_concat P with rfl | ⟨P', z, rfl⟩
  · simp at hp
  · have hz : lt x z = false := hP z (by simp)
    rw [List.concat_eq_append] at hs hp
    rcases List.mem_append.1 hp with hp | hp
    · have hsp : Up lt (P' ++ [z]) := (List.pairwise_append.1 hs).1
      have hzp : lt z p = false := (List.pairwise_append.1 hsp).2.2 p hp z (by simp)
      cases e : lt x p with
      | false => rfl
      | true => have := h.n1 e hzp; rw [hz] at this; cases this
    · simp at hp; subst hp; exact hz

theorem merge_ins (h : Weak lt) (x : α) : ∀ (n : Nat) (A B : List α), A.length + B.length ≤ n → mergeS lt A (insS lt x B) = insS lt x (mergeS lt A B) := by
  intro n
  induction n with
  | zero =>
    intro A B hn
    have hA : A = [] := List.length_eq_zero_iff.1 (by omega)
    subst hA; rw [nil_merge, nil_merge]
  | succ n ih =>
    intro A B hn
    cases A with
    | nil => rw [nil_merge, nil_merge]
    | cons a A =>
      cases B with
      | nil =>
        rw [merge_nil]
        simp only [insS]
        rw [merge_cons]
        by_cases hx : lt x a = true
        · rw [if_pos hx, if_pos hx, merge_nil]
        · rw [if_neg hx, if_neg hx]
          have := ih A [] (by simp at hn ⊢; omega)
          simp only [insS, merge_nil] at this
          rw [this]
      | cons b B =>
        simp only [List.length_cons] at hn
        by_cases hba : lt b a = true
        · rw [merge_cons a b, if_pos hba]
          have e : insS lt x (b :: mergeS lt (a :: A) B) = if lt x b = true then x :: b :: mergeS lt (a :: A) B else b :: insS lt x (mergeS lt (a :: A) B) := rfl
          rw [e]
          by_cases hxb : lt x b = true
          · rw [if_pos hxb]
            have e2 : insS lt x (b :: B) = x :: b :: B := by simp only [insS]; rw [if_pos hxb]
            rw [e2, merge_cons, if_pos (h.trans hxb hba), merge_cons, if_pos hba]
          · rw [if_neg hxb]
            have e2 : insS lt x (b :: B) = b :: insS lt x B := by simp only [insS]; rw [if_neg hxb]
            rw [e2, merge_cons, if_pos hba, ih (a :: A) B (by simp only [List.length_cons]; omega)]
        · rw [merge_cons a b, if_neg hba]
          have e : insS lt x (a :: mergeS lt A (b :: B)) = if lt x a = true then x :: a :: mergeS lt A (b :: B) else a :: insS lt x (mergeS lt A (b :: B)) := rfl
          rw [e]
          have ih' := ih A (b :: B) (by simp only [List.length_cons]; omega)
          by_cases hxa : lt x a = true
          · rw [if_pos hxa]
            have hxb : lt x b = true := h.n1 hxa (Bool.eq_false_iff.2 hba)
            have e2 : insS lt x (b :: B) = x :: b :: B := by simp only [insS]; rw [if_pos hxb]
            rw [e2, merge_cons, if_pos hxa, merge_cons, if_neg hba]
          · rw [if_neg hxa]
            by_cases hxb : lt x b = true
            · have e2 : insS lt x (b :: B) = x :: b :: B := by simp only [insS]; rw [if_pos hxb]
              rw [e2, merge_cons, if_neg hxa, ← ih', e2]
            · have e2 : insS lt x (b :: B) = b :: insS lt x B := by simp only [insS]; rw [if_neg hxb]
              rw [e2, merge_cons, if_neg hba, ← ih', e2]

/-- Two lists sorted, and merged: both, sorted. -/
theorem sort_app (h : Weak lt) (l m : List α) : sortS lt (l ++ m) = mergeS lt (sortS lt l) (sortS lt m) := by
  suffices g : ∀ n (m : List α), m.length = n → sortS lt (l ++ m) = mergeS lt (sortS lt l) (sortS lt m) from g _ m rfl
  intro n
  induction n with
  | zero => intro m hm; rw [List.length_eq_zero_iff.1 hm, List.append_nil, show sortS lt ([] : List α) = [] from rfl, merge_nil]
  | succ n ih =>
    intro m hm
    rcases List.eq_nil_or_concat m with rfl | ⟨k, x, rfl⟩
    · simp at hm
    · rw [List.concat_eq_append] at hm ⊢
      rw [← List.append_assoc, sortS_snoc, sortS_snoc, ih k (by simpa using hm), merge_ins h x _ _ _ (Nat.le_refl _)]

/-- A merging cut in two. -/
theorem merge_split (A1 A2 B1 B2 : List α) (h1 : ∀ a ∈ A2, ∀ b ∈ B1, lt b a = true) (h2 : ∀ a ∈ A1, ∀ b ∈ B2, lt b a = false) : mergeS lt (A1 ++ A2) (B1 ++ B2) = mergeS lt A1 B1 ++ mergeS lt A2 B2 := by
  suffices g : ∀ (n : Nat) (A1 B1 : List α), A1.length + B1.length ≤ n → (∀ a ∈ A2, ∀ b ∈ B1, lt b a = true) → (∀ a ∈ A1, ∀ b ∈ B2, lt b a = false) → mergeS lt (A1 ++ A2) (B1 ++ B2) = mergeS lt A1 B1 ++ mergeS lt A2 B2 from g _ A1 B1 (Nat.le_refl _) h1 h2
  clear h1 h2 A1 B1
  intro n
  induction n with
  | zero =>
    intro A1 B1 hn h1 h2
    have hA : A1 = [] := List.length_eq_zero_iff.1 (by omega)
    have hB : B1 = [] := List.length_eq_zero_iff.1 (by omega)
    subst hA; subst hB; simp [nil_merge]
  | succ n ih =>
    intro A1 B1 hn h1 h2
    cases A1 with
    | nil =>
      cases B1 with
      | nil => simp [nil_merge]
      | cons b B1 =>
        rw [nil_merge, List.nil_append]
        have ih' := ih [] B1 (by simp at hn ⊢; omega) (fun a ha z hz => h1 a ha z (by simp [hz])) (by simp)
        rw [nil_merge, List.nil_append] at ih'
        cases A2 with
        | nil => rw [nil_merge, nil_merge]
        | cons a A2 => rw [List.cons_append, merge_cons, if_pos (h1 a (by simp) b (by simp)), ih']; rfl
    | cons a A1 =>
      cases B1 with
      | nil =>
        rw [merge_nil, List.nil_append]
        have ih' := ih A1 [] (by simp at hn ⊢; omega) (by simp) (fun z hz => h2 z (by simp [hz]))
        rw [merge_nil, List.nil_append] at ih'
        cases B2 with
        | nil => rw [merge_nil, merge_nil]
        | cons b B2 => rw [List.cons_append, merge_cons, if_neg (by rw [h2 a (by simp) b (by simp)]; simp), ih']; rfl
      | cons b B1 =>
        simp only [List.length_cons] at hn
        rw [List.cons_append, List.cons_append, merge_cons, merge_cons]
        split
        · have ih' := ih (a :: A1) B1 (by simp only [List.length_cons]; omega) (fun a ha z hz => h1 a ha z (by simp [hz])) h2
          rw [List.cons_append] at ih'
          rw [ih']; rfl
        · have ih' := ih A1 (b :: B1) (by simp only [List.length_cons]; omega) h1 (fun z hz => h2 z (by simp [hz]))
          rw [List.cons_append] at ih'
          rw [ih']; rfl
theorem merge_len (A B : List α) : (mergeS lt A B).length = A.length + B.length := by
  suffices g : ∀ (n : Nat) (A B : List α), A.length + B.length ≤ n → (mergeS lt A B).length = A.length + B.length from g _ A B (Nat.le_refl _)
  intro n
  induction n with
  | zero =>
    intro A B hn
    have hA : A = [] := List.length_eq_zero_iff.1 (by omega)
    subst hA; simp [nil_merge]
  | succ n ih =>
    intro A B hn
    cases A with
    | nil => simp [nil_merge]
    | cons a A =>
      cases B with
      | nil => simp [merge_nil]
      | cons b B =>
        simp only [List.length_cons] at hn
        rw [merge_cons]
        split
        · simp only [List.length_cons]; rw [ih (a :: A) B (by simp only [List.length_cons]; omega)]; simp only [List.length_cons]; omega
        · simp only [List.length_cons]; rw [ih A (b :: B) (by simp only [List.length_cons]; omega)]; simp only [List.length_cons]; omega
/-- One ahead of many; one behind many. -/
theorem merge_one (a : α) (B1 B2 : List α) (h1 : ∀ b ∈ B1, lt b a = true) (h2 : ∀ b ∈ B2.head?, lt b a = false) : mergeS lt [a] (B1 ++ B2) = B1 ++ a :: B2 := by
  have := merge_split (lt := lt) [] [a] B1 B2 (fun z hz b hb => by simp at hz; subst hz; exact h1 b hb) (by simp)
  rw [List.nil_append] at this
  rw [this, nil_merge]
  cases B2 with
  | nil => rw [merge_nil]
  | cons b B2 => rw [merge_cons, if_neg (by rw [h2 b (by simp)]; simp), nil_merge]
theorem one_merge (x : α) (A1 A2 : List α) (h1 : ∀ a ∈ A1, lt x a = false) (h2 : ∀ a ∈ A2, lt x a = true) : mergeS lt (A1 ++ A2) [x] = A1 ++ x :: A2 := by
  have := merge_split (lt := lt) A1 A2 [] [x] (by simp) (fun a ha b hb => by simp at hb; subst hb; exact h1 a ha)
  rw [List.nil_append] at this
  rw [this, merge_nil]
  cases A2 with
  | nil => rw [nil_merge]
  | cons a A2 => rw [merge_cons, if_pos (h2 a (by simp)), merge_nil]

/-- Sorted lists and two places: all ahead of the one, all behind the other. -/
theorem up_cut (h : Weak lt) (A1 A2 B1 B2 : List α) (hA : Up lt (A1 ++ A2)) (hB : Up lt (B1 ++ B2)) (h1 : ∀ a ∈ A2.head?, ∀ b ∈ B1.getLast?, lt b a = true) (h2 : ∀ a ∈ A1.getLast?, ∀ b ∈ B2.head?, lt b a = false) :
    mergeS lt (A1 ++ A2) (B1 ++ B2) = mergeS lt A1 B1 ++ mergeS lt A2 B2 := by
  refine merge_split A1 A2 B1 B2 ?_ ?_
  · intro a ha b hb
    obtain ⟨a0, A', rfl⟩ : ∃ a0 A', A2 = a0 :: A' := by cases A2 with | nil => simp at ha | cons c C => exact ⟨c, C, rfl⟩
    rcases List.eq_nil_or_concat B1 with rfl | ⟨B', z, rfl⟩
    · simp at hb
    · rw [List.concat_eq_append] at hB hb h1
      have k : lt z a0 = true := h1 a0 (by simp) z (by simp)
      have kb : b = z ∨ lt z b = false := by
        rcases List.mem_append.1 hb with hb | hb
        · exact Or.inr ((List.pairwise_append.1 (List.pairwise_append.1 hB).1).2.2 b hb z (by simp))
        · simp at hb; exact Or.inl hb
      have ka : a = a0 ∨ lt a a0 = false := by
        rcases List.mem_cons.1 ha with ha | ha
        · exact Or.inl ha
        · exact Or.inr ((List.pairwise_cons.1 (List.pairwise_append.1 hA).2.1).1 a ha)
      have k2 : lt b a0 = true := by rcases kb with rfl | kb; exact k; exact h.n2 k kb
      rcases ka with rfl | ka
      · exact k2
      · exact h.n1 k2 ka
  · intro a ha b hb
    obtain ⟨b0, B', rfl⟩ : ∃ a0 A', B2 = a0 :: A' := by cases B2 with | nil => simp at hb | cons c C => exact ⟨c, C, rfl⟩
    rcases List.eq_nil_or_concat A1 with rfl | ⟨A', z, rfl⟩
    · simp at ha
    · rw [List.concat_eq_append] at hA ha h2
      have k : lt b0 z = false := h2 z (by simp) b0 (by simp)
      have ka : a = z ∨ lt z a = false := by
        rcases List.mem_append.1 ha with ha | ha
        · exact Or.inr ((List.pairwise_append.1 (List.pairwise_append.1 hA).1).2.2 a ha z (by simp))
        · simp at ha; exact Or.inl ha
      have kb : b = b0 ∨ lt b b0 = false := by
        rcases List.mem_cons.1 hb with hb | hb
        · exact Or.inl hb
        · exact Or.inr ((List.pairwise_cons.1 (List.pairwise_append.1 hB).2.1).1 b hb)
      cases e : lt b a with
      | false => rfl
      | true =>
        have e2 : lt b0 a = true := by rcases kb with rfl | kb; exact e; exact h.n2 e kb
        have e3 : lt b0 z = true := by rcases ka with rfl | ka; exact e2; exact h.n1 e2 ka
        rw [k] at e3; cases e3
end Go.Proofs.YtogjhpcjjmcjfaaGreatDoor.Sy
end
section
/- what is reached of it -/
namespace Go.Proofs.YtogjhpcjjmcjfaaGreatDoor.Sy
open Go Go.Proofs Go.Proofs.YtogjhpcjjmcjfaaGreatDoor Go.RowKit Go.Lib Go.Sort
variable {α : Type} [Inhabited α] {enc : α → List Value} {k : Nat} {W0 W W' : World} {B : Nat} {d : Array α}
/-- What is told of the elements, once. -/
structure Enc (enc : α → List Value) (k : Nat) : Prop where
  hk : ∀ x, (enc x).length = k
  h1 : ∀ x, ∀ v ∈ enc x, v.oneCell' = true
/-- W is W0, but for block B, which holds the row d. -/
structure St (enc : α → List Value) (k : Nat) (W0 : World) (B : Nat) (d : Array α) (W : World) : Prop where
  grown : W0.grownBy W (some B)
  holds : HoldsK enc k W B 0 d
  lt : B < W0.heap.size

theorem rowK_bndS {α : Type} (d : Array α) (k x : Nat) (hx : x < d.size) : x * k + k ≤ d.size * k := by
  have := Nat.mul_le_mul_right k (show x + 1 ≤ d.size from hx); rwa [Nat.add_mul, Nat.one_mul] at this
theorem holds_setCellsS {W : World} {blk off : Nat} {F : Array Value} (h : Holds id W blk off F) (s : Nat) (vs : List Value) (hs : s + vs.length ≤ F.size) : Holds id (W.setCells blk (off + s) vs) blk off (setMany F s vs) := by
  have e : W.setCells blk (off + s) vs = putRow id W blk off (setMany F s vs) := by
    conv => lhs; rw [← putRow_self id W blk off F h]
    exact setCells_putRow _ _ _ _ _ _ hs
  rw [e]
  exact holds_putRow id W blk off F _ h (by rw [size_setMany])
theorem grown_setS {a w : World} {b : Nat} (h : a.grownBy w (some b)) (i : Nat) (v : Value) : a.grownBy (w.setCell ⟨b, i, none⟩ v) (some b) :=
  ⟨h.os, h.tape, h.output, by rw [World.size_setCell]; exact h.size, fun k hk hne => by rw [Below.heap_setCell w ⟨b, i, none⟩ v k (fun e => hne (by rw [e]))]; exact h.block k hk hne⟩
theorem grown_belowS {a w w' : World} {b : Nat} (h : a.grownBy w (some b)) (hb : Below w.heap.size w w') : a.grownBy w' (some b) :=
  ⟨by rw [hb.os, h.os], by rw [hb.tape, h.tape], by rw [hb.output, h.output], Nat.le_trans h.size hb.size, fun k hk hne => by rw [hb.block k (Nat.lt_of_lt_of_le hk h.size)]; exact h.block k hk hne⟩

theorem Enc.string : Enc (fun s : ByteArray => [Value.string s]) 1 := ⟨fun _ => rfl, fun _ v hv => by simp at hv; subst hv; rfl⟩
theorem holds_below {F : Array Value} (h : Holds id W B 0 F) (hb : Below W.heap.size W W') (hB : B < W.heap.size) : Holds id W' B 0 F := fun j hj => by
  have := h j hj
  exact ⟨by rw [hb.cell (p := ⟨B, 0 + j, none⟩) hB]; exact this.1, by rw [hb.frozen (p := ⟨B, 0 + j, none⟩) hB]; exact this.2⟩
theorem St.ltW (h : St enc k W0 B d W) : B < W.heap.size := Nat.lt_of_lt_of_le h.lt h.grown.size
theorem St.below (h : St enc k W0 B d W) (hb : Below W.heap.size W W') : St enc k W0 B d W' := ⟨grown_belowS h.grown hb, holds_below h.holds hb h.ltW, h.lt⟩
theorem St.drew (h : St enc k W0 B d W) : St enc k W0 B d W.drew := ⟨⟨h.grown.os, h.grown.tape, h.grown.output, h.grown.size, h.grown.block⟩, h.holds, h.lt⟩
theorem St.drewN (h : St enc k W0 B d W) (n : Nat) : St enc k W0 B d (W.drewN n) := ⟨⟨h.grown.os, h.grown.tape, h.grown.output, h.grown.size, h.grown.block⟩, h.holds, h.lt⟩
theorem St.alloc (h : St enc k W0 B d W) (o : Obj) : St enc k W0 B d (W.alloc o) := h.below ((Below.refl _ _).alloc (Nat.le_refl _) _)
theorem grownBy_setCells {a : World} {b : Nat} : ∀ (vs : List Value) (i : Nat) (w : World), a.grownBy w (some b) → a.grownBy (w.setCells b i vs) (some b)
  | [], _, _, h => h
  | v :: r, i, _, h => by rw [World.setCells]; exact grownBy_setCells r (i + 1) _ (grown_setS h i v)
theorem St.swap (h : St enc k W0 B d W) (R : Enc enc k) (i j : Nat) (hi : i < d.size) (hj : j < d.size) :
    St enc k W0 B (swp d i j) ((W.setCells B (i * k) (enc d[j]!)).setCells B (j * k) (enc d[i]!)) := by
  refine ⟨grownBy_setCells _ _ _ (grownBy_setCells _ _ _ h.grown), ?_, h.lt⟩
  have a := holds_setCellsS h.holds (i * k) (enc d[j]!) (by rw [R.hk, size_flatK]; exact rowK_bndS d k i hi)
  have b := holds_setCellsS a (j * k) (enc d[i]!) (by rw [R.hk, size_setMany, size_flatK]; exact rowK_bndS d k j hj)
  rw [Nat.zero_add, Nat.zero_add, setMany_swp enc k R.hk d i j hi hj] at b
  exact b
/-- at strings: cells, one by one -/
theorem St.cell {d : Array ByteArray} (h : St (fun s : ByteArray => [Value.string s]) 1 W0 B d W) (i : Nat) (hi : i < d.size) : W.cell? ⟨B, i, none⟩ = some (.string d[i]!) ∧ W.frozen? ⟨B, i, none⟩ = false := by
  have := HoldsK.cell h.holds hi (c := 0) (by omega)
  simpa using this
theorem St.swapS {d : Array ByteArray} (h : St (fun s : ByteArray => [Value.string s]) 1 W0 B d W) (i j : Nat) (hi : i < d.size) (hj : j < d.size) :
    St (fun s : ByteArray => [Value.string s]) 1 W0 B (swp d i j) ((W.setCell ⟨B, i, none⟩ (.string d[j]!)).setCell ⟨B, j, none⟩ (.string d[i]!)) := by
  have := h.swap Enc.string i j hi hj
  simpa [World.setCells] using this

theorem swp_list (X M Y : List α) (a b : α) (i j : Nat) (hi : i = X.length) (hj : j = X.length + 1 + M.length) : swp (X ++ a :: (M ++ b :: Y)).toArray i j = (X ++ b :: (M ++ a :: Y)).toArray := by
  subst hi; subst hj
  apply Array.ext
  · simp [size_swp]
  · intro t h1 h2
    have g := swp_get (d := (X ++ a :: (M ++ b :: Y)).toArray) (i := X.length) (j := X.length + 1 + M.length) (by simp) (by simp; omega) t
    rw [getElem!_pos _ t h1] at g
    rw [g]
    have hb : ((X ++ a :: (M ++ b :: Y)).toArray)[X.length + 1 + M.length]! = b := by
      rw [getElem!_pos _ _ (by simp; omega)]
      simp only [List.getElem_toArray]
      rw [List.getElem_append_right (by omega), List.getElem_cons, dif_neg (by omega), List.getElem_append_right (by omega)]
      simp only [show X.length + 1 + M.length - X.length - 1 - M.length = 0 by omega, List.getElem_cons_zero]
    have ha : ((X ++ a :: (M ++ b :: Y)).toArray)[X.length]! = a := by
      rw [getElem!_pos _ _ (by simp)]; simp
    have hs : t < (X ++ a :: (M ++ b :: Y)).length := by simpa [size_swp] using h1
    by_cases e1 : t = X.length + 1 + M.length
    · subst e1
      simp only [if_pos, ha]
      simp only [List.getElem_toArray]
      rw [List.getElem_append_right (by omega), List.getElem_cons, dif_neg (by omega), List.getElem_append_right (by omega)]
      simp only [show X.length + 1 + M.length - X.length - 1 - M.length = 0 by omega, List.getElem_cons_zero]
    · rw [if_neg e1]
      by_cases e2 : t = X.length
      · subst e2
        rw [if_pos rfl, hb]; simp
      · rw [if_neg e2, getElem!_pos _ t (by simpa using hs)]
        simp only [List.getElem_toArray]
        by_cases c1 : t < X.length
        · rw [List.getElem_append_left c1, List.getElem_append_left c1]
        · rw [List.getElem_append_right (by omega), List.getElem_append_right (by omega), List.getElem_cons, List.getElem_cons, dif_neg (by omega), dif_neg (by omega)]
          by_cases c2 : t - X.length - 1 < M.length
          · rw [List.getElem_append_left c2, List.getElem_append_left c2]
          · rw [List.getElem_append_right (by omega), List.getElem_append_right (by omega), List.getElem_cons, List.getElem_cons, dif_neg (by omega), dif_neg (by omega)]

structure Bel (w : World) where
  v : World
  h : Below w.heap.size w v
instance (w : World) : Inhabited (Bel w) := ⟨⟨w, Below.refl _ _⟩⟩
theorem wp_region_quiet_bel {P : Program} {id : Nat} {Q : Exit → Act → World → Prop} {a : Act} {w : World} {l : List Oper} (hm : P.follows .mixedOrders = true) (hB : Region.lexB .any l.toArray = true)
    (h : wpQuiet P l.toArray (fun w' => ∃ p : Bel w, w' = p.v) (fun a' => ∀ w', (∃ p : Bel w, w' = p.v) → Q .normal a' w') l a) : (Code.region id l.toArray true).wp P Q a w :=
  wp_region_quiet (C := fun w' => ∃ p : Bel w, w' = p.v) hm hB ⟨⟨w.drew, (Below.refl _ _).drew⟩, rfl⟩ (by simpa using h)
theorem Calls.bel_of {P : Program} {f : FuncId} {args : Array Value} {w : World} {p : Bel w} {v : Value}
    (h : Calls P f args p.v fun e w' => e = .returned v ∧ Below p.v.heap.size p.v w') : Calls P f args p.v fun e w'' => e = .returned v ∧ ∃ q : Bel w, w'' = q.v :=
  h.mono fun _ w' ⟨he, hb⟩ => ⟨he, ⟨w', p.h.trans (hb.mono p.h.size)⟩, rfl⟩
theorem St.bel (h : St enc k W0 B d W) (p : Bel W) : St enc k W0 B d p.v := h.below p.h

def swN (a b : Nat) : Nat → Array α → Array α
  | 0, d => d
  | i + 1, d => swp (swN a b i d) (a + i) (b + i)
theorem size_swN (a b : Nat) : ∀ (i : Nat) (d : Array α), (swN a b i d).size = d.size
  | 0, _ => rfl
  | i + 1, d => by rw [swN, size_swp, size_swN a b i d]
theorem swN_list (X P M Q Y : List α) (n : Nat) (hP : P.length = n) (hQ : Q.length = n) : ∀ i, i ≤ n →
    swN X.length (X.length + P.length + M.length) i (X ++ P ++ M ++ Q ++ Y).toArray = (X ++ Q.take i ++ P.drop i ++ M ++ P.take i ++ Q.drop i ++ Y).toArray
  | 0, _ => by simp [swN]
  | i + 1, h => by
    rw [swN, swN_list X P M Q Y n hP hQ i (by omega)]
    have eP : P.drop i = P[i] :: P.drop (i + 1) := List.drop_eq_getElem_cons (by omega)
    have eQ : Q.drop i = Q[i] :: Q.drop (i + 1) := List.drop_eq_getElem_cons (by omega)
    have tP : P.take (i + 1) = P.take i ++ [P[i]] := by rw [List.take_add_one, List.getElem?_eq_getElem (by omega)]; rfl
    have tQ : Q.take (i + 1) = Q.take i ++ [Q[i]] := by rw [List.take_add_one, List.getElem?_eq_getElem (by omega)]; rfl
    have e1 : X ++ Q.take i ++ P.drop i ++ M ++ P.take i ++ Q.drop i ++ Y = (X ++ Q.take i) ++ P[i] :: ((P.drop (i + 1) ++ M ++ P.take i) ++ Q[i] :: (Q.drop (i + 1) ++ Y)) := by rw [eP, eQ]; simp only [List.append_assoc, List.cons_append]
    rw [e1, swp_list _ _ _ _ _ _ _ (by simp; omega) (by simp; omega), tP, tQ]
    simp only [List.append_assoc, List.cons_append, List.nil_append]
theorem swN_all (X P M Q Y : List α) (n : Nat) (hP : P.length = n) (hQ : Q.length = n) :
    swN X.length (X.length + P.length + M.length) n (X ++ P ++ M ++ Q ++ Y).toArray = (X ++ Q ++ M ++ P ++ Y).toArray := by
  rw [swN_list X P M Q Y n hP hQ n (Nat.le_refl _), List.take_of_length_le (by omega), List.take_of_length_le (by omega), List.drop_eq_nil_of_le (by omega), List.drop_eq_nil_of_le (by omega)]
  simp
end Go.Proofs.YtogjhpcjjmcjfaaGreatDoor.Sy
end
