/-
  TREES AS FILES: what Parse makes of a short text is not large. Over plain lists.
-/
import Derived.Test.YtbkfmbkamocllaaGreatDoorCanB
import Derived.Test.YtbkfmbkamocllaaGreatDoorCanA
import Derived.Test.YtbkfmbkamocllaaGreatDoorTrX
namespace Go.Proofs.YtbkfmbkamocllaaGreatDoor.Cn
open Go.Lib Tx Tk Tr

/-- names of at most A bytes, values of at most V -/
def FitA (A V : Nat) (l : List Att) : Prop := ∀ a ∈ l, a.1.length ≤ A ∧ a.2.length ≤ V
theorem FitA.snoc {A V : Nat} {l : List Att} {a : Att} (h : FitA A V l) (h1 : a.1.length ≤ A) (h2 : a.2.length ≤ V) : FitA A V (l ++ [a]) := fun b hb => by
  rcases List.mem_append.1 hb with hb | hb
  · exact h b hb
  · rw [List.mem_singleton] at hb
    subst hb
    exact ⟨h1, h2⟩
theorem next_fit {A V : Nat} (hV : 4 * A ≤ V) {al : List Att} {l r : List UInt8} {a : Att} (h : nextA al l = some (a, r)) (hl : l.length ≤ A) (hg : FitA A V al) : FitA A V (al ++ [a]) := by
  obtain ⟨h1, _⟩ := own_some h
  obtain ⟨_, h3⟩ := attrL_some h1
  obtain ⟨_, r1, he, hv, ea⟩ := attrB_cat h3
  obtain ⟨q, t, _, hq, _, hx⟩ := val_cat hv
  have c0 := while_len bl l
  have c1 := name_len (l.dropWhile bl)
  have c2 := while_len bl (nameL (l.dropWhile bl)).2
  rw [he] at c2
  have c3 := while_len bl r1
  rw [hq] at c3
  have c4 := backLen _ _ a.2 (Nat.le_refl _) (backO_some hx).2.1
  simp only [List.length_append, List.length_cons] at c2 c3
  refine hg.snoc ?_ (by omega)
  rw [ea]
  omega
theorem many_fit {A V : Nat} (hV : 4 * A ≤ V) : ∀ (f : Nat) (al : List Att) (l : List UInt8), l.length ≤ A → FitA A V al → FitA A V (manyF nextA f al l).1
  | 0, _, _, _, h => h
  | f + 1, al, l, hl, h => by
    unfold manyF
    cases e : nextA al l with
    | none => exact h
    | some p =>
      have h1 : p.2.length < l.length := shrinksA al l p.1 p.2 e
      exact many_fit hV f _ _ (by omega) (next_fit hV (a := p.1) (r := p.2) e hl h)
def FitT (A V : Nat) (t : Tok) : Prop := t.2.1.length ≤ A ∧ FitA A V t.2.2.2.1
theorem FitA.nil (A V : Nat) : FitA A V [] := fun a ha => by cases ha
theorem tok_fit {A V : Nat} (hV : 4 * A ≤ V) {l r : List UInt8} {t : Tok} (h : tokL l = some (t, r)) (hl : l.length ≤ A) : FitT A V t := by
  rcases cases_tok l with ⟨x, rfl⟩ | ⟨x, rfl, hx⟩ | hx
  · rw [tok_close] at h
    unfold closeL at h
    split at h
    · cases h
    · split at h
      · cases h
        have := name_len x
        simp only [List.length_cons] at hl
        exact ⟨by show (nameL x).1.length ≤ A; omega, FitA.nil A V⟩
      · cases h
  · rw [tok_open hx] at h
    unfold openL at h
    split at h
    · cases h
    · have hn := name_len x
      simp only [List.length_cons] at hl
      have hg := many_fit hV ((nameL x).2.length + 1) [] (nameL x).2 (by omega) (FitA.nil A V)
      have hk : (nameL x).1.length ≤ A := by omega
      rcases ends_some h with ⟨_, rfl⟩ | ⟨_, rfl⟩
      · exact ⟨hk, hg⟩
      · exact ⟨hk, hg⟩
  · rw [tok_text hx] at h
    obtain ⟨_, rfl, x, _, rfl⟩ := Tk.text_some h
    exact ⟨Nat.zero_le _, FitA.nil A V⟩
theorem walks_fit {A V : Nat} (hV : 4 * A ≤ V) {l : List UInt8} {zs : List (Nat × Tok)} (h : Walks l zs) : l.length ≤ A → ∀ z ∈ zs, FitT A V z.2 ∧ z.2.2.2.2.1.length ≤ 10 := by
  induction h with
  | nil => exact fun _ z hz => by cases hz
  | cons h1 h2 _ ih =>
    intro hl z hz
    have := tok_len h1
    rcases List.mem_cons.1 hz with rfl | hz
    · exact ⟨tok_fit hV h1 hl, Nat.not_lt.1 h2⟩
    · exact ih (by omega) z hz
/-- a node but for its text -/
def FitN (A V : Nat) (x : Nd) : Prop := x.2.2.1.length ≤ A ∧ x.2.2.2.1.length ≤ V ∧ x.2.2.2.2.1.length ≤ 10 ∧ FitA A V x.2.2.2.2.1
def FitS (A V : Nat) (st : St) : Prop := ∀ x ∈ st.1, FitN A V x
theorem FitS.begin {A V : Nat} {st : St} (h : FitS A V st) {k : Nat} {t : Tok} (ht : FitT A V t) (hc : t.2.2.2.1.length ≤ 10) : FitS A V (beginL st (toI (k, t))) := fun x hx => by
  unfold beginL at hx
  rcases List.mem_append.1 hx with hx | hx
  · exact h x hx
  · rw [List.mem_singleton] at hx
    subst hx
    refine ⟨ht.1, ?_, Nat.le_trans (List.length_filter_le _ _) hc, fun a ha => ht.2 a (List.mem_filter.1 ha).1⟩
    show (spaceOf st t.2.2.2.1).length ≤ V
    unfold spaceOf
    split
    · rename_i a ha
      exact (ht.2 a (List.mem_of_find?_eq_some ha)).2
    · unfold innerSpace
      split
      · split
        · rename_i y hy
          exact (h y (List.mem_of_getElem? hy)).2.1
        · exact Nat.zero_le _
      · exact Nat.zero_le _
theorem mem_modify_fit {A V : Nat} {s : List UInt8} {x : Nd} : ∀ {l : List Nd} {p : Nat}, (∀ y ∈ l, FitN A V y) → x ∈ l.modify p (addText s) → FitN A V x
  | [], p, _, h => by simp at h
  | a :: l, 0, hl, h => by
    rw [List.modify_zero_cons] at h
    rcases List.mem_cons.1 h with rfl | h
    · exact hl a List.mem_cons_self
    · exact hl x (List.mem_cons_of_mem _ h)
  | a :: l, p + 1, hl, h => by
    rw [List.modify_succ_cons] at h
    rcases List.mem_cons.1 h with rfl | h
    · exact hl x List.mem_cons_self
    · exact mem_modify_fit (fun y hy => hl y (List.mem_cons_of_mem _ hy)) h
theorem FitS.next {A V : Nat} {st : St} (h : FitS A V st) {k : Nat} {t : Tok} (ht : FitT A V t) (hc : t.2.2.2.1.length ≤ 10) : FitS A V (nextL st (toI (k, t))) := by
  unfold nextL
  split
  · exact h.begin ht hc
  · split
    · exact h
    · unfold sayL
      split
      · exact fun x hx => mem_modify_fit h hx
      · exact h
theorem run_fit {A V : Nat} : ∀ (us : List (Nat × Tok)) (st st' : St) (m : Nat), (∀ u ∈ us, FitT A V u.2 ∧ u.2.2.2.2.1.length ≤ 10) → FitS A V st → Short m st → runL st (us.map toI) = (none, st') → FitS A V st' ∧ Short (m + bulk (us.map toI)) st'
  | [], st, st', m, _, h1, h2, h => by
    cases h
    exact ⟨h1, fun x hx => Nat.le_trans (h2 x hx) (Nat.le_add_right _ _)⟩
  | u :: us, st, st', m, hg, h1, h2, h => by
    rw [List.map_cons] at h
    by_cases hb : badL st (toI u) = 0
    · rw [run_good hb] at h
      have hu := hg u List.mem_cons_self
      have hbk : bulk ((u :: us).map toI) = u.2.2.2.1.length + bulk (us.map toI) := by unfold bulk; simp [toI]
      have := run_fit us _ st' (m + u.2.2.2.1.length) (fun v hv => hg v (List.mem_cons_of_mem _ hv)) (h1.next (k := u.1) hu.1 hu.2) (h2.next (Nat.le_refl _)) h
      rw [hbk, ← Nat.add_assoc]
      exact this
    · rw [run_bad hb] at h
      cases h
theorem mem_done {els : List Nd} {x : Nd} : ∀ {k : Nat} {l : List Nd}, x ∈ doneF els k l → ∃ i y, y ∈ l ∧ x = doneAt els i y
  | _, [], h => by cases h
  | k, a :: l, h => by
    rw [doneF] at h
    rcases List.mem_cons.1 h with rfl | h
    · exact ⟨k, a, List.mem_cons_self, rfl⟩
    · obtain ⟨i, y, hy, e⟩ := mem_done h
      exact ⟨i, y, List.mem_cons_of_mem _ hy, e⟩
theorem sum_bound {l : List Nd} {m : Nat} (h : ∀ x ∈ l, ownL x ≤ m) : (l.map ownL).sum ≤ l.length * m := by
  induction l with
  | nil => simp
  | cons a l ih =>
    have h1 := h a List.mem_cons_self
    have h2 := ih fun x hx => h x (List.mem_cons_of_mem _ hx)
    rw [List.map_cons, List.sum_cons, List.length_cons, Nat.add_mul, Nat.one_mul]
    omega
theorem ownA_bound {A V : Nat} {l : List Att} (h : FitA A V l) : ownA l ≤ l.length * (4 + A + 6 * V) := by
  induction l with
  | nil => simp [ownA]
  | cons a l ih =>
    have h1 := h a List.mem_cons_self
    have h2 := ih fun x hx => h x (List.mem_cons_of_mem _ hx)
    unfold ownA at h2 ⊢
    rw [List.map_cons, List.sum_cons, List.length_cons, Nat.add_mul, Nat.one_mul]
    omega
theorem fit_own {x : Nd} (h : FitN 3000 12000 x) (ht : x.2.2.2.2.2.length ≤ 12000) : ownL x ≤ 1000000 := by
  obtain ⟨h1, h2, h3, h4⟩ := h
  have h5 := ownA_bound h4
  have h6 : x.2.2.2.2.1.length * (4 + 3000 + 6 * 12000) ≤ 10 * (4 + 3000 + 6 * 12000) := Nat.mul_le_mul_right _ h3
  unfold ownL
  omega
theorem bulk_short (l : List UInt8) : bulk ((tokensL l).1.map toI) ≤ 4 * l.length := by
  unfold tokensL
  split
  · simp [bulk]
  split
  · unfold told
    split
    · simp [bulk]
    · split
      · have h1 := bulkA_many l.length ((over headL l).length + 1) [] (over headL l)
        have h2 : (over headL l).length ≤ l.length := by
          unfold over
          split
          · rw [List.length_drop]; omega
          · exact Nat.le_refl _
        have h3 : bulkA ([] : List TokA) = 0 := rfl
        unfold toksL
        show bulkA (manyF _ _ _ _).1 ≤ _
        omega
      · simp [bulk]
  · simp [bulk]
/-- what Parse makes of 3000 bytes can be written in memory -/
theorem parse_small {l : List UInt8} {ns : List Nd} {p : Int} (h : parseL l = (ns, p, 0)) (hl : l.length ≤ 3000) : ns.length ≤ 1000 ∧ (ns.map ownL).sum ≤ 1000000000 := by
  have hbk := bulk_short l
  unfold parseL at h
  split at h
  · rename_i ht
    obtain ⟨_, hv, zs, w, e⟩ := toks_ok ht
    rw [e] at h hbk
    have hov : (over headL l).length ≤ 3000 := by
      unfold over
      split
      · rw [List.length_drop]; omega
      · exact hl
    have hgood : ∀ u ∈ posL l.length zs, FitT 3000 12000 u.2 ∧ u.2.2.2.2.1.length ≤ 10 := fun u hu => by
      unfold posL at hu
      obtain ⟨z, hz, rfl⟩ := List.mem_map.1 hu
      exact walks_fit (by omega) w hov z hz
    have hgood2 : ∀ u ∈ posL l.length zs, GoodT u.2 := fun u hu => by
      unfold posL at hu
      obtain ⟨z, hz, rfl⟩ := List.mem_map.1 hu
      exact walks_good w z hz
    obtain ⟨o, st, hr⟩ : ∃ o st, runL ([], []) ((posL l.length zs).map toI) = (o, st) := ⟨_, _, rfl⟩
    cases o with
    | some q =>
      have h2 := build_bad hr
      simp only at h
      rw [h2] at h
      injection h with h _
      subst h
      exact ⟨Nat.zero_le _, Nat.zero_le _⟩
    | none =>
      obtain ⟨hok, _⟩ := run_grows _ _ st hgood2 OkS.nil Grows.nil hr
      obtain ⟨hf, hs⟩ := run_fit _ _ st 0 hgood (fun x hx => by cases hx) (Short.nil 0) hr
      simp only at h hbk
      rw [build_end hr] at h
      unfold endL at h
      split at h
      · cases h
      · unfold finL at h
        split at h
        · cases h
        · injection h with h _
          subst h
          have hlen : (doneF st.1 0 st.1).length ≤ 1000 := by rw [doneF_len]; exact hok.many
          refine ⟨hlen, Nat.le_trans (sum_bound (m := 1000000) fun x hx => ?_) (by omega)⟩
          obtain ⟨i, y, hy, rfl⟩ := mem_done hx
          refine fit_own (x := doneAt st.1 i y) (hf y hy) ?_
          have hty := hs y hy
          show (if kidOf st.1 i then [] else y.2.2.2.2.2).length ≤ 12000
          split
          · exact Nat.zero_le _
          · omega
  · injection h with h _
    subst h
    exact ⟨Nat.zero_le _, Nat.zero_le _⟩
end Go.Proofs.YtbkfmbkamocllaaGreatDoor.Cn
