/-
  PLAIN LISTS OF BYTES: rows back to lines. Nothing of any program.
-/
import Derived.Test.YtjdpdkghfbaddaaDoorFld
namespace Go.Proofs.YtjdpdkghfbaddaaDoor.Tx
open Go.Lib

/-- The rows with their ends: none where one has no end, or a part of one stands elsewhere; cur is what the open one has. -/
def rowsA : List UInt8 → List UInt8 → Option (List (List UInt8))
  | cur, [] => if cur = [] then some [] else none
  | cur, c :: t => if c = 10 then none else if c = 13 then (match t with
    | [] => none
    | d :: u => if d = 10 then (rowsA [] u).map (cur :: ·) else none) else rowsA (cur ++ [c]) t
theorem rowsA_nil (cur : List UInt8) : rowsA cur [] = if cur = [] then some [] else none := rfl
theorem rowsA_10 (cur t : List UInt8) : rowsA cur (10 :: t) = none := by unfold rowsA; rw [if_pos rfl]
theorem rowsA_13 (cur : List UInt8) : rowsA cur [13] = none := by unfold rowsA; rw [if_neg (by decide), if_pos rfl]
theorem rowsA_13x (cur : List UInt8) {d : UInt8} (u : List UInt8) (h : d ≠ 10) : rowsA cur (13 :: d :: u) = none := by
  unfold rowsA
  rw [if_neg (by decide), if_pos rfl]
  simp only [if_neg h]
theorem rowsA_end (cur u : List UInt8) : rowsA cur (13 :: 10 :: u) = (rowsA [] u).map (cur :: ·) := by
  conv => lhs; unfold rowsA
  rw [if_neg (by decide), if_pos rfl]
  simp only [if_true]
theorem rowsA_on (cur : List UInt8) {c : UInt8} (t : List UInt8) (h1 : c ≠ 10) (h2 : c ≠ 13) : rowsA cur (c :: t) = rowsA (cur ++ [c]) t := by
  conv => lhs; unfold rowsA
  rw [if_neg h1, if_neg h2]
/-- a row without a part of an end -/
def clean (r : List UInt8) : Prop := ∀ c ∈ r, c ≠ 10 ∧ c ≠ 13
theorem rowsA_run : ∀ (p t cur : List UInt8), clean p → rowsA cur (p ++ t) = rowsA (cur ++ p) t
  | [], t, cur, _ => by simp
  | c :: p, t, cur, h => by
    rw [List.cons_append, rowsA_on cur _ (h c (by simp)).1 (h c (by simp)).2, rowsA_run p t _ (fun d hd => h d (by simp [hd]))]
    simp
theorem rowsA_ends : ∀ rs : List (List UInt8), (∀ r ∈ rs, clean r) → rowsA [] (ends rs) = some rs
  | [], _ => rfl
  | r :: rs, h => by
    rw [ends_cons, rowsA_run r _ [] (h r (by simp)), rowsA_end, rowsA_ends rs (fun x hx => h x (by simp [hx]))]
    rfl
/-- Does the row go on with the line ahead? -/
def cont : List UInt8 → Bool
  | [] => false
  | c :: _ => c == 32 || c == 9
/-- the last one of them with more behind it -/
def addLast (acc : List (List UInt8)) (x : List UInt8) : List (List UInt8) := acc.dropLast ++ [acc.getLastD [] ++ x]
theorem addLast_snoc (a : List (List UInt8)) (y x : List UInt8) : addLast (a ++ [y]) x = a ++ [y ++ x] := by simp [addLast]
theorem addLast_len {acc : List (List UInt8)} (h : acc ≠ []) (x : List UInt8) : (addLast acc x).length = acc.length := by
  have : 0 < acc.length := List.length_pos_iff.2 h
  simp [addLast]; omega
/-- The lines that rows make. -/
def linesA : List (List UInt8) → List (List UInt8) → Option (List (List UInt8))
  | acc, [] => some acc
  | acc, r :: t => if cont r then (if acc = [] then none else linesA (addLast acc r.tail) t) else linesA (acc ++ [r]) t
theorem linesA_nil (acc : List (List UInt8)) : linesA acc [] = some acc := rfl
theorem linesA_bad {r : List UInt8} (t : List (List UInt8)) (h : cont r = true) : linesA [] (r :: t) = none := by
  unfold linesA; rw [if_pos h, if_pos rfl]
theorem linesA_more {acc : List (List UInt8)} {r : List UInt8} (t : List (List UInt8)) (h : cont r = true) (ha : acc ≠ []) : linesA acc (r :: t) = linesA (addLast acc r.tail) t := by
  conv => lhs; unfold linesA
  rw [if_pos h, if_neg ha]
theorem linesA_new (acc : List (List UInt8)) {r : List UInt8} (t : List (List UInt8)) (h : cont r = false) : linesA acc (r :: t) = linesA (acc ++ [r]) t := by
  conv => lhs; unfold linesA
  rw [h]; rfl
/-- The lines of a text in rows. -/
def unfold (l : List UInt8) : Option (List (List UInt8)) := (rowsA [] l).bind (linesA [])

/-! ### the package's own way: cut at each end, then gathered -/
def jn : List (List UInt8) → List UInt8
  | [] => []
  | r :: t => r ++ t.flatMap List.tail
theorem jn_snoc {cur : List (List UInt8)} (h : cur ≠ []) (r : List UInt8) : jn (cur ++ [r]) = jn cur ++ r.tail := by
  cases cur with
  | nil => exact absurd rfl h
  | cons a t => simp [jn]
def starts (rs : List (List UInt8)) : List Bool := rs.map fun r => !cont r
theorem linesA_gat : ∀ (rs cur : List (List UInt8)) (acc : List (List UInt8)), cur ≠ [] → linesA (acc ++ [jn cur]) rs = some (acc ++ (gat cur rs (starts rs)).map jn)
  | [], cur, acc, _ => by rw [linesA_nil, gat_nil]; rfl
  | r :: t, cur, acc, h => by
    unfold starts
    rw [List.map_cons]
    cases hc : cont r with
    | true =>
      rw [linesA_more t hc (by simp), addLast_snoc, ← jn_snoc h, Bool.not_true, gat_false]
      exact linesA_gat t (cur ++ [r]) acc (by simp)
    | false =>
      rw [linesA_new _ t hc, Bool.not_false, gat_true]
      have := linesA_gat t [r] (acc ++ [jn cur]) (by simp)
      have e : jn [r] = r := by simp [jn]
      rw [e] at this
      rw [this]
      simp [starts]
theorem gat_head {α : Type} : ∀ (ps cur : List α) (bs : List Bool), ∃ x t, gat cur ps bs = (cur ++ x) :: t
  | [], cur, bs => ⟨[], [], by rw [gat_nil]; simp⟩
  | p :: ps, cur, [] => ⟨[], [], by simp [gat]⟩
  | p :: ps, cur, b :: bs => by
    cases b with
    | true => exact ⟨[], gat [p] ps bs, by rw [gat_true]; simp⟩
    | false =>
      obtain ⟨x, t, e⟩ := gat_head ps (cur ++ [p]) bs
      exact ⟨p :: x, t, by rw [gat_false, e]; simp⟩
/-- what the gathered rows say -/
theorem lines_gat (rs : List (List UInt8)) : ∃ h t, gat [] rs (starts rs) = h :: t ∧ linesA [] rs = if h = [] then some (t.map jn) else none := by
  cases rs with
  | nil => exact ⟨[], [], rfl, rfl⟩
  | cons r t =>
    unfold starts
    rw [List.map_cons]
    cases hc : cont r with
    | true =>
      obtain ⟨x, u, e⟩ := gat_head t [r] (starts t)
      refine ⟨[r] ++ x, u, ?_, ?_⟩
      · rw [Bool.not_true, gat_false]; exact e
      · rw [linesA_bad t hc, if_neg (by simp)]
    | false =>
      refine ⟨[], gat [r] t (starts t), by rw [Bool.not_false, gat_true]; rfl, ?_⟩
      have := linesA_gat t [r] [] (by simp)
      have e : jn [r] = r := by simp [jn]
      rw [e] at this
      rw [linesA_new [] t hc, if_pos rfl]
      exact this
theorem linesA_hd {rs : List (List UInt8)} {h : List (List UInt8)} {t : List (List (List UInt8))} (e : gat [] rs (starts rs) = h :: t) : linesA [] rs = if h = [] then some (t.map jn) else none := by
  obtain ⟨h', t', e', e2⟩ := lines_gat rs
  rw [e] at e'
  cases e'
  exact e2

/-! ### cut at each end -/
theorem occ_at (l : List UInt8) (j : Nat) : occAt l [13, 10] j = true ↔ ∃ u, l.drop j = 13 :: 10 :: u := by
  unfold occAt
  constructor
  · intro h
    rw [List.isPrefixOf_iff_prefix] at h
    obtain ⟨u, hu⟩ := h
    exact ⟨u, hu.symm⟩
  · rintro ⟨u, hu⟩
    rw [hu]
    simp [List.isPrefixOf]
theorem rowsA_bad : ∀ (p t cur : List UInt8), ¬ clean p → (∀ j, j < p.length → occAt (p ++ t) [13, 10] j = false) → rowsA cur (p ++ t) = none
  | [], t, cur, h, _ => absurd (fun c hc => by cases hc) h
  | c :: p, t, cur, h, ho => by
    by_cases h1 : c = 10
    · subst h1; exact rowsA_10 _ _
    by_cases h2 : c = 13
    · subst h2
      have h0 := ho 0 (by simp)
      rw [List.cons_append]
      cases e : p ++ t with
      | nil => exact rowsA_13 _
      | cons d u =>
        refine rowsA_13x _ _ (fun hd => ?_)
        subst hd
        rw [Bool.eq_false_iff] at h0
        exact h0 ((occ_at _ _).2 ⟨u, by rw [List.drop_zero, List.cons_append, e]⟩)
    · rw [List.cons_append, rowsA_on _ _ h1 h2]
      refine rowsA_bad p t _ (fun hp => h (fun d hd => ?_)) (fun j hj => ?_)
      · rcases List.mem_cons.1 hd with rfl | hd
        · exact ⟨h1, h2⟩
        · exact hp d hd
      · have := ho (j + 1) (by simp; omega)
        unfold occAt at this ⊢
        simpa using this
instance (r : List UInt8) : Decidable (clean r) := List.decidableBAll _ r
/-- what is between the ends, and whether it is all right -/
theorem split_rows (l : List UInt8) : ∃ ps x, split l [13, 10] = ps ++ [x] ∧ rowsA [] l = if (∀ p ∈ ps, clean p) ∧ x = [] then some ps else none := by
  induction l using len_ind with
  | h l ih =>
    rcases index_spec l [13, 10] with ⟨h1, h2⟩ | ⟨i, h1, h2, h3, h4⟩
    · refine ⟨[], l, ?_, ?_⟩
      · unfold split
        rw [count_miss h1]
        rfl
      · by_cases hc : clean l
        · have := rowsA_run l [] [] hc
          rw [List.append_nil, List.nil_append] at this
          rw [this, rowsA_nil]
          simp
        · have := rowsA_bad l [] [] hc (fun j hj => by rw [List.append_nil]; exact h2 j (by omega))
          rw [List.append_nil] at this
          rw [this, if_neg]
          rintro ⟨_, rfl⟩
          exact hc (fun c hc => by cases hc)
    · obtain ⟨u, hu⟩ := (occ_at l i).1 h3
      have hl : l = l.take i ++ 13 :: 10 :: u := by rw [← hu, List.take_append_drop]
      have hu2 : l.drop (i + 2) = u := by
        have := congrArg (List.drop 2) hu
        simpa [List.drop_drop] using this
      have hlen : u.length < l.length := by
        have := congrArg List.length hl
        simp at this
        omega
      obtain ⟨ps, x, e1, e2⟩ := ih u hlen
      refine ⟨l.take i :: ps, x, ?_, ?_⟩
      · unfold split at e1 ⊢
        have hcn := count_hit (sub := [13, 10]) (by simp) h1
        rw [show i + ([13, 10] : List UInt8).length = i + 2 from rfl, hu2] at hcn
        rw [hcn, Nat.add_comm, splitK, if_neg (by rw [h1]; simp), h1]
        simp only [Int.toNat_natCast, Nat.add_zero]
        rw [show i + ([13, 10] : List UInt8).length = i + 2 from rfl, hu2, e1]
        rfl
      · by_cases hc : clean (l.take i)
        · have h5 : rowsA [] l = (rowsA [] u).map (l.take i :: ·) := by
            conv => lhs; rw [hl]
            rw [rowsA_run _ _ [] hc, rowsA_end, List.nil_append]
          rw [h5, e2]
          by_cases hp : (∀ p ∈ ps, clean p) ∧ x = []
          · rw [if_pos hp, if_pos ⟨fun p hp' => by
              rcases List.mem_cons.1 hp' with rfl | hp'
              · exact hc
              · exact hp.1 p hp', hp.2⟩]
            rfl
          · rw [if_neg hp, if_neg (fun h => hp ⟨fun p hp' => h.1 p (by simp [hp']), h.2⟩)]
            rfl
        · have h5 : rowsA [] l = none := by
            have := rowsA_bad (l.take i) (13 :: 10 :: u) [] hc (fun j hj => by
              rw [← hl]
              exact h4 j (by rw [List.length_take] at hj; omega))
            rwa [← hl] at this
          rw [h5, if_neg (fun h => hc (h.1 _ (by simp)))]
end Go.Proofs.YtjdpdkghfbaddaaDoor.Tx
