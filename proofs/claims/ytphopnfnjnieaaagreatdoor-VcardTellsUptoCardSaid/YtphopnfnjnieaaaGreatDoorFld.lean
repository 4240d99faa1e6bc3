/- Texts laid together: Fld FldU FldV FldB -/
import Derived.Test.YtphopnfnjnieaaaGreatDoorTxt
import Derived.Lib.Join
import Derived.Lib.SplitLaws
/-
  PLAIN LISTS OF BYTES: lines in rows, and back, as the document's words have them. Nothing of any program.
-/
namespace Go.Proofs.YtphopnfnjnieaaaGreatDoor.Tx
open Go.Lib

/-! ### characters; a byte that begins none is one -/
def chsF : Nat → List UInt8 → List (List UInt8)
  | 0, _ => []
  | f + 1, l => if l = [] then [] else l.take (dc l).2 :: chsF f (l.drop (dc l).2)
def chs (l : List UInt8) : List (List UInt8) := chsF l.length l
theorem chsF_nil (f : Nat) : chsF f [] = [] := by cases f <;> rfl
theorem chsF_succ (f : Nat) {l : List UInt8} (h : l ≠ []) : chsF (f + 1) l = l.take (dc l).2 :: chsF f (l.drop (dc l).2) := if_neg h
theorem chsF_enough : ∀ (f g : Nat) (l : List UInt8), l.length ≤ f → l.length ≤ g → chsF f l = chsF g l
  | f, g, [], _, _ => by rw [chsF_nil, chsF_nil]
  | 0, _, _ :: _, h, _ => by simp at h
  | _ + 1, 0, _ :: _, _, h => by simp at h
  | f + 1, g + 1, a :: l, hf, hg => by
    have := dc_ge1 (a :: l)
    rw [chsF_succ f (by simp), chsF_succ g (by simp), chsF_enough f g _ (by rw [List.length_drop]; simp at hf ⊢; omega) (by rw [List.length_drop]; simp at hg ⊢; omega)]
theorem chs_nil : chs [] = [] := rfl
theorem chs_step {l : List UInt8} (hl : l ≠ []) : chs l = l.take (dc l).2 :: chs (l.drop (dc l).2) := by
  cases l with
  | nil => exact absurd rfl hl
  | cons a t =>
    have := dc_ge1 (a :: t)
    unfold chs
    rw [List.length_cons, chsF_succ _ hl, chsF_enough t.length _ _ (by rw [List.length_drop]; simp; omega) (Nat.le_refl _)]
theorem len_ind {p : List UInt8 → Prop} (h : ∀ l, (∀ r : List UInt8, r.length < l.length → p r) → p l) (l : List UInt8) : p l := by
  have : ∀ n, ∀ l : List UInt8, l.length < n → p l := by
    intro n
    induction n with
    | zero => intro l hl; omega
    | succ n ih => intro l hl; exact h l (fun r hr => ih r (by omega))
  exact this (l.length + 1) l (Nat.lt_succ_self _)
theorem drop_less {l : List UInt8} (hl : l ≠ []) : (l.drop (dc l).2).length < l.length := by
  have := dc_ge1 l
  have : 0 < l.length := by cases l with | nil => exact absurd rfl hl | cons => simp
  rw [List.length_drop]; omega
theorem chs_flat (l : List UInt8) : (chs l).flatten = l := by
  induction l using len_ind with
  | h l ih =>
    by_cases hl : l = []
    · subst hl; rfl
    · rw [chs_step hl, List.flatten_cons, ih _ (drop_less hl), List.take_append_drop]
theorem chs_len (l : List UInt8) : (chs l).length ≤ l.length := by
  induction l using len_ind with
  | h l ih =>
    by_cases hl : l = []
    · subst hl; exact Nat.le_refl _
    · have h1 := drop_less hl
      have h2 := ih _ h1
      rw [chs_step hl, List.length_cons]; omega
theorem chs_size (l : List UInt8) : ∀ c ∈ chs l, 1 ≤ c.length ∧ c.length ≤ 4 := by
  induction l using len_ind with
  | h l ih =>
    by_cases hl : l = []
    · subst hl; intro c hc; cases hc
    · intro c hc
      rw [chs_step hl, List.mem_cons] at hc
      rcases hc with rfl | hc
      · have h1 := dc_ge1 l
        have h2 := dc_le hl
        have h3 := dc_le4 l
        rw [List.length_take]; omega
      · exact ih _ (drop_less hl) c hc

/-! ### a line in rows -/
/-- The rows that characters make, where the open one is cur, and has room for so many bytes. -/
def frows : Nat → List UInt8 → List (List UInt8) → List (List UInt8)
  | _, cur, [] => [cur]
  | room, cur, c :: t => if room < c.length then cur :: frows (74 - c.length) (32 :: c) t else frows (room - c.length) (cur ++ c) t
def rowsOf (l : List UInt8) : List (List UInt8) := frows 75 [] (chs l)
def ends (rs : List (List UInt8)) : List UInt8 := rs.flatMap (· ++ [13, 10])
def foldOne (l : List UInt8) : List UInt8 := ends (rowsOf l)
def foldL (m : List (List UInt8)) : List UInt8 := m.flatMap foldOne
theorem ends_nil : ends [] = [] := rfl
theorem ends_cons (r : List UInt8) (t : List (List UInt8)) : ends (r :: t) = r ++ 13 :: 10 :: ends t := by simp [ends]
theorem ends_append (a b : List (List UInt8)) : ends (a ++ b) = ends a ++ ends b := by simp [ends]
theorem foldL_nil : foldL [] = [] := rfl
theorem foldL_snoc (m : List (List UInt8)) (l : List UInt8) : foldL (m ++ [l]) = foldL m ++ foldOne l := by simp [foldL]
theorem foldL_ends : ∀ m : List (List UInt8), foldL m = ends (m.flatMap rowsOf)
  | [] => rfl
  | l :: m => by
    have := foldL_ends m
    unfold foldL at this ⊢
    rw [List.flatMap_cons, List.flatMap_cons, ends_append, this]
    rfl
/-- The same, as the document's own loop goes. -/
def fr : Nat → List (List UInt8) → List UInt8
  | _, [] => [13, 10]
  | room, c :: t => if room < c.length then [13, 10, 32] ++ c ++ fr (74 - c.length) t else c ++ fr (room - c.length) t
theorem frows_fr : ∀ (cs : List (List UInt8)) (room : Nat) (cur : List UInt8), ends (frows room cur cs) = cur ++ fr room cs
  | [], _, cur => by simp [frows, fr, ends]
  | c :: t, room, cur => by
    unfold frows fr
    by_cases h : room < c.length
    · rw [if_pos h, if_pos h, ends_cons, frows_fr t]
      simp
    · rw [if_neg h, if_neg h, frows_fr t]
      simp
theorem foldOne_fr (l : List UInt8) : foldOne l = fr 75 (chs l) := by
  unfold foldOne rowsOf
  rw [frows_fr, List.nil_append]
theorem fr_nil (room : Nat) : fr room [] = [13, 10] := rfl
theorem fr_cut {room : Nat} {c : List UInt8} (t : List (List UInt8)) (h : room < c.length) : fr room (c :: t) = [13, 10, 32] ++ c ++ fr (74 - c.length) t := by
  rw [fr, if_pos h]
theorem fr_on {room : Nat} {c : List UInt8} (t : List (List UInt8)) (h : ¬ room < c.length) : fr room (c :: t) = c ++ fr (room - c.length) t := by
  rw [fr, if_neg h]
/-- rows are not much more than the line -/
theorem fr_size : ∀ (cs : List (List UInt8)) (room : Nat), (∀ c ∈ cs, 1 ≤ c.length) → (fr room cs).length ≤ 4 * cs.flatten.length + 2
  | [], _, _ => by simp [fr]
  | c :: t, room, h => by
    have h1 := h c (by simp)
    have ih := fun r => fr_size t r (fun d hd => h d (by simp [hd]))
    unfold fr
    split
    · have := ih (74 - c.length)
      simp only [List.length_append, List.flatten_cons, List.length_cons, List.length_nil]
      omega
    · have := ih (room - c.length)
      simp only [List.length_append, List.flatten_cons]
      omega
theorem foldOne_size (l : List UInt8) : (foldOne l).length ≤ 4 * l.length + 2 := by
  have h := fr_size (chs l) 75 (fun c hc => (chs_size l c hc).1)
  rw [chs_flat] at h
  rw [foldOne_fr]
  exact h

/-! ### what a generic gathering makes -/
section
variable {α : Type}
/-- Rows of parts: where the mark is true one begins. -/
def gat : List α → List α → List Bool → List (List α)
  | cur, [], _ => [cur]
  | cur, _ :: _, [] => [cur]
  | cur, p :: ps, b :: bs => if b then cur :: gat [p] ps bs else gat (cur ++ [p]) ps bs
theorem gat_nil (cur : List α) (bs : List Bool) : gat cur [] bs = [cur] := by cases bs <;> rfl
theorem gat_true (cur : List α) (p : α) (ps : List α) (bs : List Bool) : gat cur (p :: ps) (true :: bs) = cur :: gat [p] ps bs := rfl
theorem gat_false (cur : List α) (p : α) (ps : List α) (bs : List Bool) : gat cur (p :: ps) (false :: bs) = gat (cur ++ [p]) ps bs := rfl
/-- the same by places: where each row begins, and ends -/
def ivs : Nat → Nat → List Bool → List (Nat × Nat)
  | o, k, [] => [(o, k)]
  | o, k, b :: bs => if b then (o, k) :: ivs k (k + 1) bs else ivs o (k + 1) bs
def piece2 (ps : List α) (x : Nat × Nat) : List α := (ps.drop x.1).take (x.2 - x.1)
theorem take_snoc {ps : List α} {p : α} {t : List α} {o k : Nat} (h : ps.drop k = p :: t) (ho : o ≤ k) : (ps.drop o).take (k + 1 - o) = (ps.drop o).take (k - o) ++ [p] := by
  have hk : (ps.drop o)[k - o]? = some p := by
    rw [List.getElem?_drop, show o + (k - o) = k by omega]
    have := congrArg List.head? h
    simpa using this
  rw [show k + 1 - o = k - o + 1 by omega, List.take_add_one, hk]
  rfl
theorem gat_ivs : ∀ (bs : List Bool) (ps rest cur : List α) (o k : Nat), ps.drop k = rest → rest.length = bs.length → o ≤ k → cur = (ps.drop o).take (k - o) → gat cur rest bs = (ivs o k bs).map (piece2 ps)
  | [], ps, rest, cur, o, k, h1, h2, h3, h4 => by
    obtain rfl : rest = [] := List.eq_nil_of_length_eq_zero h2
    rw [gat_nil, h4]
    rfl
  | b :: bs, ps, [], cur, o, k, h1, h2, h3, h4 => by simp at h2
  | b :: bs, ps, p :: t, cur, o, k, h1, h2, h3, h4 => by
    have hd : ps.drop (k + 1) = t := by
      have := congrArg (List.drop 1) h1
      simpa [List.drop_drop] using this
    cases b with
    | true =>
      rw [gat_true, gat_ivs bs ps t [p] k (k + 1) hd (by simpa using h2) (by omega) (by rw [take_snoc h1 (Nat.le_refl _)]; simp), h4]
      rfl
    | false =>
      rw [gat_false, gat_ivs bs ps t (cur ++ [p]) o (k + 1) hd (by simpa using h2) (by omega) (by rw [h4, take_snoc h1 h3])]
      rfl
theorem gat_all (ps : List α) (bs : List Bool) (h : ps.length = bs.length) : gat [] ps bs = (ivs 0 0 bs).map (piece2 ps) :=
  gat_ivs bs ps ps [] 0 0 rfl h (Nat.le_refl _) rfl
theorem ivs_ok : ∀ (bs : List Bool) (o k : Nat), o ≤ k → ∀ x ∈ ivs o k bs, x.1 ≤ x.2 ∧ x.2 ≤ k + bs.length
  | [], o, k, h, x, hx => by
    have : x = (o, k) := by simpa [ivs] using hx
    subst this
    exact ⟨h, by simp⟩
  | b :: bs, o, k, h, x, hx => by
    cases b with
    | true =>
      have hx2 : x ∈ (o, k) :: ivs k (k + 1) bs := hx
      rcases List.mem_cons.1 hx2 with rfl | hx3
      · exact ⟨h, by simp⟩
      · have := ivs_ok bs k (k + 1) (by omega) x hx3
        simp; omega
    | false =>
      have hx2 : x ∈ ivs o (k + 1) bs := hx
      have := ivs_ok bs o (k + 1) (by omega) x hx2
      simp; omega
theorem ivs_len : ∀ (bs : List Bool) (o k : Nat), 1 ≤ (ivs o k bs).length ∧ (ivs o k bs).length ≤ bs.length + 1
  | [], _, _ => by simp [ivs]
  | b :: bs, o, k => by
    cases b with
    | true =>
      have := ivs_len bs k (k + 1)
      show 1 ≤ ((o, k) :: ivs k (k + 1) bs).length ∧ _
      simp
      show (ivs k (k + 1) bs).length + 1 ≤ _
      omega
    | false =>
      have := ivs_len bs o (k + 1)
      show 1 ≤ (ivs o (k + 1) bs).length ∧ (ivs o (k + 1) bs).length ≤ _
      simp
      omega
end
/-- the marks of a line's characters: true where the open row has no room -/
def brk : Nat → List (List UInt8) → List Bool
  | _, [] => []
  | n, c :: t => if n + c.length ≤ 75 then false :: brk (n + c.length) t else true :: brk (1 + c.length) t
theorem brk_len : ∀ (cs : List (List UInt8)) (n : Nat), (brk n cs).length = cs.length
  | [], _ => rfl
  | c :: t, n => by
    unfold brk
    split <;> simp [brk_len t]
theorem gat_fr : ∀ (cs : List (List UInt8)) (n : Nat) (cur : List (List UInt8)), n ≤ 75 → (∀ c ∈ cs, c.length ≤ 4) →
    ∃ h t, gat cur cs (brk n cs) = h :: t ∧ h.flatten ++ joinTail [13, 10, 32] (t.map List.flatten) ++ [13, 10] = cur.flatten ++ fr (75 - n) cs
  | [], n, cur, _, _ => ⟨cur, [], rfl, by simp [joinTail, fr]⟩
  | c :: t, n, cur, hn, hc => by
    have h4 := hc c (by simp)
    unfold brk
    by_cases h : n + c.length ≤ 75
    · rw [if_pos h, gat_false]
      obtain ⟨a, b, e1, e2⟩ := gat_fr t (n + c.length) (cur ++ [c]) h (fun d hd => hc d (by simp [hd]))
      refine ⟨a, b, e1, ?_⟩
      rw [e2, fr_on t (by omega)]
      simp
      rw [show 75 - (n + c.length) = 75 - n - c.length by omega]
    · rw [if_neg h, gat_true]
      obtain ⟨a, b, e1, e2⟩ := gat_fr t (1 + c.length) [c] (by omega) (fun d hd => hc d (by simp [hd]))
      refine ⟨cur, gat [c] t (brk (1 + c.length) t), rfl, ?_⟩
      rw [e1, fr_cut t (by omega)]
      have e3 : joinTail [13, 10, 32] ((a :: b).map List.flatten) = [13, 10, 32] ++ a.flatten ++ joinTail [13, 10, 32] (b.map List.flatten) := by simp [joinTail]
      rw [e3]
      have e4 : a.flatten ++ (joinTail [13, 10, 32] (b.map List.flatten) ++ [13, 10]) = c ++ fr (75 - (1 + c.length)) t := by
        rw [← List.append_assoc, e2]; simp
      rw [show 74 - c.length = 75 - (1 + c.length) by omega]
      simp only [List.append_assoc]
      rw [e4]
/-- the package's rows, without blanks and ends, joined as they are written -/
theorem fold_join (l : List UInt8) : join ((gat [] (chs l) (brk 0 (chs l))).map List.flatten) [13, 10, 32] ++ [13, 10] = foldOne l := by
  obtain ⟨h, t, e1, e2⟩ := gat_fr (chs l) 0 [] (by omega) (fun c hc => (chs_size l c hc).2)
  rw [e1, List.map_cons, join_cons, e2, foldOne_fr]
  rfl
end Go.Proofs.YtphopnfnjnieaaaGreatDoor.Tx
/-
  PLAIN LISTS OF BYTES: rows back to lines. Nothing of any program.
-/
namespace Go.Proofs.YtphopnfnjnieaaaGreatDoor.Tx
open Go.Lib

/-- The rows with their ends: none where one has no end, or a part of one stands elsewhere; cur is what the open one has. -/
def rowsA : List UInt8 → List UInt8 → Option (List (List UInt8))
  | cur, [] => if cur = [] then some [] else none
  | cur, c :: t => if c = 10 then none else if c = 13 then (match t with
    | [] => none
    | d :: u => if d = 10 then (rowsA [] u).map (cur :: ·) else none) else rowsA (cur ++ [c]) t
theorem rowsA_nil (cur : List UInt8) : rowsA cur [] = if cur = [] then some [] else none := rfl
theorem rowsA_10 (cur t : List UInt8) : rowsA cur (10 :: t) = none := by unfold rowsA; rw [if_pos rfl]
theorem rowsA_13 (cur : List UInt8) : rowsA cur [13] = none := by unfold rowsA; rw [if_neg (by decide), if_pos rfl]
theorem rowsA_13x (cur : List UInt8) {d : UInt8} (u : List UInt8) (h : d ≠ 10) : rowsA cur (13 :: d :: u) = none := by
  unfold rowsA
  rw [if_neg (by decide), if_pos rfl]
  simp only [if_neg h]
theorem rowsA_end (cur u : List UInt8) : rowsA cur (13 :: 10 :: u) = (rowsA [] u).map (cur :: ·) := by
  conv => lhs; unfold rowsA
  rw [if_neg (by decide), if_pos rfl]
  simp only [if_true]
theorem rowsA_on (cur : List UInt8) {c : UInt8} (t : List UInt8) (h1 : c ≠ 10) (h2 : c ≠ 13) : rowsA cur (c :: t) = rowsA (cur ++ [c]) t := by
  conv => lhs; unfold rowsA
  rw [if_neg h1, if_neg h2]
/-- a row without a part of an end -/
def clean (r : List UInt8) : Prop := ∀ c ∈ r, c ≠ 10 ∧ c ≠ 13
theorem rowsA_run : ∀ (p t cur : List UInt8), clean p → rowsA cur (p ++ t) = rowsA (cur ++ p) t
  | [], t, cur, _ => by simp
  | c :: p, t, cur, h => by
    rw [List.cons_append, rowsA_on cur _ (h c (by simp)).1 (h c (by simp)).2, rowsA_run p t _ (fun d hd => h d (by simp [hd]))]
    simp
theorem rowsA_ends : ∀ rs : List (List UInt8), (∀ r ∈ rs, clean r) → rowsA [] (ends rs) = some rs
  | [], _ => rfl
  | r :: rs, h => by
    rw [ends_cons, rowsA_run r _ [] (h r (by simp)), rowsA_end, rowsA_ends rs (fun x hx => h x (by simp [hx]))]
    rfl
/-- Does the row go on with the line ahead? -/
def cont : List UInt8 → Bool
  | [] => false
  | c :: _ => c == 32 || c == 9
/-- the last one of them with more behind it -/
def addLast (acc : List (List UInt8)) (x : List UInt8) : List (List UInt8) := acc.dropLast ++ [acc.getLastD [] ++ x]
theorem addLast_snoc (a : List (List UInt8)) (y x : List UInt8) : addLast (a ++ [y]) x = a ++ [y ++ x] := by simp [addLast]
theorem addLast_len {acc : List (List UInt8)} (h : acc ≠ []) (x : List UInt8) : (addLast acc x).length = acc.length := by
  have : 0 < acc.length := List.length_pos_iff.2 h
  simp [addLast]; omega
/-- The lines that rows make. -/
def linesA : List (List UInt8) → List (List UInt8) → Option (List (List UInt8))
  | acc, [] => some acc
  | acc, r :: t => if cont r then (if acc = [] then none else linesA (addLast acc r.tail) t) else linesA (acc ++ [r]) t
theorem linesA_nil (acc : List (List UInt8)) : linesA acc [] = some acc := rfl
theorem linesA_bad {r : List UInt8} (t : List (List UInt8)) (h : cont r = true) : linesA [] (r :: t) = none := by
  unfold linesA; rw [if_pos h, if_pos rfl]
theorem linesA_more {acc : List (List UInt8)} {r : List UInt8} (t : List (List UInt8)) (h : cont r = true) (ha : acc ≠ []) : linesA acc (r :: t) = linesA (addLast acc r.tail) t := by
  conv => lhs; unfold linesA
  rw [if_pos h, if_neg ha]
theorem linesA_new (acc : List (List UInt8)) {r : List UInt8} (t : List (List UInt8)) (h : cont r = false) : linesA acc (r :: t) = linesA (acc ++ [r]) t := by
  conv => lhs; unfold linesA
  rw [h]; rfl
/-- The lines of a text in rows. -/
def unfold (l : List UInt8) : Option (List (List UInt8)) := (rowsA [] l).bind (linesA [])

/-! ### the package's own way: cut at each end, then gathered -/
def jn : List (List UInt8) → List UInt8
  | [] => []
  | r :: t => r ++ t.flatMap List.tail
theorem jn_snoc {cur : List (List UInt8)} (h : cur ≠ []) (r : List UInt8) : jn (cur ++ [r]) = jn cur ++ r.tail := by
  cases cur with
  | nil => exact absurd rfl h
  | cons a t => simp [jn]
def starts (rs : List (List UInt8)) : List Bool := rs.map fun r => !cont r
theorem linesA_gat : ∀ (rs cur : List (List UInt8)) (acc : List (List UInt8)), cur ≠ [] → linesA (acc ++ [jn cur]) rs = some (acc ++ (gat cur rs (starts rs)).map jn)
  | [], cur, acc, _ => by rw [linesA_nil, gat_nil]; rfl
  | r :: t, cur, acc, h => by
    unfold starts
    rw [List.map_cons]
    cases hc : cont r with
    | true =>
      rw [linesA_more t hc (by simp), addLast_snoc, ← jn_snoc h, Bool.not_true, gat_false]
      exact linesA_gat t (cur ++ [r]) acc (by simp)
    | false =>
      rw [linesA_new _ t hc, Bool.not_false, gat_true]
      have := linesA_gat t [r] (acc ++ [jn cur]) (by simp)
      have e : jn [r] = r := by simp [jn]
      rw [e] at this
      rw [this]
      simp [starts]
theorem gat_head {α : Type} : ∀ (ps cur : List α) (bs : List Bool), ∃ x t, gat cur ps bs = (cur ++ x) :: t
  | [], cur, bs => ⟨[], [], by rw [gat_nil]; simp⟩
  | p :: ps, cur, [] => ⟨[], [], by simp [gat]⟩
  | p :: ps, cur, b :: bs => by
    cases b with
    | true => exact ⟨[], gat [p] ps bs, by rw [gat_true]; simp⟩
    | false =>
      obtain ⟨x, t, e⟩ := gat_head ps (cur ++ [p]) bs
      exact ⟨p :: x, t, by rw [gat_false, e]; simp⟩
/-- what the gathered rows say -/
theorem lines_gat (rs : List (List UInt8)) : ∃ h t, gat [] rs (starts rs) = h :: t ∧ linesA [] rs = if h = [] then some (t.map jn) else none := by
  cases rs with
  | nil => exact ⟨[], [], rfl, rfl⟩
  | cons r t =>
    unfold starts
    rw [List.map_cons]
    cases hc : cont r with
    | true =>
      obtain ⟨x, u, e⟩ := gat_head t [r] (starts t)
      refine ⟨[r] ++ x, u, ?_, ?_⟩
      · rw [Bool.not_true, gat_false]; exact e
      · rw [linesA_bad t hc, if_neg (by simp)]
    | false =>
      refine ⟨[], gat [r] t (starts t), by rw [Bool.not_false, gat_true]; rfl, ?_⟩
      have := linesA_gat t [r] [] (by simp)
      have e : jn [r] = r := by simp [jn]
      rw [e] at this
      rw [linesA_new [] t hc, if_pos rfl]
      exact this
theorem linesA_hd {rs : List (List UInt8)} {h : List (List UInt8)} {t : List (List (List UInt8))} (e : gat [] rs (starts rs) = h :: t) : linesA [] rs = if h = [] then some (t.map jn) else none := by
  obtain ⟨h', t', e', e2⟩ := lines_gat rs
  rw [e] at e'
  cases e'
  exact e2

/-! ### cut at each end -/
theorem occ_at (l : List UInt8) (j : Nat) : occAt l [13, 10] j = true ↔ ∃ u, l.drop j = 13 :: 10 :: u := by
  unfold occAt
  constructor
  · intro h
    rw [List.isPrefixOf_iff_prefix] at h
    obtain ⟨u, hu⟩ := h
    exact ⟨u, hu.symm⟩
  · rintro ⟨u, hu⟩
    rw [hu]
    simp [List.isPrefixOf]
theorem rowsA_bad : ∀ (p t cur : List UInt8), ¬ clean p → (∀ j, j < p.length → occAt (p ++ t) [13, 10] j = false) → rowsA cur (p ++ t) = none
  | [], t, cur, h, _ => absurd (fun c hc => by cases hc) h
  | c :: p, t, cur, h, ho => by
    by_cases h1 : c = 10
    · subst h1; exact rowsA_10 _ _
    by_cases h2 : c = 13
    · subst h2
      have h0 := ho 0 (by simp)
      rw [List.cons_append]
      cases e : p ++ t with
      | nil => exact rowsA_13 _
      | cons d u =>
        refine rowsA_13x _ _ (fun hd => ?_)
        subst hd
        rw [Bool.eq_false_iff] at h0
        exact h0 ((occ_at _ _).2 ⟨u, by rw [List.drop_zero, List.cons_append, e]⟩)
    · rw [List.cons_append, rowsA_on _ _ h1 h2]
      refine rowsA_bad p t _ (fun hp => h (fun d hd => ?_)) (fun j hj => ?_)
      · rcases List.mem_cons.1 hd with rfl | hd
        · exact ⟨h1, h2⟩
        · exact hp d hd
      · have := ho (j + 1) (by simp; omega)
        unfold occAt at this ⊢
        simpa using this
instance (r : List UInt8) : Decidable (clean r) := List.decidableBAll _ r
/-- what is between the ends, and whether it is all right -/
theorem split_rows (l : List UInt8) : ∃ ps x, split l [13, 10] = ps ++ [x] ∧ rowsA [] l = if (∀ p ∈ ps, clean p) ∧ x = [] then some ps else none := by
  induction l using len_ind with
  | h l ih =>
    rcases index_spec l [13, 10] with ⟨h1, h2⟩ | ⟨i, h1, h2, h3, h4⟩
    · refine ⟨[], l, ?_, ?_⟩
      · unfold split
        rw [count_miss h1]
        rfl
      · by_cases hc : clean l
        · have := rowsA_run l [] [] hc
          rw [List.append_nil, List.nil_append] at this
          rw [this, rowsA_nil]
          simp
        · have := rowsA_bad l [] [] hc (fun j hj => by rw [List.append_nil]; exact h2 j (by omega))
          rw [List.append_nil] at this
          rw [this, if_neg]
          rintro ⟨_, rfl⟩
          exact hc (fun c hc => by cases hc)
    · obtain ⟨u, hu⟩ := (occ_at l i).1 h3
      have hl : l = l.take i ++ 13 :: 10 :: u := by rw [← hu, List.take_append_drop]
      have hu2 : l.drop (i + 2) = u := by
        have := congrArg (List.drop 2) hu
        simpa [List.drop_drop] using this
      have hlen : u.length < l.length := by
        have := congrArg List.length hl
        simp at this
        omega
      obtain ⟨ps, x, e1, e2⟩ := ih u hlen
      refine ⟨l.take i :: ps, x, ?_, ?_⟩
      · unfold split at e1 ⊢
        have hcn := count_hit (sub := [13, 10]) (by simp) h1
        rw [show i + ([13, 10] : List UInt8).length = i + 2 from rfl, hu2] at hcn
        rw [hcn, Nat.add_comm, splitK, if_neg (by rw [h1]; simp), h1]
        simp only [Int.toNat_natCast, Nat.add_zero]
        rw [show i + ([13, 10] : List UInt8).length = i + 2 from rfl, hu2, e1]
        rfl
      · by_cases hc : clean (l.take i)
        · have h5 : rowsA [] l = (rowsA [] u).map (l.take i :: ·) := by
            conv => lhs; rw [hl]
            rw [rowsA_run _ _ [] hc, rowsA_end, List.nil_append]
          rw [h5, e2]
          by_cases hp : (∀ p ∈ ps, clean p) ∧ x = []
          · rw [if_pos hp, if_pos ⟨fun p hp' => by
              rcases List.mem_cons.1 hp' with rfl | hp'
              · exact hc
              · exact hp.1 p hp', hp.2⟩]
            rfl
          · rw [if_neg hp, if_neg (fun h => hp ⟨fun p hp' => h.1 p (by simp [hp']), h.2⟩)]
            rfl
        · have h5 : rowsA [] l = none := by
            have := rowsA_bad (l.take i) (13 :: 10 :: u) [] hc (fun j hj => by
              rw [← hl]
              exact h4 j (by rw [List.length_take] at hj; omega))
            rwa [← hl] at this
          rw [h5, if_neg (fun h => hc (h.1 _ (by simp)))]
end Go.Proofs.YtphopnfnjnieaaaGreatDoor.Tx
/-
  PLAIN LISTS OF BYTES: a text as a value, made plain, and split, as the document's words have it. Nothing of any program.
-/
namespace Go.Proofs.YtphopnfnjnieaaaGreatDoor.Tx

def valB (c : UInt8) : List UInt8 := if c = 92 ∨ c = 44 ∨ c = 59 then [92, c] else if c = 10 then [92, 110] else if c = 13 then [] else [c]
/-- A text as a value. -/
def val (l : List UInt8) : List UInt8 := l.flatMap valB
theorem val_nil : val [] = [] := rfl
theorem val_cons (c : UInt8) (t : List UInt8) : val (c :: t) = valB c ++ val t := rfl
theorem val_snoc (l : List UInt8) (c : UInt8) : val (l ++ [c]) = val l ++ valB c := by simp [val]
theorem valB_len (c : UInt8) : (valB c).length ≤ 2 := by
  unfold valB
  split
  · simp
  split
  · simp
  split <;> simp
theorem val_len : ∀ l : List UInt8, (val l).length ≤ 2 * l.length
  | [] => by simp [val_nil]
  | c :: t => by
    have := valB_len c
    have := val_len t
    rw [val_cons, List.length_append, List.length_cons]; omega
/-- What a "\" makes of the byte behind it. -/
def unb (c : UInt8) : Option UInt8 := if c = 92 ∨ c = 44 ∨ c = 59 then some c else if c = 110 ∨ c = 78 then some 10 else none
/-- The text that a value is. -/
def plain : List UInt8 → Option (List UInt8)
  | [] => some []
  | c :: t => if c = 92 then (match t with
    | [] => none
    | d :: u => match unb d with
      | some x => (plain u).map (x :: ·)
      | none => none) else (plain t).map (c :: ·)
theorem plain_nil : plain [] = some [] := rfl
theorem plain_end : plain [92] = none := by unfold plain; rw [if_pos rfl]
theorem plain_bad {d : UInt8} (u : List UInt8) (h : unb d = none) : plain (92 :: d :: u) = none := by
  unfold plain
  rw [if_pos rfl]
  simp only [h]
theorem plain_esc {d x : UInt8} (u : List UInt8) (h : unb d = some x) : plain (92 :: d :: u) = (plain u).map (x :: ·) := by
  conv => lhs; unfold plain
  rw [if_pos rfl]
  simp only [h]
theorem plain_on {c : UInt8} (t : List UInt8) (h : c ≠ 92) : plain (c :: t) = (plain t).map (c :: ·) := by
  conv => lhs; unfold plain
  rw [if_neg h]
theorem plain_run : ∀ (p t : List UInt8), (∀ c ∈ p, c ≠ 92) → plain (p ++ t) = (plain t).map (p ++ ·)
  | [], t, _ => by rw [List.nil_append]; cases plain t <;> rfl
  | c :: p, t, h => by
    rw [List.cons_append, plain_on _ (h c (by simp)), plain_run p t (fun d hd => h d (by simp [hd]))]
    cases plain t <;> rfl
theorem plain_len : ∀ (n : Nat) (l x : List UInt8), l.length ≤ n → plain l = some x → x.length ≤ l.length
  | n, [], x, _, h => by
    obtain rfl : [] = x := Option.some.inj h
    simp
  | 0, _ :: _, _, h, _ => by simp at h
  | n + 1, c :: t, x, hn, h => by
    by_cases hc : c = 92
    · subst hc
      cases t with
      | nil => rw [plain_end] at h; cases h
      | cons d u =>
        cases hu : unb d with
        | none => rw [plain_bad u hu] at h; cases h
        | some y =>
          rw [plain_esc u hu] at h
          cases hp : plain u with
          | none => rw [hp] at h; cases h
          | some z =>
            rw [hp] at h
            obtain rfl : y :: z = x := Option.some.inj h
            have := plain_len n u z (by simp at hn; omega) hp
            simp; omega
    · rw [plain_on t hc] at h
      cases hp : plain t with
      | none => rw [hp] at h; cases h
      | some z =>
        rw [hp] at h
        obtain rfl : c :: z = x := Option.some.inj h
        have := plain_len n t z (by simpa using hn) hp
        simpa using this
theorem plain_valB (c : UInt8) (t : List UInt8) : plain (valB c ++ t) = (plain t).map ((if c = 13 then [] else [c]) ++ ·) := by
  unfold valB
  by_cases h1 : c = 92 ∨ c = 44 ∨ c = 59
  · rw [if_pos h1]
    have h2 : c ≠ 13 := by rcases h1 with rfl | rfl | rfl <;> decide
    show plain (92 :: c :: t) = _
    rw [plain_esc t (by unfold unb; rw [if_pos h1]), if_neg h2]
    rfl
  rw [if_neg h1]
  by_cases h2 : c = 10
  · subst h2
    rw [if_pos rfl, if_neg (by decide)]
    show plain (92 :: 110 :: t) = _
    rw [plain_esc t (show unb 110 = some 10 by decide)]
    rfl
  rw [if_neg h2]
  by_cases h3 : c = 13
  · subst h3
    show plain t = (plain t).map ([] ++ ·)
    cases plain t <;> rfl
  · simp only [if_neg h3]
    show plain (c :: t) = _
    rw [plain_on t (fun e => h1 (.inl e))]
    rfl
/-- What a value comes back as: all but 13. -/
theorem plain_val : ∀ l : List UInt8, plain (val l) = some (l.filter (fun c => !(c == 13)))
  | [] => rfl
  | c :: t => by
    rw [val_cons, plain_valB, plain_val t]
    by_cases h : c = 13
    · subst h; rfl
    · have hb : (!(c == 13)) = true := by simpa using h
      rw [if_neg h, List.filter_cons, if_pos hb]
      rfl

/-! ### what stands between separators -/
def spl (sep : UInt8) : Bool → List UInt8 → List UInt8 → List (List UInt8)
  | _, cur, [] => [cur]
  | e, cur, c :: t => if c = sep ∧ e = false then cur :: spl sep (c == 92 && !e) [] t else spl sep (c == 92 && !e) (cur ++ [c]) t
theorem spl_nil (sep : UInt8) (e : Bool) (cur : List UInt8) : spl sep e cur [] = [cur] := rfl
theorem spl_cut {sep : UInt8} {e : Bool} (cur : List UInt8) {c : UInt8} (t : List UInt8) (h : c = sep ∧ e = false) : spl sep e cur (c :: t) = cur :: spl sep (c == 92 && !e) [] t := by
  conv => lhs; unfold spl
  rw [if_pos h]
theorem spl_on {sep : UInt8} {e : Bool} (cur : List UInt8) {c : UInt8} (t : List UInt8) (h : ¬ (c = sep ∧ e = false)) : spl sep e cur (c :: t) = spl sep (c == 92 && !e) (cur ++ [c]) t := by
  conv => lhs; unfold spl
  rw [if_neg h]
theorem spl_len (sep : UInt8) : ∀ (l : List UInt8) (e : Bool) (cur : List UInt8), 1 ≤ (spl sep e cur l).length ∧ (spl sep e cur l).length ≤ l.length + 1
  | [], _, _ => by simp [spl_nil]
  | c :: t, e, cur => by
    by_cases h : c = sep ∧ e = false
    · have := spl_len sep t (c == 92 && !e) []
      rw [spl_cut cur t h]
      simp; omega
    · have := spl_len sep t (c == 92 && !e) (cur ++ [c])
      rw [spl_on cur t h]
      simp; omega
/-- the marks of the package's own gathering -/
def cutsAt (sep : UInt8) : Bool → List UInt8 → List Bool
  | _, [] => []
  | e, c :: t => (c == sep && !e) :: cutsAt sep (c == 92 && !e) t
theorem cutsAt_len (sep : UInt8) : ∀ (l : List UInt8) (e : Bool), (cutsAt sep e l).length = l.length
  | [], _ => rfl
  | c :: t, e => by unfold cutsAt; simp [cutsAt_len sep t]
/-- all but the first one without their first byte -/
def tails : List (List UInt8) → List (List UInt8)
  | [] => []
  | h :: t => h :: t.map List.tail
theorem spl_gat_in (sep : UInt8) : ∀ (l : List UInt8) (e : Bool) (x : UInt8) (cur : List UInt8), (gat (x :: cur) l (cutsAt sep e l)).map List.tail = spl sep e cur l
  | [], e, x, cur => by rw [gat_nil]; rfl
  | c :: t, e, x, cur => by
    unfold cutsAt
    by_cases h : c = sep ∧ e = false
    · rw [spl_cut cur t h, show (c == sep && !e) = true by rw [h.1, h.2]; simp, gat_true, List.map_cons, spl_gat_in sep t _ c []]
      rfl
    · have hb : (c == sep && !e) = false := by
        rw [Bool.eq_false_iff]
        intro hb
        rw [Bool.and_eq_true, beq_iff_eq, Bool.not_eq_true'] at hb
        exact h hb
      rw [spl_on cur t h, hb, gat_false]
      exact spl_gat_in sep t _ x (cur ++ [c])
theorem spl_gat (sep : UInt8) : ∀ (l : List UInt8) (e : Bool) (cur : List UInt8), tails (gat cur l (cutsAt sep e l)) = spl sep e cur l
  | [], e, cur => by rw [gat_nil]; rfl
  | c :: t, e, cur => by
    unfold cutsAt
    by_cases h : c = sep ∧ e = false
    · rw [spl_cut cur t h, show (c == sep && !e) = true by rw [h.1, h.2]; simp, gat_true]
      show cur :: (gat [c] t _).map List.tail = _
      rw [spl_gat_in sep t _ c []]
    · have hb : (c == sep && !e) = false := by
        rw [Bool.eq_false_iff]
        intro hb
        rw [Bool.and_eq_true, beq_iff_eq, Bool.not_eq_true'] at hb
        exact h hb
      rw [spl_on cur t h, hb, gat_false]
      exact spl_gat sep t _ (cur ++ [c])
def split1 (sep : UInt8) (l : List UInt8) : List (List UInt8) := spl sep false [] l
/-- a value has no separator that is not escaped -/
theorem spl_valB {sep : UInt8} (hs : sep = 44 ∨ sep = 59) (c : UInt8) (cur t : List UInt8) : spl sep false cur (valB c ++ t) = spl sep false (cur ++ valB c) t := by
  have h92 : (92 : UInt8) ≠ sep := by rcases hs with rfl | rfl <;> decide
  unfold valB
  by_cases h1 : c = 92 ∨ c = 44 ∨ c = 59
  · rw [if_pos h1]
    show spl sep false cur (92 :: c :: t) = _
    rw [spl_on cur _ (fun h => h92 h.1)]
    show spl sep true (cur ++ [92]) (c :: t) = _
    rw [spl_on _ _ (fun h => by cases h.2)]
    simp
  rw [if_neg h1]
  by_cases h2 : c = 10
  · rw [if_pos h2]
    show spl sep false cur (92 :: 110 :: t) = _
    rw [spl_on cur _ (fun h => h92 h.1)]
    show spl sep true (cur ++ [92]) (110 :: t) = _
    rw [spl_on _ _ (fun h => by cases h.2)]
    simp
  rw [if_neg h2]
  by_cases h3 : c = 13
  · rw [if_pos h3]; simp
  · rw [if_neg h3]
    show spl sep false cur (c :: t) = _
    rw [spl_on cur _ (fun h => h1 (by rcases hs with rfl | rfl <;> simp [h.1]))]
    have : (c == 92 && !false) = false := by
      have : c ≠ 92 := fun e => h1 (.inl e)
      simp [this]
    rw [this]
theorem spl_val {sep : UInt8} (hs : sep = 44 ∨ sep = 59) : ∀ (l cur t : List UInt8), spl sep false cur (val l ++ t) = spl sep false (cur ++ val l) t
  | [], cur, t => by simp [val_nil]
  | c :: l, cur, t => by
    rw [val_cons, List.append_assoc, spl_valB hs, spl_val hs l]
    simp
/-- values, one behind the other, with separators between, are split so -/
def sepd (sep : UInt8) : List (List UInt8) → List UInt8
  | [] => []
  | [x] => x
  | x :: y :: r => x ++ sep :: sepd sep (y :: r)
theorem spl_sepd {sep : UInt8} (hs : sep = 44 ∨ sep = 59) : ∀ (xs : List (List UInt8)) (x cur : List UInt8), spl sep false cur (sepd sep ((x :: xs).map val)) = (cur ++ val x) :: xs.map val
  | [], x, cur => by
    have := spl_val hs x cur []
    rw [List.append_nil, spl_nil] at this
    exact this
  | y :: xs, x, cur => by
    show spl sep false cur (val x ++ sep :: sepd sep ((y :: xs).map val)) = _
    rw [spl_val hs, spl_cut _ _ ⟨rfl, rfl⟩]
    have e : (sep == 92 && !false) = false := by rcases hs with rfl | rfl <;> decide
    rw [e, spl_sepd hs xs y []]
    rfl
theorem sepd_snoc (sep : UInt8) : ∀ (xs : List (List UInt8)) (y : List UInt8), xs ≠ [] → sepd sep (xs ++ [y]) = sepd sep xs ++ sep :: y
  | [], _, h => absurd rfl h
  | [x], y, _ => by simp [sepd]
  | x :: z :: r, y, _ => by
    show x ++ sep :: sepd sep ((z :: r) ++ [y]) = (x ++ sep :: sepd sep (z :: r)) ++ sep :: y
    rw [sepd_snoc sep (z :: r) y (by simp)]
    simp
end Go.Proofs.YtphopnfnjnieaaaGreatDoor.Tx
/-
  PLAIN LISTS OF BYTES: what is folded is unfolded as it was; how many rows there are. Nothing of any program.
-/
namespace Go.Proofs.YtphopnfnjnieaaaGreatDoor.Tx
open Go.Lib

/-! ### a text's characters are texts -/
theorem piece_at {l : List UInt8} (hl : l ≠ []) (hv : valid l = true) : valid (l.take (dc l).2) = true ∧ valid (l.drop (dc l).2) = true := by
  by_cases hz : (nx l).2 = 0
  · rw [valid_none (ch_bad hl hz)] at hv; cases hv
  obtain ⟨e, h1, h2⟩ := nx_some hz
  have hle := dc_le hl
  have hge := dc_ge1 l
  have hne : l.take (dc l).2 ≠ [] := by
    intro h0
    have h3 := congrArg List.length h0
    rw [List.length_take, List.length_nil, Nat.min_eq_left hle] at h3
    omega
  obtain ⟨ht, _⟩ := rdc_take hl h1
  have hnx : nx (l.take (dc l).2) = nx l := by rw [rdc_next, ht, ← rdc_next]
  refine ⟨?_, ?_⟩
  · refine valid_some (x := [(nx l).1]) ?_
    rw [ch_good hne (by rw [hnx]; exact hz), hnx, e, List.drop_eq_nil_of_le (by rw [List.length_take]; omega), ch_nil]
    rfl
  · rw [← e]
    have hc := ch_good hl hz
    cases hx : ch (l.drop (nx l).2) with
    | some x => exact valid_some hx
    | none => rw [hx] at hc; rw [valid_none hc] at hv; cases hv
theorem chs_valid (l : List UInt8) : valid l = true → ∀ c ∈ chs l, valid c = true := by
  induction l using len_ind with
  | h l ih =>
    intro hv c hc
    by_cases hl : l = []
    · subst hl; cases hc
    · obtain ⟨h1, h2⟩ := piece_at hl hv
      rw [chs_step hl, List.mem_cons] at hc
      rcases hc with rfl | hc
      · exact h1
      · exact ih _ (drop_less hl) h2 c hc
theorem chs_clean {l : List UInt8} (h : clean l) : ∀ c ∈ chs l, clean c := fun c hc x hx => by
  refine h x ?_
  rw [← chs_flat l]
  exact List.mem_flatten.2 ⟨c, hc, hx⟩
/-! ### rows -/
theorem frows_good : ∀ (cs : List (List UInt8)) (room : Nat) (cur : List UInt8), (∀ c ∈ cs, clean c ∧ valid c = true ∧ c.length ≤ 4) → clean cur → valid cur = true → cur.length + room = 75 →
    ∀ r ∈ frows room cur cs, clean r ∧ valid r = true ∧ r.length ≤ 75
  | [], room, cur, _, h1, h2, h3, r, hr => by
    obtain rfl : r = cur := by simpa [frows] using hr
    exact ⟨h1, h2, by omega⟩
  | c :: t, room, cur, hc, h1, h2, h3, r, hr => by
    obtain ⟨c1, c2, c3⟩ := hc c (by simp)
    unfold frows at hr
    by_cases h : room < c.length
    · rw [if_pos h] at hr
      rcases List.mem_cons.1 hr with rfl | hr
      · exact ⟨h1, h2, by omega⟩
      · refine frows_good t _ _ (fun d hd => hc d (by simp [hd])) ?_ ?_ ?_ r hr
        · intro x hx
          rcases List.mem_cons.1 hx with rfl | hx
          · decide
          · exact c1 x hx
        · exact (valid_append (a := [32]) (by decide +kernel) c2).1
        · simp; omega
    · rw [if_neg h] at hr
      refine frows_good t _ _ (fun d hd => hc d (by simp [hd])) ?_ (valid_append h2 c2).1 (by rw [List.length_append]; omega) r hr
      intro x hx
      rcases List.mem_append.1 hx with hx | hx
      · exact h1 x hx
      · exact c1 x hx
theorem rowsOf_good {l : List UInt8} (hc : clean l) (hv : valid l = true) : ∀ r ∈ rowsOf l, clean r ∧ valid r = true ∧ r.length ≤ 75 :=
  frows_good (chs l) 75 [] (fun c h => ⟨chs_clean hc c h, chs_valid l hv c h, (chs_size l c h).2⟩) (fun c h => by cases h) (valid_some ch_nil) rfl
theorem frows_shape : ∀ (cs : List (List UInt8)) (room : Nat) (cur : List UInt8), ∃ r0 rs, frows room cur cs = (cur ++ r0) :: rs ∧ (∀ r ∈ rs, ∃ u, r = 32 :: u) ∧ r0 ++ rs.flatMap List.tail = cs.flatten
  | [], _, cur => ⟨[], [], by simp [frows], fun r h => (by cases h), rfl⟩
  | c :: t, room, cur => by
    unfold frows
    by_cases h : room < c.length
    · rw [if_pos h]
      obtain ⟨r0, rs, h1, h2, h3⟩ := frows_shape t (74 - c.length) (32 :: c)
      refine ⟨[], (32 :: c ++ r0) :: rs, by rw [h1]; simp, fun r hr => ?_, ?_⟩
      · rcases List.mem_cons.1 hr with rfl | hr
        · exact ⟨c ++ r0, rfl⟩
        · exact h2 r hr
      · rw [List.flatten_cons, ← h3]
        simp
    · rw [if_neg h]
      obtain ⟨r0, rs, h1, h2, h3⟩ := frows_shape t (room - c.length) (cur ++ c)
      refine ⟨c ++ r0, rs, by rw [h1]; simp, h2, ?_⟩
      rw [List.flatten_cons, ← h3]
      simp
theorem linesA_goes : ∀ (rs rest acc : List (List UInt8)) (x : List UInt8), (∀ r ∈ rs, ∃ u, r = 32 :: u) → linesA (acc ++ [x]) (rs ++ rest) = linesA (acc ++ [x ++ rs.flatMap List.tail]) rest
  | [], rest, acc, x, _ => by simp
  | r :: rs, rest, acc, x, h => by
    obtain ⟨u, rfl⟩ := h r (by simp)
    rw [List.cons_append, linesA_more _ rfl (by simp), addLast_snoc, linesA_goes rs rest acc _ (fun r hr => h r (by simp [hr]))]
    simp
theorem linesA_line (l : List UInt8) (rest acc : List (List UInt8)) (h : cont l = false) : linesA acc (rowsOf l ++ rest) = linesA (acc ++ [l]) rest := by
  obtain ⟨r0, rs, h1, h2, h3⟩ := frows_shape (chs l) 75 []
  rw [chs_flat] at h3
  unfold rowsOf
  rw [h1, List.nil_append, List.cons_append]
  have hc : cont r0 = false := by
    cases r0 with
    | nil => rfl
    | cons a t =>
      rw [← h3] at h
      exact h
  rw [linesA_new acc _ hc, linesA_goes rs rest acc r0 h2, h3]
theorem linesA_all : ∀ (m acc : List (List UInt8)), (∀ l ∈ m, cont l = false) → linesA acc (m.flatMap rowsOf) = some (acc ++ m)
  | [], acc, _ => by simp [linesA_nil]
  | l :: m, acc, h => by
    rw [List.flatMap_cons, linesA_line l _ acc (h l (by simp)), linesA_all m _ (fun x hx => h x (by simp [hx]))]
    simp
theorem ends_valid : ∀ rs : List (List UInt8), (∀ r ∈ rs, valid r = true) → valid (ends rs) = true
  | [], _ => valid_some ch_nil
  | r :: t, h => by
    rw [ends_cons]
    exact (valid_append (h r (by simp)) (valid_append (a := [13, 10]) (by decide +kernel) (ends_valid t (fun x hx => h x (by simp [hx])))).1).1
/-- lines that may be folded, and come back -/
def Fine (l : List UInt8) : Prop := clean l ∧ valid l = true ∧ cont l = false
theorem rows_fine {m : List (List UInt8)} (h : ∀ l ∈ m, Fine l) : ∀ r ∈ m.flatMap rowsOf, clean r ∧ valid r = true ∧ r.length ≤ 75 := fun r hr => by
  obtain ⟨l, hl, hr⟩ := List.mem_flatMap.1 hr
  obtain ⟨h1, h2, _⟩ := h l hl
  exact rowsOf_good h1 h2 r hr
theorem fold_unfold {m : List (List UInt8)} (h : ∀ l ∈ m, Fine l) : Tx.unfold (foldL m) = some m ∧ valid (foldL m) = true := by
  have hr := rows_fine h
  rw [foldL_ends]
  refine ⟨?_, ends_valid _ (fun r hx => (hr r hx).2.1)⟩
  unfold Tx.unfold
  rw [rowsA_ends _ (fun r hx => (hr r hx).1)]
  show linesA [] _ = _
  rw [linesA_all m [] (fun l hl => (h l hl).2.2)]
  rfl

/-! ### how many rows a line of signs of one byte has -/
def nr : Nat → Nat → Nat
  | _, 0 => 1
  | room, k + 1 => if room < 1 then 1 + nr 73 k else nr (room - 1) k
theorem nr_eq : ∀ (k room : Nat), nr room k = if k ≤ room then 1 else 1 + (k - room + 73) / 74
  | 0, room => by simp [nr]
  | k + 1, room => by
    unfold nr
    by_cases h : room < 1
    · rw [if_pos h, nr_eq k 73]
      obtain rfl : room = 0 := by omega
      rw [if_neg (by omega : ¬ k + 1 ≤ 0)]
      by_cases h2 : k ≤ 73
      · rw [if_pos h2]; omega
      · rw [if_neg h2]; omega
    · rw [if_neg h, nr_eq k (room - 1)]
      by_cases h2 : k + 1 ≤ room
      · rw [if_pos h2, if_pos (by omega)]
      · rw [if_neg h2, if_neg (by omega)]
        omega
theorem fr_signs (c : UInt8) (hc : c ≠ 10) : ∀ (k room : Nat), (fr room (List.replicate k [c])).length + 1 = k + 3 * nr room k ∧ (fr room (List.replicate k [c])).count 10 = nr room k
  | 0, room => ⟨rfl, rfl⟩
  | k + 1, room => by
    rw [List.replicate_succ]
    unfold nr
    by_cases h : room < 1
    · rw [if_pos h, fr_cut _ (show room < [c].length from h)]
      obtain ⟨h1, h2⟩ := fr_signs c hc k 73
      have e : 74 - [c].length = 73 := rfl
      rw [e]
      refine ⟨by simp only [List.length_append, List.length_cons, List.length_nil]; omega, ?_⟩
      rw [List.count_append, List.count_append, h2]
      have : List.count 10 [c] = 0 := by simp [hc]
      rw [this]
      rfl
    · rw [if_neg h, fr_on _ (show ¬ room < [c].length from h)]
      obtain ⟨h1, h2⟩ := fr_signs c hc k (room - 1)
      have e : room - [c].length = room - 1 := rfl
      rw [e]
      refine ⟨by simp only [List.length_append, List.length_cons, List.length_nil]; omega, ?_⟩
      rw [List.count_append, h2]
      have : List.count 10 [c] = 0 := by simp [hc]
      rw [this]
      omega
theorem chs_signs (c : UInt8) (hc : c.toNat < 128) : ∀ k : Nat, chs (List.replicate k c) = List.replicate k [c]
  | 0 => rfl
  | k + 1 => by
    have hd : dc (List.replicate (k + 1) c) = (c.toNat, 1) := by
      have hb : bt (List.replicate (k + 1) c) 0 = c.toNat := by rw [bt_def, List.replicate_succ]; rfl
      have := rdc_A (l := List.replicate (k + 1) c) (by rw [hb]; exact hc)
      rw [hb] at this
      unfold rdc at this
      split at this
      · have h2 := congrArg Prod.snd this
        simp at h2
      · exact this
    rw [chs_step (by rw [List.replicate_succ]; simp), hd, List.replicate_succ]
    show [c] :: chs (List.replicate k c) = _
    rw [chs_signs c hc k, List.replicate_succ]
end Go.Proofs.YtphopnfnjnieaaaGreatDoor.Tx
