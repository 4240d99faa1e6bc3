/- Texts laid together: Tok TokL TokE -/
import Derived.Test.YtbkfmbkamocllaaDoorTxt
/-
  TOKENS over plain lists of bytes: blanks, names, values, attributes, what a token is, and what a text is made of; as the document's words have them. Nothing of any program.
-/
namespace Go.Proofs.YtbkfmbkamocllaaDoor.Tk
open Go.Lib Tx

def bl (c : UInt8) : Bool := c == 9 || c == 10 || c == 13 || c == 32
def lett (c : UInt8) : Bool := (decide (65 ≤ c.toNat) && decide (c.toNat ≤ 90)) || (decide (97 ≤ c.toNat) && decide (c.toNat ≤ 122))
def beg (c : UInt8) : Bool := lett c || c == 95
def wi (c : UInt8) : Bool := beg c || (decide (48 ≤ c.toNat) && decide (c.toNat ≤ 57)) || c == 45 || c == 46
/-- An attribute: its name, its value. A token: its kind, name, text, attributes; is it empty? -/
abbrev Att := List UInt8 × List UInt8
abbrev Tok := Nat × List UInt8 × List UInt8 × List Att × Bool

/-- A name, and what is behind it; none: no name. -/
def nameL : List UInt8 → List UInt8 × List UInt8
  | [] => ([], [])
  | c :: t => if beg c then ((c :: t).takeWhile wi, (c :: t).dropWhile wi) else ([], c :: t)
/-- What escape.Back tells of it. -/
def backO (l : List UInt8) : Option (List UInt8) := if valid l then back l else none
/-- A value in its quotes. -/
def valL : List UInt8 → Option (List UInt8 × List UInt8)
  | [] => none
  | q :: t => if q = 34 ∨ q = 39 then
      match t.dropWhile (· != q) with
      | [] => none
      | _ :: r => (backO (t.takeWhile (· != q))).map fun x => (x, r)
    else none
/-- An attribute behind its blanks. -/
def attrB (l : List UInt8) : Option (Att × List UInt8) :=
  if (nameL l).1 = [] then none else
  match (nameL l).2.dropWhile bl with
  | 61 :: r => (valL (r.dropWhile bl)).map fun v => (((nameL l).1, v.1), v.2)
  | _ => none
def attrL (l : List UInt8) : Option (Att × List UInt8) := if l.takeWhile bl = [] then none else attrB (l.dropWhile bl)
/-- One of a name of its own. -/
def own (as : List Att) : Option (Att × List UInt8) → Option (Att × List UInt8)
  | none => none
  | some p => if as.any (fun b => b.1 == p.1.1) then none else some p
def nextA (as : List Att) (l : List UInt8) : Option (Att × List UInt8) := own as (attrL l)
/-- As many as there are. -/
def manyF {α : Type} (next : List α → List UInt8 → Option (α × List UInt8)) : Nat → List α → List UInt8 → List α × List UInt8
  | 0, xs, l => (xs, l)
  | f + 1, xs, l => match next xs l with
    | some p => manyF next f (xs ++ [p.1]) p.2
    | none => (xs, l)
def many {α : Type} (next : List α → List UInt8 → Option (α × List UInt8)) (xs : List α) (l : List UInt8) : List α × List UInt8 := manyF next (l.length + 1) xs l
def Shrinks {α : Type} (next : List α → List UInt8 → Option (α × List UInt8)) : Prop := ∀ xs l x r, next xs l = some (x, r) → r.length < l.length
theorem manyF_enough {α : Type} {next : List α → List UInt8 → Option (α × List UInt8)} (hs : Shrinks next) : ∀ (f g : Nat) (xs : List α) (l : List UInt8), l.length < f → l.length < g → manyF next f xs l = manyF next g xs l
  | 0, _, _, _, h, _ => by omega
  | _ + 1, 0, _, _, _, h => by omega
  | f + 1, g + 1, xs, l, hf, hg => by
    unfold manyF
    cases e : next xs l with
    | none => rfl
    | some p =>
      have h1 : p.2.length < l.length := hs xs l p.1 p.2 e
      exact manyF_enough hs f g _ _ (by omega) (by omega)
theorem many_stop {α : Type} {next : List α → List UInt8 → Option (α × List UInt8)} {xs : List α} {l : List UInt8} (h : next xs l = none) : many next xs l = (xs, l) := by
  unfold many manyF
  rw [h]
theorem many_step {α : Type} {next : List α → List UInt8 → Option (α × List UInt8)} (hs : Shrinks next) {xs : List α} {l : List UInt8} {x : α} {r : List UInt8} (h : next xs l = some (x, r)) : many next xs l = many next (xs ++ [x]) r := by
  have h1 : r.length < l.length := hs xs l x r h
  conv => lhs; unfold many manyF
  rw [h]
  exact manyF_enough hs _ _ _ _ (by show r.length < _; omega) (by show r.length < _; omega)
theorem manyF_front {α : Type} {next : List α → List UInt8 → Option (α × List UInt8)} : ∀ (f : Nat) (xs : List α) (l : List UInt8), ∃ ys, (manyF next f xs l).1 = xs ++ ys
  | 0, xs, l => ⟨[], by simp [manyF]⟩
  | f + 1, xs, l => by
    unfold manyF
    cases e : next xs l with
    | none => exact ⟨[], by simp⟩
    | some p =>
      obtain ⟨ys, h⟩ := manyF_front (next := next) f (xs ++ [p.1]) p.2
      exact ⟨p.1 :: ys, by simp [h]⟩
theorem many_front {α : Type} {next : List α → List UInt8 → Option (α × List UInt8)} (xs : List α) (l : List UInt8) : ∃ ys, (many next xs l).1 = xs ++ ys := manyF_front _ _ _

def ends (n : List UInt8) (p : List Att × List UInt8) : Option (Tok × List UInt8) :=
  match p.2.dropWhile bl with
  | 47 :: 62 :: r => some ((1, n, [], p.1, true), r)
  | 62 :: r => some ((1, n, [], p.1, false), r)
  | _ => none
/-- An Open behind "<", a Close behind "</", a Text; a token. -/
def openL (l : List UInt8) : Option (Tok × List UInt8) := if (nameL l).1 = [] then none else ends (nameL l).1 (many nextA [] (nameL l).2)
def closeL (l : List UInt8) : Option (Tok × List UInt8) :=
  if (nameL l).1 = [] then none else
  match (nameL l).2.dropWhile bl with
  | 62 :: r => some ((2, (nameL l).1, [], [], false), r)
  | _ => none
def textL (l : List UInt8) : Option (Tok × List UInt8) := if l.takeWhile (· != 60) = [] then none else (backO (l.takeWhile (· != 60))).map fun x => ((3, [], x, [], false), l.dropWhile (· != 60))
def tokL : List UInt8 → Option (Tok × List UInt8)
  | 60 :: 47 :: r => closeL r
  | 60 :: r => openL r
  | l => textL l
def nextT (n : Nat) (_ : List (Nat × Tok)) (l : List UInt8) : Option ((Nat × Tok) × List UInt8) := (tokL l).map fun p => ((n - l.length, p.1), p.2)
def headL : List UInt8 := [60, 63, 120, 109, 108, 32, 118, 101, 114, 115, 105, 111, 110, 61, 39, 49, 46, 48, 39, 32, 101, 110, 99, 111, 100, 105, 110, 103, 61, 39, 85, 84, 70, 45, 56, 39, 63, 62]
def over (m l : List UInt8) : List UInt8 := if m.isPrefixOf l then l.drop m.length else l
def great (t : Nat × Tok) : Bool := decide (10 < t.2.2.2.2.1.length)
def toksL (l : List UInt8) : List (Nat × Tok) × List UInt8 := many (nextT l.length) [] (over headL l)
/-- What is told of all that was found, and of where it ended. -/
def told (n : Nat) (p : List (Nat × Tok) × List UInt8) : List (Nat × Tok) × Nat × Nat :=
  match p.1.find? great with
  | some t => ([], t.1, 4)
  | none => if p.2 = [] then (p.1, 0, 0) else ([], n - p.2.length, 5)
def tokensL (l : List UInt8) : List (Nat × Tok) × Nat × Nat := if 20000 < l.length then ([], 0, 4) else if valid l then told l.length (toksL l) else ([], 0, 3)

/-! ### what is left of a text -/
theorem take_drop_while (p : UInt8 → Bool) (l : List UInt8) : l.takeWhile p ++ l.dropWhile p = l := List.takeWhile_append_dropWhile
theorem name_cat (l : List UInt8) : (nameL l).1 ++ (nameL l).2 = l := by
  unfold nameL
  cases l with
  | nil => rfl
  | cons c t =>
    simp only
    split
    · exact take_drop_while wi (c :: t)
    · rfl
theorem len_cat {a b l : List UInt8} (h : a ++ b = l) : a.length + b.length = l.length := by rw [← h, List.length_append]
theorem name_len (l : List UInt8) : (nameL l).1.length + (nameL l).2.length = l.length := len_cat (name_cat l)
theorem while_len (p : UInt8 → Bool) (l : List UInt8) : (l.takeWhile p).length + (l.dropWhile p).length = l.length := len_cat (take_drop_while p l)
theorem ne_len {l : List UInt8} (h : l ≠ []) : 1 ≤ l.length := by cases l with | nil => exact absurd rfl h | cons => simp
theorem mem_while {p : UInt8 → Bool} {c : UInt8} : ∀ {l : List UInt8}, c ∈ l.takeWhile p → p c = true
  | [], h => by cases h
  | a :: l, h => by
    rw [List.takeWhile_cons] at h
    split at h
    · rename_i ha
      rcases List.mem_cons.1 h with rfl | h
      · exact ha
      · exact mem_while h
    · cases h
theorem val_cons (q : UInt8) (t : List UInt8) : valL (q :: t) = if q = 34 ∨ q = 39 then
      match t.dropWhile (fun x => x != q) with
      | [] => none
      | _ :: r => (backO (t.takeWhile (fun x => x != q))).map fun x => (x, r)
    else none := rfl
/-- a piece of a text, and what is behind it -/
theorem val_cat {l x r : List UInt8} (h : valL l = some (x, r)) : ∃ q t, (q = 34 ∨ q = 39) ∧ l = q :: t ++ q :: r ∧ q ∉ t ∧ backO t = some x := by
  cases l with
  | nil => cases h
  | cons q t =>
    rw [val_cons] at h
    split at h
    · rename_i hq
      cases e : t.dropWhile (fun x => x != q) with
      | nil => rw [e] at h; cases h
      | cons c r' =>
        rw [e] at h
        simp only at h
        have hc : c = q := by
          have := List.head?_dropWhile_not (fun x => x != q) t
          rw [e] at this
          simpa using this
        cases hb : backO (t.takeWhile fun x => x != q) with
        | none => rw [hb] at h; cases h
        | some y =>
          rw [hb] at h
          cases h
          refine ⟨q, t.takeWhile fun x => x != q, hq, ?_, ?_, hb⟩
          · have := take_drop_while (fun x => x != q) t
            rw [e, hc] at this
            rw [List.cons_append, this]
          · intro hm
            have := mem_while hm
            simp at this
    · cases h
theorem attrB_cat {l r : List UInt8} {a : Att} (h : attrB l = some (a, r)) : (nameL l).1 ≠ [] ∧ ∃ r1, (nameL l).2.dropWhile bl = 61 :: r1 ∧ valL (r1.dropWhile bl) = some (a.2, r) ∧ a.1 = (nameL l).1 := by
  unfold attrB at h
  split at h
  · cases h
  · rename_i hn
    split at h
    · rename_i r1 e
      cases hv : valL (r1.dropWhile bl) with
      | none => rw [hv] at h; cases h
      | some v =>
        rw [hv] at h
        cases h
        exact ⟨hn, r1, e, hv, rfl⟩
    · cases h
theorem val_len {l x r : List UInt8} (h : valL l = some (x, r)) : r.length + 2 ≤ l.length := by
  obtain ⟨q, t, _, e, _⟩ := val_cat h
  rw [e]
  simp only [List.length_cons, List.length_append]
  omega
theorem attrB_len {l r : List UInt8} {a : Att} (h : attrB l = some (a, r)) : r.length < l.length := by
  obtain ⟨_, r1, e1, e2, _⟩ := attrB_cat h
  have h1 := val_len e2
  have h2 := while_len bl r1
  have h3 := while_len bl (nameL l).2
  rw [e1, List.length_cons] at h3
  have h4 := name_len l
  omega
theorem attrL_some {l r : List UInt8} {a : Att} (h : attrL l = some (a, r)) : l.takeWhile bl ≠ [] ∧ attrB (l.dropWhile bl) = some (a, r) := by
  unfold attrL at h
  split at h
  · cases h
  · rename_i hn; exact ⟨hn, h⟩
theorem own_some {as : List Att} {o : Option (Att × List UInt8)} {p : Att × List UInt8} (h : own as o = some p) : o = some p ∧ as.any (fun b => b.1 == p.1.1) = false := by
  cases o with
  | none => cases h
  | some q =>
    unfold own at h
    simp only at h
    split at h
    · cases h
    · rename_i hn
      cases h
      exact ⟨rfl, Bool.eq_false_iff.2 hn⟩
theorem shrinksA : Shrinks nextA := fun as l a r h => by
  obtain ⟨h1, _⟩ := own_some h
  obtain ⟨_, h2⟩ := attrL_some h1
  have := attrB_len h2
  have := while_len bl l
  omega
theorem ends_some {n : List UInt8} {p : List Att × List UInt8} {t : Tok} {r : List UInt8} (h : ends n p = some (t, r)) : (p.2.dropWhile bl = 47 :: 62 :: r ∧ t = (1, n, [], p.1, true)) ∨ (p.2.dropWhile bl = 62 :: r ∧ t = (1, n, [], p.1, false)) := by
  unfold ends at h
  split at h
  · rename_i r' e
    cases h
    exact .inl ⟨e, rfl⟩
  · rename_i r' e
    cases h
    exact .inr ⟨e, rfl⟩
  · cases h
/-- the attributes of an element, one behind the other -/
theorem manyF_len : ∀ (f : Nat) (xs : List Att) (l : List UInt8), (manyF nextA f xs l).2.length ≤ l.length
  | 0, xs, l => Nat.le_refl _
  | f + 1, xs, l => by
    unfold manyF
    cases e : nextA xs l with
    | none => exact Nat.le_refl _
    | some p =>
      have h1 := shrinksA xs l p.1 p.2 e
      have h2 := manyF_len f (xs ++ [p.1]) p.2
      simp only
      omega
theorem many_len (xs : List Att) (l : List UInt8) : (many nextA xs l).2.length ≤ l.length := manyF_len _ _ _
theorem open_len {l r : List UInt8} {t : Tok} (h : openL l = some (t, r)) : r.length < l.length := by
  unfold openL at h
  split at h
  · cases h
  · rename_i hn
    have h1 := many_len [] (nameL l).2
    have h2 := name_len l
    have h3 := while_len bl (many nextA [] (nameL l).2).2
    rcases ends_some h with ⟨e, _⟩ | ⟨e, _⟩ <;> (rw [e] at h3; simp only [List.length_cons] at h3; omega)
theorem close_len {l r : List UInt8} {t : Tok} (h : closeL l = some (t, r)) : r.length < l.length := by
  unfold closeL at h
  split at h
  · cases h
  · split at h
    · rename_i r1 e
      cases h
      have h2 := name_len l
      have h3 := while_len bl (nameL l).2
      rw [e, List.length_cons] at h3
      omega
    · cases h
theorem text_some {l r : List UInt8} {t : Tok} (h : textL l = some (t, r)) : l.takeWhile (· != 60) ≠ [] ∧ r = l.dropWhile (· != 60) ∧ ∃ x, backO (l.takeWhile (· != 60)) = some x ∧ t = (3, [], x, [], false) := by
  unfold textL at h
  split at h
  · cases h
  · rename_i hn
    cases hb : backO (l.takeWhile (· != 60)) with
    | none => rw [hb] at h; cases h
    | some x =>
      rw [hb] at h
      cases h
      exact ⟨hn, rfl, x, rfl, rfl⟩
theorem tok_close (r : List UInt8) : tokL (60 :: 47 :: r) = closeL r := rfl
theorem tok_open {r : List UInt8} (h : ∀ x, r ≠ 47 :: x) : tokL (60 :: r) = openL r := by
  unfold tokL
  split
  · rename_i e
    injection e with _ e
    exact absurd e (h _)
  · rename_i e
    injection e with _ e
    rw [e]
  · rename_i h1 h2
    exact absurd rfl (h2 r)
theorem tok_text {l : List UInt8} (h : ∀ x, l ≠ 60 :: x) : tokL l = textL l := by
  unfold tokL
  split
  · rename_i x; exact absurd rfl (h (47 :: x))
  · rename_i x _; exact absurd rfl (h x)
  · rfl
/-- what a text begins with -/
theorem cases_tok (l : List UInt8) : (∃ r, l = 60 :: 47 :: r) ∨ (∃ r, l = 60 :: r ∧ ∀ x, r ≠ 47 :: x) ∨ ∀ x, l ≠ 60 :: x := by
  by_cases h : ∃ x, l = 60 :: x
  · obtain ⟨r, rfl⟩ := h
    by_cases h2 : ∃ x, r = 47 :: x
    · obtain ⟨x, rfl⟩ := h2
      exact .inl ⟨x, rfl⟩
    · exact .inr (.inl ⟨r, rfl, fun x e => h2 ⟨x, e⟩⟩)
  · exact .inr (.inr fun x e => h ⟨x, e⟩)
theorem tok_len {l r : List UInt8} {t : Tok} (h : tokL l = some (t, r)) : r.length < l.length := by
  rcases cases_tok l with ⟨x, rfl⟩ | ⟨x, rfl, hx⟩ | hx
  · rw [tok_close] at h
    have := close_len h
    simp; omega
  · rw [tok_open hx] at h
    have := open_len h
    simp; omega
  · rw [tok_text hx] at h
    obtain ⟨h1, rfl, _⟩ := text_some h
    have h2 := while_len (· != 60) l
    have h3 := ne_len h1
    omega
theorem shrinksT (n : Nat) : Shrinks (nextT n) := fun xs l x r h => by
  unfold nextT at h
  cases e : tokL l with
  | none => rw [e] at h; cases h
  | some p =>
    rw [e] at h
    cases h
    exact tok_len e
theorem nextT_none {n : Nat} {xs : List (Nat × Tok)} {l : List UInt8} (h : tokL l = none) : nextT n xs l = none := by unfold nextT; rw [h]; rfl
theorem nextT_some {n : Nat} {xs : List (Nat × Tok)} {l r : List UInt8} {t : Tok} (h : tokL l = some (t, r)) : nextT n xs l = some ((n - l.length, t), r) := by unfold nextT; rw [h]; rfl
/-! ### what is told of it -/
theorem told_big {n : Nat} {xs : List (Nat × Tok)} {l r : List UInt8} {t : Tok} (hx : xs.find? great = none) (h : tokL l = some (t, r)) (hg : 10 < t.2.2.2.1.length) : told n (many (nextT n) xs l) = ([], n - l.length, 4) := by
  rw [many_step (shrinksT n) (nextT_some h)]
  obtain ⟨ys, e⟩ := many_front (next := nextT n) (xs ++ [(n - l.length, t)]) r
  unfold told
  rw [e, List.append_assoc, List.find?_append, hx]
  have : great (n - l.length, t) = true := by unfold great; simpa using hg
  simp [this]
theorem told_bad {n : Nat} {xs : List (Nat × Tok)} {l : List UInt8} (hx : xs.find? great = none) (h : tokL l = none) (hl : l ≠ []) : told n (many (nextT n) xs l) = ([], n - l.length, 5) := by
  rw [many_stop (nextT_none h)]
  unfold told
  simp only
  rw [hx]
  simp [hl]
theorem tok_nil : tokL [] = none := rfl
theorem told_end {n : Nat} {xs : List (Nat × Tok)} (hx : xs.find? great = none) : told n (many (nextT n) xs []) = (xs, 0, 0) := by
  rw [many_stop (nextT_none tok_nil)]
  unfold told
  simp only
  rw [hx]
  rfl
theorem told_step {n : Nat} {xs : List (Nat × Tok)} {l r : List UInt8} {t : Tok} (h : tokL l = some (t, r)) : told n (many (nextT n) xs l) = told n (many (nextT n) (xs ++ [(n - l.length, t)]) r) := by
  rw [many_step (shrinksT n) (nextT_some h)]
theorem find_snoc {xs : List (Nat × Tok)} {k : Nat} {t : Tok} (hx : xs.find? great = none) (hg : ¬ 10 < t.2.2.2.1.length) : (xs ++ [(k, t)]).find? great = none := by
  rw [List.find?_append, hx]
  have : great (k, t) = false := by unfold great; simpa using hg
  simp [this]
/-! ### the document's own way through an Open -/
theorem beg_no (r : List UInt8) : nameL (47 :: r) = ([], 47 :: r) ∧ nameL (62 :: r) = ([], 62 :: r) := ⟨rfl, rfl⟩
theorem nextA_none {as : List Att} {l : List UInt8} (h : attrL l = none) : nextA as l = none := by unfold nextA; rw [h]; rfl
theorem attrL_no {l : List UInt8} (h : (nameL (l.dropWhile bl)).1 = []) : attrL l = none := by
  unfold attrL attrB
  rw [if_pos h]
  split <;> rfl
theorem ends_empty (n : List UInt8) (as : List Att) {l r : List UInt8} (h : l.dropWhile bl = 47 :: 62 :: r) : ends n (many nextA as l) = some ((1, n, [], as, true), r) := by
  rw [many_stop (nextA_none (attrL_no (by rw [h]; rfl)))]
  unfold ends
  simp only
  rw [h]
  rfl
theorem ends_not (n : List UInt8) (as : List Att) {l r : List UInt8} (h : l.dropWhile bl = 62 :: r) : ends n (many nextA as l) = some ((1, n, [], as, false), r) := by
  rw [many_stop (nextA_none (attrL_no (by rw [h]; rfl)))]
  unfold ends
  simp only
  rw [h]
  rfl
theorem ends_bad (n : List UInt8) (as : List Att) {l : List UInt8} (h : nextA as l = none) (h1 : ∀ r, l.dropWhile bl ≠ 47 :: 62 :: r) (h2 : ∀ r, l.dropWhile bl ≠ 62 :: r) : ends n (many nextA as l) = none := by
  rw [many_stop h]
  unfold ends
  split
  · rename_i e; exact absurd e (h1 _)
  · rename_i e; exact absurd e (h2 _)
  · rfl
theorem ends_step (n : List UInt8) {as : List Att} {l r : List UInt8} {a : Att} (h : nextA as l = some (a, r)) : ends n (many nextA as l) = ends n (many nextA (as ++ [a]) r) := by rw [many_step shrinksA h]
theorem nextA_gap {as : List Att} {l : List UInt8} (h : l.takeWhile bl ≠ []) : nextA as l = own as (attrB (l.dropWhile bl)) := by unfold nextA attrL; rw [if_neg h]
theorem nextA_nogap {as : List Att} {l : List UInt8} (h : l.takeWhile bl = []) : nextA as l = none := by unfold nextA attrL; rw [if_pos h]; rfl
end Go.Proofs.YtbkfmbkamocllaaDoor.Tk
/-
  TOKENS over plain lists: what a token is made of, that it hangs on nothing behind it; where tokens begin; two texts, one behind the other; what is escaped comes back.
-/
namespace Go.Proofs.YtbkfmbkamocllaaDoor.Tk
open Go.Lib Tx

theorem valid_cut : ∀ (n : Nat) (a c : List UInt8) (b : UInt8), a.length ≤ n → b.toNat < 128 → valid (a ++ b :: c) = true → valid a = true ∧ valid (b :: c) = true
  | _, [], c, b, _, _, h => ⟨valid_some ch_nil, h⟩
  | 0, _ :: _, _, _, h, _, _ => by simp at h
  | n + 1, x :: a, c, b, hn, hb, h => by
    obtain ⟨p, r, e, hlt, vp, vr, hp⟩ := piece (l := (x :: a) ++ b :: c) (by simp) h
    have hpne : 1 ≤ p.length := by
      rw [e, List.length_append] at hlt
      omega
    have hple : p.length ≤ (x :: a).length := by
      rcases hp with ⟨b', rfl, _⟩ | hp
      · simp
      · rcases Nat.lt_or_ge (x :: a).length p.length with hl | hl
        · exfalso
          have h1 : ((x :: a) ++ b :: c)[(x :: a).length]? = some b := by simp
          rw [e, List.getElem?_append_left hl] at h1
          have := hp b (List.mem_of_getElem? h1)
          omega
        · exact hl
    obtain ⟨a2, ha2⟩ : ∃ a2, x :: a = p ++ a2 := by
      refine ⟨(x :: a).drop p.length, ?_⟩
      have h1 := congrArg (List.take p.length) e
      rw [List.take_append_of_le_length hple, List.take_left'  rfl] at h1
      conv => lhs; rw [← List.take_append_drop p.length (x :: a)]
      rw [h1]
    rw [ha2, List.append_assoc] at e
    have hr := (List.append_cancel_left e).symm
    rw [hr] at vr
    have hl2 : a2.length ≤ n := by
      have := congrArg List.length ha2
      rw [List.length_append] at this
      simp at this hn
      omega
    obtain ⟨h1, h2⟩ := valid_cut n a2 c b hl2 hb vr
    rw [ha2]
    exact ⟨(valid_append vp h1).1, h2⟩
theorem valid_tail {b : UInt8} {c : List UInt8} (hb : b.toNat < 128) (h : valid (b :: c) = true) : valid c = true := by
  obtain ⟨p, r, e, hlt, vp, vr, hp⟩ := piece (l := b :: c) (by simp) h
  rcases hp with ⟨b', rfl, _⟩ | hp
  · injection e with e1 e2
    rw [e2]
    exact vr
  · cases p with
    | nil => rw [List.nil_append] at e; rw [e] at hlt; omega
    | cons x p =>
      injection e with e1 e2
      have := hp x (by simp)
      rw [← e1] at this
      omega

/-! ### runs -/
def Stops (p : UInt8 → Bool) (v : List UInt8) : Prop := v = [] ∨ ∃ c t, v = c :: t ∧ p c = false
theorem Stops.cons {p : UInt8 → Bool} {c : UInt8} (t : List UInt8) (h : p c = false) : Stops p (c :: t) := .inr ⟨c, t, rfl, h⟩
theorem stops_drop (p : UInt8 → Bool) : ∀ l : List UInt8, Stops p (l.dropWhile p)
  | [] => .inl rfl
  | c :: t => by
    rw [List.dropWhile_cons]
    split
    · exact stops_drop p t
    · rename_i h
      exact .cons t (Bool.eq_false_iff.2 h)
theorem tw_app {p : UInt8 → Bool} : ∀ {u v : List UInt8}, (∀ x ∈ u, p x = true) → Stops p v → (u ++ v).takeWhile p = u ∧ (u ++ v).dropWhile p = v
  | [], v, _, hv => by
    rw [List.nil_append]
    rcases hv with rfl | ⟨c, t, rfl, h⟩
    · exact ⟨rfl, rfl⟩
    · rw [List.takeWhile_cons, List.dropWhile_cons, h]
      exact ⟨rfl, rfl⟩
  | c :: u, v, hu, hv => by
    have h1 := hu c (by simp)
    have h2 := tw_app (p := p) (u := u) (v := v) (fun x hx => hu x (by simp [hx])) hv
    rw [List.cons_append, List.takeWhile_cons, List.dropWhile_cons, h1]
    exact ⟨by simp [h2.1], by simp [h2.2]⟩
theorem all_while (p : UInt8 → Bool) (l : List UInt8) : ∀ x ∈ l.takeWhile p, p x = true := fun _ h => mem_while h
theorem bl_facts {c : UInt8} (h : bl c = true) : wi c = false ∧ beg c = false ∧ c ≠ 60 := by
  have : c = 9 ∨ c = 10 ∨ c = 13 ∨ c = 32 := by
    unfold bl at h
    simp only [Bool.or_eq_true, beq_iff_eq] at h
    rcases h with ((h | h) | h) | h
    · exact .inl h
    · exact .inr (.inl h)
    · exact .inr (.inr (.inl h))
    · exact .inr (.inr (.inr h))
  rcases this with rfl | rfl | rfl | rfl <;> decide
theorem beg_facts {c : UInt8} (h : beg c = true) : bl c = false ∧ wi c = true := by
  refine ⟨?_, by unfold wi; rw [h]; rfl⟩
  cases hb : bl c with
  | false => rfl
  | true => rw [(bl_facts hb).2.1] at h; cases h
theorem wi_60 {c : UInt8} (h : wi c = true) : c ≠ 60 := fun e => by subst e; exact absurd h (by decide)
/-- a name: its first byte, all of it -/
theorem name_some {l n m : List UInt8} (h : nameL l = (n, m)) (hn : n ≠ []) : (∃ c t, n = c :: t ∧ beg c = true) ∧ (∀ x ∈ n, wi x = true) ∧ Stops wi m ∧ l = n ++ m := by
  cases l with
  | nil => cases h; exact absurd rfl hn
  | cons c t =>
    unfold nameL at h
    simp only at h
    split at h
    · rename_i hb
      cases h
      refine ⟨⟨c, t.takeWhile wi, ?_, hb⟩, all_while _ _, stops_drop _ _, (take_drop_while _ _).symm⟩
      rw [List.takeWhile_cons, (beg_facts hb).2]
      rfl
    · cases h; exact absurd rfl hn
theorem name_mk {n m : List UInt8} (h1 : ∃ c t, n = c :: t ∧ beg c = true) (h2 : ∀ x ∈ n, wi x = true) (h3 : Stops wi m) : nameL (n ++ m) = (n, m) := by
  obtain ⟨c, t, rfl, hb⟩ := h1
  have := tw_app h2 h3
  rw [List.cons_append] at this ⊢
  unfold nameL
  simp only
  rw [if_pos hb, this.1, this.2]
theorem stops_gap {b m : List UInt8} (hb : ∀ x ∈ b, bl x = true) (hm : Stops wi m) : Stops wi (b ++ m) := by
  cases b with
  | nil => exact hm
  | cons c b => exact .cons _ (bl_facts (hb c (by simp))).1
theorem val_mk {q : UInt8} {v x : List UInt8} (r : List UInt8) (hq : q = 34 ∨ q = 39) (hv : q ∉ v) (hx : backO v = some x) : valL (q :: (v ++ q :: r)) = some (x, r) := by
  have h := tw_app (p := fun c => c != q) (u := v) (v := q :: r) (fun c hc => by
    have : c ≠ q := fun e => hv (e ▸ hc)
    simpa using this) (.cons r (by simp))
  rw [val_cons, if_pos hq, h.1, h.2]
  simp only
  rw [hx]
  rfl
theorem attrB_mk {n b2 b3 v x : List UInt8} {q : UInt8} (r : List UInt8) (h1 : ∃ c t, n = c :: t ∧ beg c = true) (h2 : ∀ x ∈ n, wi x = true) (hb2 : ∀ x ∈ b2, bl x = true) (hb3 : ∀ x ∈ b3, bl x = true) (hq : q = 34 ∨ q = 39) (hv : q ∉ v) (hx : backO v = some x) :
    attrB (n ++ (b2 ++ 61 :: (b3 ++ q :: (v ++ q :: r)))) = some ((n, x), r) := by
  have hn := name_mk (m := b2 ++ 61 :: (b3 ++ q :: (v ++ q :: r))) h1 h2 (stops_gap hb2 (.cons _ (by decide)))
  have e2 := tw_app (p := bl) (u := b2) (v := 61 :: (b3 ++ q :: (v ++ q :: r))) hb2 (.cons _ (by decide))
  have e3 := tw_app (p := bl) (u := b3) (v := q :: (v ++ q :: r)) hb3 (.cons _ (by rcases hq with rfl | rfl <;> decide))
  have hne : n ≠ [] := by obtain ⟨c, t, rfl, _⟩ := h1; simp
  unfold attrB
  rw [hn]
  simp only
  rw [if_neg hne, e2.2]
  simp only
  rw [e3.2, val_mk r hq hv hx]
  rfl
theorem attrL_mk {b n b2 b3 v x : List UInt8} {q : UInt8} (r : List UInt8) (hb0 : b ≠ []) (hb : ∀ x ∈ b, bl x = true) (h1 : ∃ c t, n = c :: t ∧ beg c = true) (h2 : ∀ x ∈ n, wi x = true) (hb2 : ∀ x ∈ b2, bl x = true) (hb3 : ∀ x ∈ b3, bl x = true) (hq : q = 34 ∨ q = 39) (hv : q ∉ v) (hx : backO v = some x) :
    attrL (b ++ (n ++ (b2 ++ 61 :: (b3 ++ q :: (v ++ q :: r))))) = some ((n, x), r) := by
  have e := tw_app (p := bl) (u := b) (v := n ++ (b2 ++ 61 :: (b3 ++ q :: (v ++ q :: r)))) hb (by obtain ⟨c, t, rfl, h⟩ := h1; exact .cons _ (beg_facts h).1)
  unfold attrL
  rw [e.1, e.2, if_neg hb0]
  exact attrB_mk r h1 h2 hb2 hb3 hq hv hx
/-! ### no "<" within -/
theorem numF_60 (base : Nat) (hb : base ≤ 99) : ∀ (l : List UInt8) (v : Nat), 60 ∈ l → numF base v l = none
  | [], _, h => by cases h
  | c :: t, v, h => by
    unfold numF
    by_cases hc : base ≤ dg c.toNat
    · rw [if_pos hc]
    · rw [if_neg hc]
      rcases List.mem_cons.1 h with rfl | h
      · exact absurd (show base ≤ dg (60 : UInt8).toNat from hb) hc
      · exact numF_60 base hb t _ h
theorem num_60 {base most : Nat} (hb : base ≤ 99) {l : List UInt8} (h : 60 ∈ l) : keep (num base most l) = none := by
  unfold num
  split
  · rfl
  · rw [numF_60 base hb l 0 h]; rfl
theorem ent_60 {n : List UInt8} {v : Nat} (h : ent n = some v) : 60 ∉ n := fun hm => by
  unfold ent at h
  split at h
  · rename_i e; rw [e] at hm; exact absurd hm (by decide)
  split at h
  · rename_i e; rw [e] at hm; exact absurd hm (by decide)
  split at h
  · rename_i e; rw [e] at hm; exact absurd hm (by decide)
  split at h
  · rename_i e; rw [e] at hm; exact absurd hm (by decide)
  split at h
  · rename_i e; rw [e] at hm; exact absurd hm (by decide)
  split at h
  · rename_i t _
    rw [num_60 (by omega) (by simpa using hm)] at h
    cases h
  · rename_i t _ _
    rw [num_60 (by omega) (by simpa using hm)] at h
    cases h
  · cases h
theorem cutS_cat : ∀ {l n r : List UInt8}, cutS l = some (n, r) → l = n ++ 59 :: r
  | [], n, r, h => by cases h
  | c :: t, n, r, h => by
    unfold cutS at h
    split at h
    · rename_i e
      cases h
      rw [e]; rfl
    · cases e : cutS t with
      | none => rw [e] at h; cases h
      | some p =>
        rw [e] at h
        obtain ⟨n', r'⟩ := p
        cases h
        rw [cutS_cat e]
        rfl
theorem back_60 : ∀ (k : Nat) (l x : List UInt8), l.length ≤ k → back l = some x → 60 ∉ l
  | _, [], _, _, _ => by simp
  | 0, _ :: _, _, h, _ => by simp at h
  | k + 1, c :: t, x, hk, h => by
    by_cases h1 : c = 60
    · subst h1; rw [back_lt] at h; cases h
    by_cases h2 : c = 38
    · subst h2
      cases e : cutS t with
      | none => rw [back_amp_none e] at h; cases h
      | some p =>
        obtain ⟨n, r⟩ := p
        cases e2 : ent n with
        | none => rw [back_amp_bad e e2] at h; cases h
        | some v =>
          rw [back_amp_some e e2] at h
          cases e3 : back r with
          | none => rw [e3] at h; cases h
          | some y =>
            have hr := cutS_len e
            have ih := back_60 k r y (by simp at hk; omega) e3
            have hn := ent_60 e2
            rw [cutS_cat e]
            simp only [List.mem_cons, List.mem_append, not_or]
            exact ⟨by decide, hn, by decide, ih⟩
    · rw [back_plain t h1 h2] at h
      cases e3 : back t with
      | none => rw [e3] at h; cases h
      | some y =>
        have ih := back_60 k t y (by simpa using hk) e3
        simp only [List.mem_cons, not_or]
        exact ⟨fun e => h1 e.symm, ih⟩
theorem backO_some {l x : List UInt8} (h : backO l = some x) : valid l = true ∧ back l = some x ∧ 60 ∉ l := by
  unfold backO at h
  split at h
  · rename_i hv; exact ⟨hv, h, back_60 _ l x (Nat.le_refl _) h⟩
  · cases h
/-! ### pieces -/
theorem attr_piece {l r : List UInt8} {a : Att} (h : attrL l = some (a, r)) : ∃ p, l = p ++ r ∧ 60 ∉ p ∧ ∀ r', attrL (p ++ r') = some (a, r') := by
  obtain ⟨h0, hB⟩ := attrL_some h
  obtain ⟨hn, r1, e1, e2, ea⟩ := attrB_cat hB
  obtain ⟨q, v, hq, e3, hqv, hx⟩ := val_cat e2
  obtain ⟨n, m, hnm⟩ : ∃ n m, nameL (l.dropWhile bl) = (n, m) := ⟨_, _, rfl⟩
  rw [hnm] at hn e1 ea
  simp only at hn e1 ea
  obtain ⟨n1, n2, n3, n4⟩ := name_some hnm hn
  have c1 := take_drop_while bl l
  have c2 := take_drop_while bl m
  have c3 := take_drop_while bl r1
  rw [e1] at c2
  rw [e3] at c3
  have a0 := all_while bl l
  have a2 := all_while bl m
  have a3 := all_while bl r1
  obtain ⟨b, hb⟩ : ∃ b, l.takeWhile bl = b := ⟨_, rfl⟩
  obtain ⟨b2, hb2⟩ : ∃ b, m.takeWhile bl = b := ⟨_, rfl⟩
  obtain ⟨b3, hb3⟩ : ∃ b, r1.takeWhile bl = b := ⟨_, rfl⟩
  rw [hb] at c1 a0 h0
  rw [hb2] at c2 a2
  rw [hb3] at c3 a3
  obtain ⟨a1, a2'⟩ := a
  simp only at ea e2 hx
  subst ea
  refine ⟨b ++ (a1 ++ (b2 ++ 61 :: (b3 ++ q :: (v ++ [q])))), ?_, ?_, fun r' => ?_⟩
  · rw [← c1, n4, ← c2, ← c3]
    simp
  · simp only [List.mem_append, List.mem_cons, not_or]
    have hq60 : (60 : UInt8) ≠ q := by rcases hq with rfl | rfl <;> decide
    exact ⟨fun h => (bl_facts (a0 _ h)).2.2 rfl, fun h => wi_60 (n2 _ h) rfl, fun h => (bl_facts (a2 _ h)).2.2 rfl, by decide, fun h => (bl_facts (a3 _ h)).2.2 rfl, hq60, (backO_some hx).2.2, by simpa using hq60⟩
  · have := attrL_mk (b := b) (n := a1) (b2 := b2) (b3 := b3) (v := v) (x := a2') (q := q) r' h0 a0 n1 n2 a2 a3 hq hqv hx
    simpa using this
theorem nextA_piece {as : List Att} {l r : List UInt8} {a : Att} (h : nextA as l = some (a, r)) : ∃ p, l = p ++ r ∧ 60 ∉ p ∧ ∀ r', nextA as (p ++ r') = some (a, r') := by
  obtain ⟨h1, h2⟩ := own_some h
  obtain ⟨p, e, h3, h4⟩ := attr_piece h1
  refine ⟨p, e, h3, fun r' => ?_⟩
  unfold nextA
  rw [h4]
  unfold own
  simp only at h2 ⊢
  rw [h2]
  rfl
theorem manyF_piece : ∀ (f : Nat) (as : List Att) (l : List UInt8), ∃ p, l = p ++ (manyF nextA f as l).2 ∧ 60 ∉ p ∧ ∀ m, (∀ xs, nextA xs m = none) → many nextA as (p ++ m) = ((manyF nextA f as l).1, m)
  | 0, as, l => ⟨[], rfl, by simp, fun m hm => many_stop (hm as)⟩
  | f + 1, as, l => by
    unfold manyF
    cases e : nextA as l with
    | none => exact ⟨[], rfl, by simp, fun m hm => many_stop (hm as)⟩
    | some x =>
      obtain ⟨a, r⟩ := x
      obtain ⟨p, e1, h1, h2⟩ := nextA_piece e
      obtain ⟨p2, e2, h3, h4⟩ := manyF_piece f (as ++ [a]) r
      refine ⟨p ++ p2, ?_, ?_, fun m hm => ?_⟩
      · simp only
        rw [List.append_assoc, ← e2]
        exact e1
      · rw [List.mem_append, not_or]; exact ⟨h1, h3⟩
      · rw [List.append_assoc, many_step shrinksA (h2 (p2 ++ m))]
        exact h4 m hm
theorem no_attr {b : List UInt8} (hb : ∀ x ∈ b, bl x = true) {c : UInt8} (hc : c = 47 ∨ c = 62) (t : List UInt8) (xs : List Att) : nextA xs (b ++ c :: t) = none := by
  have e := tw_app (p := bl) (u := b) (v := c :: t) hb (.cons _ (by rcases hc with rfl | rfl <;> decide))
  refine nextA_none (attrL_no ?_)
  rw [e.2]
  rcases hc with rfl | rfl <;> rfl
/-- what a token is made of -/
theorem open_piece {l r : List UInt8} {t : Tok} (h : openL l = some (t, r)) : t.1 = 1 ∧ ∃ p, l = p ++ 62 :: r ∧ 60 ∉ p ∧ (∀ x, p ++ [62] ≠ 47 :: x) ∧ ∀ r', openL (p ++ 62 :: r') = some (t, r') := by
  unfold openL at h
  split at h
  · cases h
  · rename_i hn
    obtain ⟨n, m, hnm⟩ : ∃ n m, nameL l = (n, m) := ⟨_, _, rfl⟩
    rw [hnm] at h hn
    simp only at h hn
    obtain ⟨n1, n2, n3, n4⟩ := name_some hnm hn
    obtain ⟨p, e1, h1, h2⟩ := manyF_piece (m.length + 1) [] m
    have hmany : many nextA [] m = manyF nextA (m.length + 1) [] m := rfl
    rw [← hmany] at e1 h2
    obtain ⟨as, l2, hal⟩ : ∃ as l2, many nextA [] m = (as, l2) := ⟨_, _, rfl⟩
    rw [hal] at h e1 h2
    simp only at e1 h2
    have c2 := take_drop_while bl l2
    have a2 := all_while bl l2
    obtain ⟨b, hb⟩ : ∃ b, l2.takeWhile bl = b := ⟨_, rfl⟩
    rw [hb] at c2 a2
    have hst : ∀ {c : UInt8} {y : List UInt8}, (c = 47 ∨ c = 62) → l2.dropWhile bl = c :: y → Stops wi (p ++ (b ++ c :: y)) := fun {c y} hc e => by rw [← e, c2, ← e1]; exact n3
    have hfst : ∀ {p : List UInt8}, ∀ x, n ++ p ≠ 47 :: x := fun {p} x e => by
      obtain ⟨c, t, rfl, hb⟩ := n1
      injection e with e _
      rw [e] at hb
      exact absurd hb (by decide)
    have hst2 : ∀ {c : UInt8} {y y' : List UInt8}, Stops wi (p ++ (b ++ c :: y)) → Stops wi (p ++ (b ++ c :: y')) := fun {c y y'} hs => by
      rcases hs with e | ⟨c', t', e, hc'⟩
      · simp at e
      · cases p with
        | cons d p => injection e with e _; exact .cons _ (e ▸ hc')
        | nil => cases b with
          | cons d b => injection e with e _; exact .cons _ (e ▸ hc')
          | nil => injection e with e _; exact .cons _ (e ▸ hc')
    rcases ends_some h with ⟨e, rfl⟩ | ⟨e, rfl⟩
    · simp only at e
      rw [e] at c2
      refine ⟨rfl, n ++ (p ++ (b ++ [47])), by rw [n4, e1, ← c2]; simp, ?_, by intro x; rw [List.append_assoc]; exact hfst x, fun r' => ?_⟩
      · simp only [List.mem_append, not_or, List.mem_singleton]
        exact ⟨fun h => wi_60 (n2 _ h) rfl, h1, fun h => (bl_facts (a2 _ h)).2.2 rfl, by decide⟩
      · have e4 : n ++ (p ++ (b ++ [47])) ++ 62 :: r' = n ++ (p ++ (b ++ 47 :: 62 :: r')) := by simp
        have e5 := tw_app (p := bl) (u := b) (v := 47 :: 62 :: r') a2 (.cons _ (by decide))
        rw [e4]
        unfold openL
        rw [name_mk n1 n2 (hst2 (hst (.inl rfl) e))]
        simp only
        rw [if_neg hn, h2 _ (no_attr a2 (.inl rfl) _)]
        unfold ends
        simp only
        rw [e5.2]
        rfl
    · simp only at e
      rw [e] at c2
      refine ⟨rfl, n ++ (p ++ b), by rw [n4, e1, ← c2]; simp, ?_, by intro x; rw [List.append_assoc]; exact hfst x, fun r' => ?_⟩
      · simp only [List.mem_append, not_or]
        exact ⟨fun h => wi_60 (n2 _ h) rfl, h1, fun h => (bl_facts (a2 _ h)).2.2 rfl⟩
      · have e4 : n ++ (p ++ b) ++ 62 :: r' = n ++ (p ++ (b ++ 62 :: r')) := by simp
        have e5 := tw_app (p := bl) (u := b) (v := 62 :: r') a2 (.cons _ (by decide))
        rw [e4]
        unfold openL
        rw [name_mk n1 n2 (hst2 (hst (.inr rfl) e))]
        simp only
        rw [if_neg hn, h2 _ (no_attr a2 (.inr rfl) _)]
        unfold ends
        simp only
        rw [e5.2]
        rfl
theorem close_mk {n b : List UInt8} (r : List UInt8) (h1 : ∃ c t, n = c :: t ∧ beg c = true) (h2 : ∀ x ∈ n, wi x = true) (hb : ∀ x ∈ b, bl x = true) : closeL (n ++ (b ++ 62 :: r)) = some ((2, n, [], [], false), r) := by
  have e5 := tw_app (p := bl) (u := b) (v := 62 :: r) hb (.cons _ (by decide))
  have hne : n ≠ [] := by obtain ⟨c, t, rfl, _⟩ := h1; simp
  unfold closeL
  rw [name_mk h1 h2 (stops_gap hb (.cons _ (by decide)))]
  simp only
  rw [if_neg hne, e5.2]
  rfl
theorem close_piece {l r : List UInt8} {t : Tok} (h : closeL l = some (t, r)) : t.1 = 2 ∧ ∃ p, l = p ++ 62 :: r ∧ 60 ∉ p ∧ ∀ r', closeL (p ++ 62 :: r') = some (t, r') := by
  unfold closeL at h
  split at h
  · cases h
  · rename_i hn
    obtain ⟨n, m, hnm⟩ : ∃ n m, nameL l = (n, m) := ⟨_, _, rfl⟩
    rw [hnm] at h hn
    simp only at h hn
    obtain ⟨n1, n2, n3, n4⟩ := name_some hnm hn
    have c2 := take_drop_while bl m
    have a2 := all_while bl m
    obtain ⟨b, hb⟩ : ∃ b, m.takeWhile bl = b := ⟨_, rfl⟩
    rw [hb] at c2 a2
    split at h
    · rename_i r1 e
      cases h
      rw [e] at c2
      refine ⟨rfl, n ++ b, by rw [n4, ← c2]; simp, ?_, fun r' => ?_⟩
      · simp only [List.mem_append, not_or]
        exact ⟨fun h => wi_60 (n2 _ h) rfl, fun h => (bl_facts (a2 _ h)).2.2 rfl⟩
      · rw [List.append_assoc]
        exact close_mk r' n1 n2 a2
    · cases h
theorem text_mk {u x : List UInt8} (r : List UInt8) (hu : u ≠ []) (h60 : 60 ∉ u) (hx : backO u = some x) (hr : r = [] ∨ ∃ y, r = 60 :: y) : tokL (u ++ r) = some ((3, [], x, [], false), r) := by
  have e := tw_app (p := fun c => c != 60) (u := u) (v := r) (fun c hc => by
    have : c ≠ 60 := fun e => h60 (e ▸ hc)
    simpa using this) (by
    rcases hr with rfl | ⟨y, rfl⟩
    · exact .inl rfl
    · exact .cons y rfl)
  rw [tok_text (fun y ey => by
    cases u with
    | nil => exact hu rfl
    | cons c u => injection ey with ey _; exact h60 (by rw [ey]; simp))]
  unfold textL
  rw [e.1, e.2, if_neg hu, hx]
  rfl
theorem tok_piece {l r : List UInt8} {t : Tok} (h : tokL l = some (t, r)) : ∃ c p, l = c :: p ++ r ∧ 60 ∉ p ∧ (c = 60 ↔ t.1 ≠ 3) ∧ (t.1 = 3 → r = [] ∨ ∃ y, r = 60 :: y) ∧ (t.1 ≠ 3 → ∃ p', p = p' ++ [62]) ∧ ∀ r', (t.1 = 3 → r' = [] ∨ ∃ y, r' = 60 :: y) → tokL (c :: p ++ r') = some (t, r') := by
  rcases cases_tok l with ⟨x, rfl⟩ | ⟨x, rfl, hx⟩ | hx
  · rw [tok_close] at h
    obtain ⟨h1, p, e, h2, h3⟩ := close_piece h
    refine ⟨60, 47 :: (p ++ [62]), by rw [e]; simp, ?_, ?_, fun h => ?_, fun _ => ⟨47 :: p, rfl⟩, fun r' _ => ?_⟩
    · simp only [List.mem_cons, List.mem_append, not_or]
      exact ⟨by decide, h2, by decide⟩
    · rw [h1]; decide
    · rw [h1] at h; cases h
    · have := h3 r'
      simpa [tok_close] using this
  · rw [tok_open hx] at h
    obtain ⟨h1, p, e, h2, h4, h3⟩ := open_piece h
    refine ⟨60, p ++ [62], by rw [e]; simp, ?_, ?_, fun h => ?_, fun _ => ⟨p, rfl⟩, fun r' _ => ?_⟩
    · simp only [List.mem_append, not_or, List.mem_singleton]
      exact ⟨h2, by decide⟩
    · rw [h1]; decide
    · rw [h1] at h; cases h
    · have := h3 r'
      have e2 : 60 :: (p ++ [62]) ++ r' = 60 :: (p ++ 62 :: r') := by simp
      rw [e2, tok_open]
      · exact this
      · intro y ey
        cases p with
        | nil => cases ey
        | cons d p =>
          injection ey with ey _
          exact h4 (p ++ [62]) (by rw [ey]; rfl)
  · rw [tok_text hx] at h
    obtain ⟨h1, rfl, x, h2, rfl⟩ := text_some h
    have c1 := take_drop_while (· != 60) l
    have h60 := (backO_some h2).2.2
    have hst := stops_drop (· != 60) l
    have hst2 : l.dropWhile (· != 60) = [] ∨ ∃ y, l.dropWhile (· != 60) = 60 :: y := by
      rcases hst with e | ⟨c, t, e, hc⟩
      · exact .inl e
      · exact .inr ⟨t, by rw [e]; simp at hc; rw [hc]⟩
    cases hu : l.takeWhile (· != 60) with
    | nil => exact absurd hu h1
    | cons c u =>
      rw [hu] at c1 h60 h2
      refine ⟨c, u, c1.symm, fun h => h60 (by simp [h]), ?_, fun _ => hst2, fun h => absurd rfl h, fun r' hr => text_mk r' (by simp) h60 h2 (hr rfl)⟩
      constructor
      · intro e; rw [e] at h60; simp at h60
      · intro e; exact absurd rfl e
end Go.Proofs.YtbkfmbkamocllaaDoor.Tk
/-
  Two tokens are held against each other.
-/
namespace Go.Proofs.YtbkfmbkamocllaaDoor.Tk

instance decAtt : DecidableEq Att := @instDecidableEqProd _ _ inferInstance inferInstance
instance decTok : DecidableEq Tok := @instDecidableEqProd _ _ inferInstance (@instDecidableEqProd _ _ inferInstance (@instDecidableEqProd _ _ inferInstance (@instDecidableEqProd _ _ inferInstance inferInstance)))
instance decTokA : DecidableEq (Nat × Tok) := @instDecidableEqProd _ _ inferInstance decTok
end Go.Proofs.YtbkfmbkamocllaaDoor.Tk
