/-
  TOKENS over plain lists of bytes: blanks, names, values, attributes, what a token is, and what a text is made of; as the document's words have them. Nothing of any program.
-/
import Derived.Test.YtlpjealcmnnbnaaGreatDoorEsc
namespace Go.Proofs.YtlpjealcmnnbnaaGreatDoor.Tk
open Go.Lib Tx

def bl (c : UInt8) : Bool := c == 9 || c == 10 || c == 13 || c == 32
def lett (c : UInt8) : Bool := (decide (65 ≤ c.toNat) && decide (c.toNat ≤ 90)) || (decide (97 ≤ c.toNat) && decide (c.toNat ≤ 122))
def beg (c : UInt8) : Bool := lett c || c == 95
def wi (c : UInt8) : Bool := beg c || (decide (48 ≤ c.toNat) && decide (c.toNat ≤ 57)) || c == 45 || c == 46
/-- An attribute: its name, its value. A token: its kind, name, text, attributes; is it empty? -/
abbrev Att := List UInt8 × List UInt8
abbrev Tok := Nat × List UInt8 × List UInt8 × List Att × Bool

/-- A name, and what is behind it; none: no name. -/
def nameL : List UInt8 → List UInt8 × List UInt8
  | [] => ([], [])
  | c :: t => if beg c then ((c :: t).takeWhile wi, (c :: t).dropWhile wi) else ([], c :: t)
/-- What escape.Back tells of it. -/
def backO (l : List UInt8) : Option (List UInt8) := if valid l then back l else none
/-- A value in its quotes. -/
def valL : List UInt8 → Option (List UInt8 × List UInt8)
  | [] => none
  | q :: t => if q = 34 ∨ q = 39 then
      match t.dropWhile (· != q) with
      | [] => none
      | _ :: r => (backO (t.takeWhile (· != q))).map fun x => (x, r)
    else none
/-- An attribute behind its blanks. -/
def attrB (l : List UInt8) : Option (Att × List UInt8) :=
  if (nameL l).1 = [] then none else
  match (nameL l).2.dropWhile bl with
  | 61 :: r => (valL (r.dropWhile bl)).map fun v => (((nameL l).1, v.1), v.2)
  | _ => none
def attrL (l : List UInt8) : Option (Att × List UInt8) := if l.takeWhile bl = [] then none else attrB (l.dropWhile bl)
/-- One of a name of its own. -/
def own (as : List Att) : Option (Att × List UInt8) → Option (Att × List UInt8)
  | none => none
  | some p => if as.any (fun b => b.1 == p.1.1) then none else some p
def nextA (as : List Att) (l : List UInt8) : Option (Att × List UInt8) := own as (attrL l)
/-- As many as there are. -/
def manyF {α : Type} (next : List α → List UInt8 → Option (α × List UInt8)) : Nat → List α → List UInt8 → List α × List UInt8
  | 0, xs, l => (xs, l)
  | f + 1, xs, l => match next xs l with
    | some p => manyF next f (xs ++ [p.1]) p.2
    | none => (xs, l)
def many {α : Type} (next : List α → List UInt8 → Option (α × List UInt8)) (xs : List α) (l : List UInt8) : List α × List UInt8 := manyF next (l.length + 1) xs l
def Shrinks {α : Type} (next : List α → List UInt8 → Option (α × List UInt8)) : Prop := ∀ xs l x r, next xs l = some (x, r) → r.length < l.length
theorem manyF_enough {α : Type} {next : List α → List UInt8 → Option (α × List UInt8)} (hs : Shrinks next) : ∀ (f g : Nat) (xs : List α) (l : List UInt8), l.length < f → l.length < g → manyF next f xs l = manyF next g xs l
  | 0, _, _, _, h, _ => by omega
  | _ + 1, 0, _, _, _, h => by omega
  | f + 1, g + 1, xs, l, hf, hg => by
    unfold manyF
    cases e : next xs l with
    | none => rfl
    | some p =>
      have h1 : p.2.length < l.length := hs xs l p.1 p.2 e
      exact manyF_enough hs f g _ _ (by omega) (by omega)
theorem many_stop {α : Type} {next : List α → List UInt8 → Option (α × List UInt8)} {xs : List α} {l : List UInt8} (h : next xs l = none) : many next xs l = (xs, l) := by
  unfold many manyF
  rw [h]
theorem many_step {α : Type} {next : List α → List UInt8 → Option (α × List UInt8)} (hs : Shrinks next) {xs : List α} {l : List UInt8} {x : α} {r : List UInt8} (h : next xs l = some (x, r)) : many next xs l = many next (xs ++ [x]) r := by
  have h1 : r.length < l.length := hs xs l x r h
  conv => lhs; unfold many manyF
  rw [h]
  exact manyF_enough hs _ _ _ _ (by show r.length < _; omega) (by show r.length < _; omega)
theorem manyF_front {α : Type} {next : List α → List UInt8 → Option (α × List UInt8)} : ∀ (f : Nat) (xs : List α) (l : List UInt8), ∃ ys, (manyF next f xs l).1 = xs ++ ys
  | 0, xs, l => ⟨[], by simp [manyF]⟩
  | f + 1, xs, l => by
    unfold manyF
    cases e : next xs l with
    | none => exact ⟨[], by simp⟩
    | some p =>
      obtain ⟨ys, h⟩ := manyF_front (next := next) f (xs ++ [p.1]) p.2
      exact ⟨p.1 :: ys, by simp [h]⟩
theorem many_front {α : Type} {next : List α → List UInt8 → Option (α × List UInt8)} (xs : List α) (l : List UInt8) : ∃ ys, (many next xs l).1 = xs ++ ys := manyF_front _ _ _

def ends (n : List UInt8) (p : List Att × List UInt8) : Option (Tok × List UInt8) :=
  match p.2.dropWhile bl with
  | 47 :: 62 :: r => some ((1, n, [], p.1, true), r)
  | 62 :: r => some ((1, n, [], p.1, false), r)
  | _ => none
/-- An Open behind "<", a Close behind "</", a Text; a token. -/
def openL (l : List UInt8) : Option (Tok × List UInt8) := if (nameL l).1 = [] then none else ends (nameL l).1 (many nextA [] (nameL l).2)
def closeL (l : List UInt8) : Option (Tok × List UInt8) :=
  if (nameL l).1 = [] then none else
  match (nameL l).2.dropWhile bl with
  | 62 :: r => some ((2, (nameL l).1, [], [], false), r)
  | _ => none
def textL (l : List UInt8) : Option (Tok × List UInt8) := if l.takeWhile (· != 60) = [] then none else (backO (l.takeWhile (· != 60))).map fun x => ((3, [], x, [], false), l.dropWhile (· != 60))
def tokL : List UInt8 → Option (Tok × List UInt8)
  | 60 :: 47 :: r => closeL r
  | 60 :: r => openL r
  | l => textL l
def nextT (n : Nat) (_ : List (Nat × Tok)) (l : List UInt8) : Option ((Nat × Tok) × List UInt8) := (tokL l).map fun p => ((n - l.length, p.1), p.2)
def headL : List UInt8 := [60, 63, 120, 109, 108, 32, 118, 101, 114, 115, 105, 111, 110, 61, 39, 49, 46, 48, 39, 32, 101, 110, 99, 111, 100, 105, 110, 103, 61, 39, 85, 84, 70, 45, 56, 39, 63, 62]
def over (m l : List UInt8) : List UInt8 := if m.isPrefixOf l then l.drop m.length else l
def great (t : Nat × Tok) : Bool := decide (10 < t.2.2.2.2.1.length)
def toksL (l : List UInt8) : List (Nat × Tok) × List UInt8 := many (nextT l.length) [] (over headL l)
/-- What is told of all that was found, and of where it ended. -/
def told (n : Nat) (p : List (Nat × Tok) × List UInt8) : List (Nat × Tok) × Nat × Nat :=
  match p.1.find? great with
  | some t => ([], t.1, 4)
  | none => if p.2 = [] then (p.1, 0, 0) else ([], n - p.2.length, 5)
def tokensL (l : List UInt8) : List (Nat × Tok) × Nat × Nat := if 20000 < l.length then ([], 0, 4) else if valid l then told l.length (toksL l) else ([], 0, 3)

/-! ### what is left of a text -/
theorem take_drop_while (p : UInt8 → Bool) (l : List UInt8) : l.takeWhile p ++ l.dropWhile p = l := List.takeWhile_append_dropWhile
theorem name_cat (l : List UInt8) : (nameL l).1 ++ (nameL l).2 = l := by
  unfold nameL
  cases l with
  | nil => rfl
  | cons c t =>
    simp only
    split
    · exact take_drop_while wi (c :: t)
    · rfl
theorem len_cat {a b l : List UInt8} (h : a ++ b = l) : a.length + b.length = l.length := by rw [← h, List.length_append]
theorem name_len (l : List UInt8) : (nameL l).1.length + (nameL l).2.length = l.length := len_cat (name_cat l)
theorem while_len (p : UInt8 → Bool) (l : List UInt8) : (l.takeWhile p).length + (l.dropWhile p).length = l.length := len_cat (take_drop_while p l)
theorem ne_len {l : List UInt8} (h : l ≠ []) : 1 ≤ l.length := by cases l with | nil => exact absurd rfl h | cons => simp
theorem mem_while {p : UInt8 → Bool} {c : UInt8} : ∀ {l : List UInt8}, c ∈ l.takeWhile p → p c = true
  | [], h => by cases h
  | a :: l, h => by
    rw [List.takeWhile_cons] at h
    split at h
    · rename_i ha
      rcases List.mem_cons.1 h with rfl | h
      · exact ha
      · exact mem_while h
    · cases h
theorem val_cons (q : UInt8) (t : List UInt8) : valL (q :: t) = if q = 34 ∨ q = 39 then
      match t.dropWhile (fun x => x != q) with
      | [] => none
      | _ :: r => (backO (t.takeWhile (fun x => x != q))).map fun x => (x, r)
    else none := rfl
/-- a piece of a text, and what is behind it -/
theorem val_cat {l x r : List UInt8} (h : valL l = some (x, r)) : ∃ q t, (q = 34 ∨ q = 39) ∧ l = q :: t ++ q :: r ∧ q ∉ t ∧ backO t = some x := by
  cases l with
  | nil => cases h
  | cons q t =>
    rw [val_cons] at h
    split at h
    · rename_i hq
      cases e : t.dropWhile (fun x => x != q) with
      | nil => rw [e] at h; cases h
      | cons c r' =>
        rw [e] at h
        simp only at h
        have hc : c = q := by
          have := List.head?_dropWhile_not (fun x => x != q) t
          rw [e] at this
          simpa using this
        cases hb : backO (t.takeWhile fun x => x != q) with
        | none => rw [hb] at h; cases h
        | some y =>
          rw [hb] at h
          cases h
          refine ⟨q, t.takeWhile fun x => x != q, hq, ?_, ?_, hb⟩
          · have := take_drop_while (fun x => x != q) t
            rw [e, hc] at this
            rw [List.cons_append, this]
          · intro hm
            have := mem_while hm
            simp at this
    · cases h
theorem attrB_cat {l r : List UInt8} {a : Att} (h : attrB l = some (a, r)) : (nameL l).1 ≠ [] ∧ ∃ r1, (nameL l).2.dropWhile bl = 61 :: r1 ∧ valL (r1.dropWhile bl) = some (a.2, r) ∧ a.1 = (nameL l).1 := by
  unfold attrB at h
  split at h
  · cases h
  · rename_i hn
    split at h
    · rename_i r1 e
      cases hv : valL (r1.dropWhile bl) with
      | none => rw [hv] at h; cases h
      | some v =>
        rw [hv] at h
        cases h
        exact ⟨hn, r1, e, hv, rfl⟩
    · cases h
theorem val_len {l x r : List UInt8} (h : valL l = some (x, r)) : r.length + 2 ≤ l.length := by
  obtain ⟨q, t, _, e, _⟩ := val_cat h
  rw [e]
  simp only [List.length_cons, List.length_append]
  omega
theorem attrB_len {l r : List UInt8} {a : Att} (h : attrB l = some (a, r)) : r.length < l.length := by
  obtain ⟨_, r1, e1, e2, _⟩ := attrB_cat h
  have h1 := val_len e2
  have h2 := while_len bl r1
  have h3 := while_len bl (nameL l).2
  rw [e1, List.length_cons] at h3
  have h4 := name_len l
  omega
theorem attrL_some {l r : List UInt8} {a : Att} (h : attrL l = some (a, r)) : l.takeWhile bl ≠ [] ∧ attrB (l.dropWhile bl) = some (a, r) := by
  unfold attrL at h
  split at h
  · cases h
  · rename_i hn; exact ⟨hn, h⟩
theorem own_some {as : List Att} {o : Option (Att × List UInt8)} {p : Att × List UInt8} (h : own as o = some p) : o = some p ∧ as.any (fun b => b.1 == p.1.1) = false := by
  cases o with
  | none => cases h
  | some q =>
    unfold own at h
    simp only at h
    split at h
    · cases h
    · rename_i hn
      cases h
      exact ⟨rfl, Bool.eq_false_iff.2 hn⟩
theorem shrinksA : Shrinks nextA := fun as l a r h => by
  obtain ⟨h1, _⟩ := own_some h
  obtain ⟨_, h2⟩ := attrL_some h1
  have := attrB_len h2
  have := while_len bl l
  omega
theorem ends_some {n : List UInt8} {p : List Att × List UInt8} {t : Tok} {r : List UInt8} (h : ends n p = some (t, r)) : (p.2.dropWhile bl = 47 :: 62 :: r ∧ t = (1, n, [], p.1, true)) ∨ (p.2.dropWhile bl = 62 :: r ∧ t = (1, n, [], p.1, false)) := by
  unfold ends at h
  split at h
  · rename_i r' e
    cases h
    exact .inl ⟨e, rfl⟩
  · rename_i r' e
    cases h
    exact .inr ⟨e, rfl⟩
  · cases h
/-- the attributes of an element, one behind the other -/
theorem manyF_len : ∀ (f : Nat) (xs : List Att) (l : List UInt8), (manyF nextA f xs l).2.length ≤ l.length
  | 0, xs, l => Nat.le_refl _
  | f + 1, xs, l => by
    unfold manyF
    cases e : nextA xs l with
    | none => exact Nat.le_refl _
    | some p =>
      have h1 := shrinksA xs l p.1 p.2 e
      have h2 := manyF_len f (xs ++ [p.1]) p.2
      simp only
      omega
theorem many_len (xs : List Att) (l : List UInt8) : (many nextA xs l).2.length ≤ l.length := manyF_len _ _ _
theorem open_len {l r : List UInt8} {t : Tok} (h : openL l = some (t, r)) : r.length < l.length := by
  unfold openL at h
  split at h
  · cases h
  · rename_i hn
    have h1 := many_len [] (nameL l).2
    have h2 := name_len l
    have h3 := while_len bl (many nextA [] (nameL l).2).2
    rcases ends_some h with ⟨e, _⟩ | ⟨e, _⟩ <;> (rw [e] at h3; simp only [List.length_cons] at h3; omega)
theorem close_len {l r : List UInt8} {t : Tok} (h : closeL l = some (t, r)) : r.length < l.length := by
  unfold closeL at h
  split at h
  · cases h
  · split at h
    · rename_i r1 e
      cases h
      have h2 := name_len l
      have h3 := while_len bl (nameL l).2
      rw [e, List.length_cons] at h3
      omega
    · cases h
theorem text_some {l r : List UInt8} {t : Tok} (h : textL l = some (t, r)) : l.takeWhile (· != 60) ≠ [] ∧ r = l.dropWhile (· != 60) ∧ ∃ x, backO (l.takeWhile (· != 60)) = some x ∧ t = (3, [], x, [], false) := by
  unfold textL at h
  split at h
  · cases h
  · rename_i hn
    cases hb : backO (l.takeWhile (· != 60)) with
    | none => rw [hb] at h; cases h
    | some x =>
      rw [hb] at h
      cases h
      exact ⟨hn, rfl, x, rfl, rfl⟩
theorem tok_close (r : List UInt8) : tokL (60 :: 47 :: r) = closeL r := rfl
theorem tok_open {r : List UInt8} (h : ∀ x, r ≠ 47 :: x) : tokL (60 :: r) = openL r := by
  unfold tokL
  split
  · rename_i e
    injection e with _ e
    exact absurd e (h _)
  · rename_i e
    injection e with _ e
    rw [e]
  · rename_i h1 h2
    exact absurd rfl (h2 r)
theorem tok_text {l : List UInt8} (h : ∀ x, l ≠ 60 :: x) : tokL l = textL l := by
  unfold tokL
  split
  · rename_i x; exact absurd rfl (h (47 :: x))
  · rename_i x _; exact absurd rfl (h x)
  · rfl
/-- what a text begins with -/
theorem cases_tok (l : List UInt8) : (∃ r, l = 60 :: 47 :: r) ∨ (∃ r, l = 60 :: r ∧ ∀ x, r ≠ 47 :: x) ∨ ∀ x, l ≠ 60 :: x := by
  by_cases h : ∃ x, l = 60 :: x
  · obtain ⟨r, rfl⟩ := h
    by_cases h2 : ∃ x, r = 47 :: x
    · obtain ⟨x, rfl⟩ := h2
      exact .inl ⟨x, rfl⟩
    · exact .inr (.inl ⟨r, rfl, fun x e => h2 ⟨x, e⟩⟩)
  · exact .inr (.inr fun x e => h ⟨x, e⟩)
theorem tok_len {l r : List UInt8} {t : Tok} (h : tokL l = some (t, r)) : r.length < l.length := by
  rcases cases_tok l with ⟨x, rfl⟩ | ⟨x, rfl, hx⟩ | hx
  · rw [tok_close] at h
    have := close_len h
    simp; omega
  · rw [tok_open hx] at h
    have := open_len h
    simp; omega
  · rw [tok_text hx] at h
    obtain ⟨h1, rfl, _⟩ := text_some h
    have h2 := while_len (· != 60) l
    have h3 := ne_len h1
    omega
theorem shrinksT (n : Nat) : Shrinks (nextT n) := fun xs l x r h => by
  unfold nextT at h
  cases e : tokL l with
  | none => rw [e] at h; cases h
  | some p =>
    rw [e] at h
    cases h
    exact tok_len e
theorem nextT_none {n : Nat} {xs : List (Nat × Tok)} {l : List UInt8} (h : tokL l = none) : nextT n xs l = none := by unfold nextT; rw [h]; rfl
theorem nextT_some {n : Nat} {xs : List (Nat × Tok)} {l r : List UInt8} {t : Tok} (h : tokL l = some (t, r)) : nextT n xs l = some ((n - l.length, t), r) := by unfold nextT; rw [h]; rfl
/-! ### what is told of it -/
theorem told_big {n : Nat} {xs : List (Nat × Tok)} {l r : List UInt8} {t : Tok} (hx : xs.find? great = none) (h : tokL l = some (t, r)) (hg : 10 < t.2.2.2.1.length) : told n (many (nextT n) xs l) = ([], n - l.length, 4) := by
  rw [many_step (shrinksT n) (nextT_some h)]
  obtain ⟨ys, e⟩ := many_front (next := nextT n) (xs ++ [(n - l.length, t)]) r
  unfold told
  rw [e, List.append_assoc, List.find?_append, hx]
  have : great (n - l.length, t) = true := by unfold great; simpa using hg
  simp [this]
theorem told_bad {n : Nat} {xs : List (Nat × Tok)} {l : List UInt8} (hx : xs.find? great = none) (h : tokL l = none) (hl : l ≠ []) : told n (many (nextT n) xs l) = ([], n - l.length, 5) := by
  rw [many_stop (nextT_none h)]
  unfold told
  simp only
  rw [hx]
  simp [hl]
theorem tok_nil : tokL [] = none := rfl
theorem told_end {n : Nat} {xs : List (Nat × Tok)} (hx : xs.find? great = none) : told n (many (nextT n) xs []) = (xs, 0, 0) := by
  rw [many_stop (nextT_none tok_nil)]
  unfold told
  simp only
  rw [hx]
  rfl
theorem told_step {n : Nat} {xs : List (Nat × Tok)} {l r : List UInt8} {t : Tok} (h : tokL l = some (t, r)) : told n (many (nextT n) xs l) = told n (many (nextT n) (xs ++ [(n - l.length, t)]) r) := by
  rw [many_step (shrinksT n) (nextT_some h)]
theorem find_snoc {xs : List (Nat × Tok)} {k : Nat} {t : Tok} (hx : xs.find? great = none) (hg : ¬ 10 < t.2.2.2.1.length) : (xs ++ [(k, t)]).find? great = none := by
  rw [List.find?_append, hx]
  have : great (k, t) = false := by unfold great; simpa using hg
  simp [this]
/-! ### the document's own way through an Open -/
theorem beg_no (r : List UInt8) : nameL (47 :: r) = ([], 47 :: r) ∧ nameL (62 :: r) = ([], 62 :: r) := ⟨rfl, rfl⟩
theorem nextA_none {as : List Att} {l : List UInt8} (h : attrL l = none) : nextA as l = none := by unfold nextA; rw [h]; rfl
theorem attrL_no {l : List UInt8} (h : (nameL (l.dropWhile bl)).1 = []) : attrL l = none := by
  unfold attrL attrB
  rw [if_pos h]
  split <;> rfl
theorem ends_empty (n : List UInt8) (as : List Att) {l r : List UInt8} (h : l.dropWhile bl = 47 :: 62 :: r) : ends n (many nextA as l) = some ((1, n, [], as, true), r) := by
  rw [many_stop (nextA_none (attrL_no (by rw [h]; rfl)))]
  unfold ends
  simp only
  rw [h]
  rfl
theorem ends_not (n : List UInt8) (as : List Att) {l r : List UInt8} (h : l.dropWhile bl = 62 :: r) : ends n (many nextA as l) = some ((1, n, [], as, false), r) := by
  rw [many_stop (nextA_none (attrL_no (by rw [h]; rfl)))]
  unfold ends
  simp only
  rw [h]
  rfl
theorem ends_bad (n : List UInt8) (as : List Att) {l : List UInt8} (h : nextA as l = none) (h1 : ∀ r, l.dropWhile bl ≠ 47 :: 62 :: r) (h2 : ∀ r, l.dropWhile bl ≠ 62 :: r) : ends n (many nextA as l) = none := by
  rw [many_stop h]
  unfold ends
  split
  · rename_i e; exact absurd e (h1 _)
  · rename_i e; exact absurd e (h2 _)
  · rfl
theorem ends_step (n : List UInt8) {as : List Att} {l r : List UInt8} {a : Att} (h : nextA as l = some (a, r)) : ends n (many nextA as l) = ends n (many nextA (as ++ [a]) r) := by rw [many_step shrinksA h]
theorem nextA_gap {as : List Att} {l : List UInt8} (h : l.takeWhile bl ≠ []) : nextA as l = own as (attrB (l.dropWhile bl)) := by unfold nextA attrL; rw [if_neg h]
theorem nextA_nogap {as : List Att} {l : List UInt8} (h : l.takeWhile bl = []) : nextA as l = none := by unfold nextA attrL; rw [if_pos h]; rfl
end Go.Proofs.YtlpjealcmnnbnaaGreatDoor.Tk
