/-
  PLAIN LISTS OF BYTES: rows of fields with commas between, as the document's words have them. Nothing of any program.
-/
import Derived.Test.YtakfcfjamgaekaaDoorEsc
import Derived.Lib.Join
namespace Go.Proofs.YtakfcfjamgaekaaDoor.Tx
open Go.Lib

/-- what a field may have in it only between quotes -/
def spc (b : UInt8) : Bool := b == 44 || b == 34 || b == 13 || b == 10
/-- what is between quotes (the first of them just ahead), and what is behind the last one -/
def unq : List UInt8 → Option (List UInt8 × List UInt8)
  | [] => none
  | b :: t => if b = 34 then (match t with
      | [] => some ([], [])
      | c :: u => if c = 34 then (unq u).map (fun x => (34 :: x.1, x.2)) else some ([], c :: u))
    else (unq t).map (fun x => (b :: x.1, x.2))
theorem unq_nil : unq [] = none := rfl
theorem unq_end : unq [34] = some ([], []) := by unfold unq; rw [if_pos rfl]
theorem unq_two (u : List UInt8) : unq (34 :: 34 :: u) = (unq u).map (fun x => (34 :: x.1, x.2)) := by
  conv => lhs; unfold unq
  rw [if_pos rfl]
  simp only
  rw [if_pos trivial]
theorem unq_stop {c : UInt8} (u : List UInt8) (h : c ≠ 34) : unq (34 :: c :: u) = some ([], c :: u) := by
  unfold unq
  rw [if_pos rfl]
  simp only
  rw [if_neg h]
theorem unq_on {b : UInt8} (t : List UInt8) (h : b ≠ 34) : unq (b :: t) = (unq t).map (fun x => (b :: x.1, x.2)) := by
  conv => lhs; unfold unq
  rw [if_neg h]
theorem unq_run : ∀ (p t : List UInt8), (∀ c ∈ p, c ≠ 34) → unq (p ++ t) = (unq t).map (fun x => (p ++ x.1, x.2))
  | [], t, _ => by cases h : unq t <;> simp [h]
  | b :: p, t, h => by
    rw [List.cons_append, unq_on _ (h b (by simp)), unq_run p t (fun c hc => h c (by simp [hc])), Option.map_map]
    rfl
/-- every quote twice -/
def dbl : List UInt8 → List UInt8
  | [] => []
  | b :: t => (if b = 34 then [34, 34] else [b]) ++ dbl t
theorem dbl_nil : dbl [] = [] := rfl
theorem dbl_cons (b : UInt8) (t : List UInt8) : dbl (b :: t) = (if b = 34 then [34, 34] else [b]) ++ dbl t := rfl
theorem dbl_append : ∀ a b : List UInt8, dbl (a ++ b) = dbl a ++ dbl b
  | [], _ => rfl
  | c :: a, b => by rw [List.cons_append, dbl_cons, dbl_cons, dbl_append a b, List.append_assoc]
theorem dbl_none : ∀ {p : List UInt8}, (∀ c ∈ p, c ≠ 34) → dbl p = p
  | [], _ => rfl
  | b :: p, h => by rw [dbl_cons, if_neg (h b (by simp)), dbl_none (fun c hc => h c (by simp [hc]))]; rfl
theorem dbl_len : ∀ l : List UInt8, (dbl l).length ≤ 2 * l.length
  | [] => by simp [dbl_nil]
  | b :: t => by
    have := dbl_len t
    rw [dbl_cons, List.length_append, List.length_cons]
    split <;> simp <;> omega
theorem unq_dbl : ∀ (l r : List UInt8), (∀ c ∈ r.head?, c ≠ 34) → unq (dbl l ++ 34 :: r) = some (l, r)
  | [], [], _ => unq_end
  | [], c :: r, h => unq_stop r (h c (by simp))
  | b :: t, r, h => by
    have ih := unq_dbl t r h
    rw [dbl_cons]
    by_cases hb : b = 34
    · subst hb
      rw [if_pos rfl, List.append_assoc]
      show unq (34 :: 34 :: (dbl t ++ 34 :: r)) = _
      rw [unq_two, ih]
      rfl
    · rw [if_neg hb, List.append_assoc]
      show unq (b :: (dbl t ++ 34 :: r)) = _
      rw [unq_on _ hb, ih]
      rfl
theorem unq_len : ∀ (n : Nat) (l x r : List UInt8), l.length ≤ n → unq l = some (x, r) → x.length + r.length < l.length
  | _, [], _, _, _, h => by rw [unq_nil] at h; cases h
  | 0, _ :: _, _, _, hn, _ => by simp at hn
  | n + 1, b :: t, x, r, hn, h => by
    by_cases hb : b = 34
    · subst hb
      cases t with
      | nil => rw [unq_end] at h; injection h with h; injection h with h1 h2; subst h1; subst h2; simp
      | cons c u =>
        by_cases hc : c = 34
        · subst hc
          rw [unq_two] at h
          obtain ⟨⟨y, s⟩, h1, h2⟩ := Option.map_eq_some_iff.1 h
          injection h2 with h2 h3
          subst h2; subst h3
          have := unq_len n u y s (by simp at hn; omega) h1
          simp only [List.length_cons]
          omega
        · rw [unq_stop _ hc] at h
          injection h with h
          injection h with h1 h2
          subst h1; subst h2
          simp
    · rw [unq_on _ hb] at h
      obtain ⟨⟨y, s⟩, h1, h2⟩ := Option.map_eq_some_iff.1 h
      injection h2 with h2 h3
      subst h2; subst h3
      have := unq_len n t y s (by simp at hn; omega) h1
      simp only [List.length_cons]
      omega
/-- the first field, and what is behind it -/
def field (l : List UInt8) : Option (List UInt8 × List UInt8) :=
  if l.take 1 = [34] then unq (l.drop 1) else some (l.takeWhile (fun b => !spc b), l.dropWhile (fun b => !spc b))
theorem field_quote (t : List UInt8) : field (34 :: t) = unq t := by
  unfold field
  rw [if_pos (show List.take 1 (34 :: t) = [34] from rfl)]
  rfl
theorem field_plain {l : List UInt8} (h : l.take 1 ≠ [34]) : field l = some (l.takeWhile (fun b => !spc b), l.dropWhile (fun b => !spc b)) := by
  unfold field
  rw [if_neg h]
theorem tw_run : ∀ (p r : List UInt8), (∀ c ∈ p, spc c = false) → (∀ c ∈ r.head?, spc c = true) → (p ++ r).takeWhile (fun b => !spc b) = p ∧ (p ++ r).dropWhile (fun b => !spc b) = r
  | [], [], _, _ => ⟨rfl, rfl⟩
  | [], c :: r, _, h => by
    have := h c (by simp)
    simp [this]
  | b :: p, r, h, hr => by
    obtain ⟨h1, h2⟩ := tw_run p r (fun c hc => h c (by simp [hc])) hr
    have := h b (by simp)
    simp [this, h1, h2]
theorem field_len {l x r : List UInt8} (h : field l = some (x, r)) : x.length + r.length ≤ l.length := by
  by_cases hl : l.take 1 = [34]
  · unfold field at h
    rw [if_pos hl] at h
    have := unq_len _ _ _ _ (Nat.le_refl _) h
    simp at this
    omega
  · rw [field_plain hl] at h
    injection h with h
    injection h with h1 h2
    subst h1; subst h2
    have := congrArg List.length (List.takeWhile_append_dropWhile (p := fun b => !spc b) (l := l))
    rw [List.length_append] at this
    omega
/-- f is the field x as it may be written -/
def Form (x f : List UInt8) : Prop := (f = x ∧ ∀ c ∈ x, spc c = false) ∨ f = 34 :: (dbl x ++ [34])
/-- a comma, a row's end, or nothing -/
def Stop (r : List UInt8) : Prop := r = [] ∨ (∃ u, r = 44 :: u) ∨ ∃ u, r = 13 :: 10 :: u
theorem field_form {x f r : List UInt8} (h : Form x f) (hr : Stop r) : field (f ++ r) = some (x, r) := by
  rcases h with ⟨rfl, h⟩ | rfl
  · have h2 : ∀ c ∈ r.head?, spc c = true := by
      rcases hr with rfl | ⟨u, rfl⟩ | ⟨u, rfl⟩ <;> intro c hc <;> simp at hc <;> subst hc <;> decide
    rw [field_plain, (tw_run f r h h2).1, (tw_run f r h h2).2]
    intro e
    cases f with
    | nil => rcases hr with rfl | ⟨u, rfl⟩ | ⟨u, rfl⟩ <;> simp at e
    | cons b f =>
      have := h b (by simp)
      simp at e
      subst e
      exact absurd this (by decide)
  · rw [List.cons_append, field_quote, List.append_assoc]
    refine unq_dbl x r ?_
    rcases hr with rfl | ⟨u, rfl⟩ | ⟨u, rfl⟩ <;> intro c hc <;> simp at hc <;> subst hc <;> decide
theorem form_bare {x : List UInt8} (h : ∀ c ∈ x, spc c = false) : Form x x := .inl ⟨rfl, h⟩
theorem form_quoted (x : List UInt8) : Form x (34 :: (dbl x ++ [34])) := .inr rfl

/-! ### rows -/
def eBig : Int := 4
def eUtf : Int := 3
def eQuote : Int := 19
def onto {α β : Type} (x : α) : Except Int (List α × β) → Except Int (List α × β)
  | .ok (ys, r) => .ok (x :: ys, r)
  | .error e => .error e
/-- the first row (n fields at most), and what is behind its end -/
def row : Nat → List UInt8 → Except Int (List (List UInt8) × List UInt8)
  | 0, _ => .error eBig
  | n + 1, l => match field l with
    | none => .error eQuote
    | some (x, r) => if r = [] then .ok ([x], []) else if r.take 2 = [13, 10] then .ok ([x], r.drop 2) else if r.take 1 = [44] then onto x (row n (r.drop 1)) else .error eQuote
theorem row_zero (l : List UInt8) : row 0 l = .error eBig := rfl
theorem row_none {n : Nat} {l : List UInt8} (h : field l = none) : row (n + 1) l = .error eQuote := by unfold row; rw [h]
theorem row_some {n : Nat} {l x r : List UInt8} (h : field l = some (x, r)) :
    row (n + 1) l = if r = [] then .ok ([x], []) else if r.take 2 = [13, 10] then .ok ([x], r.drop 2) else if r.take 1 = [44] then onto x (row n (r.drop 1)) else .error eQuote := by
  conv => lhs; unfold row
  rw [h]
def ontoR {α : Type} (x : α) : Except Int (List α) → Except Int (List α)
  | .ok ys => .ok (x :: ys)
  | .error e => .error e
/-- all rows, n at most -/
def rowsL : Nat → List UInt8 → Except Int (List (List (List UInt8)))
  | 0, l => if l = [] then .ok [] else .error eBig
  | n + 1, l => if l = [] then .ok [] else match row 30 l with
    | .error e => .error e
    | .ok (x, r) => ontoR x (rowsL n r)
theorem rowsL_nil (n : Nat) : rowsL n [] = .ok [] := by cases n <;> rfl
theorem rowsL_full {l : List UInt8} (h : l ≠ []) : rowsL 0 l = .error eBig := if_neg h
theorem rowsL_bad {n : Nat} {l : List UInt8} {e : Int} (h : l ≠ []) (hr : row 30 l = .error e) : rowsL (n + 1) l = .error e := by
  unfold rowsL
  rw [if_neg h, hr]
theorem rowsL_on {n : Nat} {l r : List UInt8} {x : List (List UInt8)} (h : l ≠ []) (hr : row 30 l = .ok (x, r)) : rowsL (n + 1) l = ontoR x (rowsL n r) := by
  conv => lhs; unfold rowsL
  rw [if_neg h, hr]
def readL (l : List UInt8) : Except Int (List (List (List UInt8))) := if 20000 < l.length then .error eBig else if valid l = false then .error eUtf else rowsL 200 l
theorem readL_text {l : List UInt8} (h : l.length ≤ 20000) (hv : valid l = true) : readL l = rowsL 200 l := by
  unfold readL
  rw [if_neg (by omega), if_neg (by rw [hv]; decide)]

/-- the row of these fields, as they are written -/
def Forms : List (List UInt8) → List (List UInt8) → Prop
  | [], [] => True
  | x :: xs, f :: fs => Form x f ∧ Forms xs fs
  | _, _ => False
theorem join1 (f : List UInt8) : join [f] [44] = f := join_one f _
theorem join2 (f g : List UInt8) (fs : List (List UInt8)) : join (f :: g :: fs) [44] = f ++ 44 :: join (g :: fs) [44] := by
  rw [join_cons, join_cons]
  simp [joinTail]
theorem row_forms : ∀ (xs fs : List (List UInt8)) (n : Nat) (r : List UInt8), Forms xs fs → xs ≠ [] → xs.length ≤ n → (r = [] ∨ ∃ u, r = 13 :: 10 :: u) → row n (join fs [44] ++ r) = .ok (xs, r.drop 2)
  | [], _, _, _, _, h, _, _ => absurd rfl h
  | _ :: _, [], _, _, h, _, _, _ => h.elim
  | x :: xs, f :: fs, 0, _, _, _, h, _ => by simp at h
  | [x], [f], n + 1, r, h, _, _, hr => by
    have hs : Stop r := by exact hr.elim .inl fun h => .inr (.inr h)
    rw [join1, row_some (field_form h.1 hs)]
    rcases hr with rfl | ⟨u, rfl⟩
    · rfl
    · rw [if_neg (by simp), if_pos (show List.take 2 (13 :: 10 :: u) = [13, 10] from rfl)]
  | [_], _ :: _ :: _, _ + 1, _, h, _, _, _ => h.2.elim
  | _ :: _ :: _, [_], _ + 1, _, h, _, _, _ => h.2.elim
  | x :: y :: xs, f :: g :: fs, n + 1, r, h, _, hn, hr => by
    rw [join2, List.append_assoc, List.cons_append]
    have hs : Stop (44 :: (join (g :: fs) [44] ++ r)) := .inr (.inl ⟨_, rfl⟩)
    rw [row_some (field_form h.1 hs), if_neg (by simp), if_neg (by simp), if_pos (show List.take 1 (44 :: (join (g :: fs) [44] ++ r)) = [44] from rfl)]
    show onto x (row n (join (g :: fs) [44] ++ r)) = _
    rw [row_forms (y :: xs) (g :: fs) n r h.2 (by simp) (by simp at hn ⊢; omega) hr]
    rfl
theorem rows_step {xs fs : List (List UInt8)} {n : Nat} {u : List UInt8} (h : Forms xs fs) (hx : xs ≠ []) (h30 : xs.length ≤ 30) : rowsL (n + 1) (join fs [44] ++ 13 :: 10 :: u) = ontoR xs (rowsL n u) :=
  rowsL_on (by simp) (row_forms xs fs 30 (13 :: 10 :: u) h hx h30 (.inr ⟨u, rfl⟩))
theorem rows_last {xs fs : List (List UInt8)} {n : Nat} (h : Forms xs fs) (hx : xs ≠ []) (h30 : xs.length ≤ 30) (hne : join fs [44] ≠ []) : rowsL (n + 1) (join fs [44]) = .ok [xs] := by
  have h1 := row_forms xs fs 30 [] h hx h30 (.inl rfl)
  rw [List.append_nil] at h1
  rw [rowsL_on hne h1]
  show ontoR xs (rowsL n []) = _
  rw [rowsL_nil]
  rfl

/-! ### written -/
def needs (alone : Bool) (x : List UInt8) : Bool := alone && x.isEmpty || x.any spc
def fld (alone : Bool) (x : List UInt8) : List UInt8 := if needs alone x then 34 :: (dbl x ++ [34]) else x
theorem fld_form (alone : Bool) (x : List UInt8) : Form x (fld alone x) := by
  unfold fld
  split
  · exact form_quoted x
  · rename_i h
    refine form_bare fun c hc => ?_
    unfold needs at h
    simp only [Bool.or_eq_true, List.any_eq_true, not_or, not_exists] at h
    have := h.2 c
    simp only [not_and, Bool.not_eq_true] at this
    exact this hc
theorem flds_forms (alone : Bool) : ∀ xs : List (List UInt8), Forms xs (xs.map (fld alone))
  | [] => trivial
  | x :: xs => ⟨fld_form alone x, flds_forms alone xs⟩
def rowW (xs : List (List UInt8)) : List UInt8 := if xs = [] then [] else join (xs.map (fld (decide (xs.length = 1)))) [44] ++ [13, 10]
def writeL (m : List (List (List UInt8))) : List UInt8 := m.flatMap rowW
theorem writeL_nil : writeL [] = [] := rfl
theorem writeL_cons (x : List (List UInt8)) (m : List (List (List UInt8))) : writeL (x :: m) = rowW x ++ writeL m := rfl
theorem writeL_snoc (m : List (List (List UInt8))) (x : List (List UInt8)) : writeL (m ++ [x]) = writeL m ++ rowW x := by simp [writeL]
theorem rowW_some {xs : List (List UInt8)} (h : xs ≠ []) : rowW xs = join (xs.map (fld (decide (xs.length = 1)))) [44] ++ [13, 10] := if_neg h
theorem rows_write : ∀ (m : List (List (List UInt8))) (n : Nat), m.length ≤ n → (∀ x ∈ m, x ≠ [] ∧ x.length ≤ 30) → rowsL n (writeL m) = .ok m
  | [], n, _, _ => rowsL_nil n
  | x :: m, 0, h, _ => by simp at h
  | x :: m, n + 1, h, hm => by
    obtain ⟨h1, h2⟩ := hm x (by simp)
    rw [writeL_cons, rowW_some h1, List.append_assoc]
    show rowsL (n + 1) (join _ [44] ++ 13 :: 10 :: writeL m) = _
    rw [rows_step (flds_forms _ x) h1 h2, rows_write m n (by simp at h; omega) (fun y hy => hm y (by simp [hy]))]
    rfl

/-! ### texts -/
theorem valid_cut : ∀ (n : Nat) (a c : List UInt8) (b : UInt8), a.length ≤ n → b.toNat < 128 → valid (a ++ b :: c) = true → valid a = true ∧ valid (b :: c) = true
  | _, [], c, b, _, _, h => ⟨valid_some ch_nil, h⟩
  | 0, _ :: _, _, _, h, _, _ => by simp at h
  | n + 1, x :: a, c, b, hn, hb, h => by
    obtain ⟨p, r, e, hlt, vp, vr, hp⟩ := piece (l := (x :: a) ++ b :: c) (by simp) h
    have hpne : 1 ≤ p.length := by
      rw [e, List.length_append] at hlt
      omega
    have hple : p.length ≤ (x :: a).length := by
      rcases hp with ⟨b', rfl, _⟩ | hp
      · simp
      · rcases Nat.lt_or_ge (x :: a).length p.length with hl | hl
        · exfalso
          have h1 : ((x :: a) ++ b :: c)[(x :: a).length]? = some b := by simp
          rw [e, List.getElem?_append_left hl] at h1
          have := hp b (List.mem_of_getElem? h1)
          omega
        · exact hl
    obtain ⟨a2, ha2⟩ : ∃ a2, x :: a = p ++ a2 := by
      refine ⟨(x :: a).drop p.length, ?_⟩
      have h1 := congrArg (List.take p.length) e
      rw [List.take_append_of_le_length hple, List.take_left'  rfl] at h1
      conv => lhs; rw [← List.take_append_drop p.length (x :: a)]
      rw [h1]
    rw [ha2, List.append_assoc] at e
    have hr := (List.append_cancel_left e).symm
    rw [hr] at vr
    have hl2 : a2.length ≤ n := by
      have := congrArg List.length ha2
      rw [List.length_append] at this
      simp at this hn
      omega
    obtain ⟨h1, h2⟩ := valid_cut n a2 c b hl2 hb vr
    rw [ha2]
    exact ⟨(valid_append vp h1).1, h2⟩
theorem valid_tail {b : UInt8} {c : List UInt8} (hb : b.toNat < 128) (h : valid (b :: c) = true) : valid c = true := by
  obtain ⟨p, r, e, hlt, vp, vr, hp⟩ := piece (l := b :: c) (by simp) h
  rcases hp with ⟨b', rfl, _⟩ | hp
  · injection e with e1 e2
    rw [e2]
    exact vr
  · cases p with
    | nil => rw [List.nil_append] at e; rw [e] at hlt; omega
    | cons x p =>
      injection e with e1 e2
      have := hp x (by simp)
      rw [← e1] at this
      omega
theorem valid_unq : ∀ (n : Nat) (l x r : List UInt8), l.length ≤ n → valid l = true → unq l = some (x, r) → valid x = true ∧ valid r = true
  | _, [], _, _, _, _, h => by rw [unq_nil] at h; cases h
  | 0, _ :: _, _, _, hn, _, _ => by simp at hn
  | n + 1, b :: t, x, r, hn, hv, h => by
    by_cases hb : b = 34
    · subst hb
      have vt := valid_tail (by decide) hv
      cases t with
      | nil => rw [unq_end] at h; injection h with h; injection h with h1 h2; subst h1; subst h2; exact ⟨valid_some ch_nil, valid_some ch_nil⟩
      | cons c u =>
        by_cases hc : c = 34
        · subst hc
          rw [unq_two] at h
          obtain ⟨⟨y, s⟩, h1, h2⟩ := Option.map_eq_some_iff.1 h
          injection h2 with h2 h3
          subst h2; subst h3
          obtain ⟨k1, k2⟩ := valid_unq n u y s (by simp at hn; omega) (valid_tail (by decide) vt) h1
          exact ⟨(valid_append (a := [34]) (by decide +kernel) k1).1, k2⟩
        · rw [unq_stop _ hc] at h
          injection h with h
          injection h with h1 h2
          subst h1; subst h2
          exact ⟨valid_some ch_nil, vt⟩
    · obtain ⟨p, s, e, hlt, vp, vs, hp⟩ := piece (l := b :: t) (by simp) hv
      have hq : ∀ c ∈ p, c ≠ 34 := by
        intro c hc hc34
        rcases hp with ⟨b', rfl, _⟩ | hp
        · injection e with e1 e2
          rw [List.mem_singleton] at hc
          exact hb (by rw [e1, ← hc, hc34])
        · have := hp c hc
          rw [hc34] at this
          exact absurd this (by decide)
      rw [e, unq_run p s hq] at h
      obtain ⟨⟨y, z⟩, h1, h2⟩ := Option.map_eq_some_iff.1 h
      injection h2 with h2 h3
      subst h2; subst h3
      obtain ⟨k1, k2⟩ := valid_unq n s y z (by simp at hn hlt; omega) vs h1
      exact ⟨(valid_append vp k1).1, k2⟩
theorem valid_field {l x r : List UInt8} (hv : valid l = true) (h : field l = some (x, r)) : valid x = true ∧ valid r = true := by
  by_cases hl : l.take 1 = [34]
  · unfold field at h
    rw [if_pos hl] at h
    cases l with
    | nil => simp at hl
    | cons b t =>
      simp at hl
      subst hl
      exact valid_unq _ t x r (Nat.le_refl _) (valid_tail (by decide) hv) h
  · rw [field_plain hl] at h
    injection h with h
    injection h with h1 h2
    have e := List.takeWhile_append_dropWhile (p := fun b => !spc b) (l := l)
    rw [h1, h2] at e
    cases r with
    | nil => rw [List.append_nil] at e; rw [e]; exact ⟨hv, valid_some ch_nil⟩
    | cons b c =>
      have hb : spc b = true := by
        have := List.head_dropWhile_not (fun b => !spc b) (l := l) (by rw [h2]; simp)
        simp only [h2] at this
        simpa using this
      have hb2 : b.toNat < 128 := by
        unfold spc at hb
        simp only [Bool.or_eq_true, beq_iff_eq] at hb
        rcases hb with ((rfl | rfl) | rfl) | rfl <;> decide
      rw [← e] at hv
      exact valid_cut _ x c b (Nat.le_refl _) hb2 hv
theorem row_valid : ∀ (n : Nat) (l r : List UInt8) (xs : List (List UInt8)), valid l = true → row n l = .ok (xs, r) → (∀ x ∈ xs, valid x = true) ∧ valid r = true ∧ xs ≠ [] ∧ xs.length ≤ n ∧ (xs.map List.length).sum + r.length ≤ l.length
  | 0, _, _, _, _, h => by rw [row_zero] at h; cases h
  | n + 1, l, r, xs, hv, h => by
    cases hf : field l with
    | none => rw [row_none hf] at h; cases h
    | some p =>
      obtain ⟨x, s⟩ := p
      obtain ⟨vx, vs⟩ := valid_field hv hf
      have hlen := field_len hf
      rw [row_some hf] at h
      split at h
      · injection h with h; injection h with h1 h2
        subst h1; subst h2
        refine ⟨fun y hy => ?_, valid_some ch_nil, by simp, by simp, by simp; omega⟩
        rw [List.mem_singleton] at hy; subst hy; exact vx
      split at h
      · rename_i h0 h2
        injection h with h; injection h with h1 h3
        subst h1; subst h3
        refine ⟨fun y hy => ?_, ?_, by simp, by simp, by simp; omega⟩
        · rw [List.mem_singleton] at hy; subst hy; exact vx
        · match s, h2 with
          | a :: b :: s, h2 =>
            simp at h2
            obtain ⟨rfl, rfl⟩ := h2
            exact valid_tail (by decide) (valid_tail (by decide) vs)
      split at h
      · rename_i h0 h2 h3
        have vd : valid (s.drop 1) = true := by
          match s, h3 with
          | a :: s, h3 =>
            simp at h3
            subst h3
            exact valid_tail (by decide) vs
        cases hr : row n (s.drop 1) with
        | error e => rw [hr] at h; cases h
        | ok q =>
          obtain ⟨ys, z⟩ := q
          rw [hr] at h
          injection h with h
          injection h with h1 h4
          subst h1; subst h4
          obtain ⟨k1, k2, k3, k4, k5⟩ := row_valid n _ _ _ vd hr
          rw [List.length_drop] at k5
          refine ⟨fun y hy => ?_, k2, by simp, by simp; omega, by simp; omega⟩
          rcases List.mem_cons.1 hy with rfl | hy
          · exact vx
          · exact k1 y hy
      · cases h
theorem rows_valid : ∀ (n : Nat) (l : List UInt8) (m : List (List (List UInt8))), valid l = true → rowsL n l = .ok m →
    m.length ≤ n ∧ (m.map fun xs => (xs.map List.length).sum).sum ≤ l.length ∧ ∀ xs ∈ m, xs ≠ [] ∧ xs.length ≤ 30 ∧ ∀ x ∈ xs, valid x = true
  | 0, l, m, _, h => by
    by_cases hl : l = []
    · subst hl; rw [rowsL_nil] at h; injection h with h; subst h; simp
    · rw [rowsL_full hl] at h; cases h
  | n + 1, l, m, hv, h => by
    by_cases hl : l = []
    · subst hl; rw [rowsL_nil] at h; injection h with h; subst h; simp
    · cases hr : row 30 l with
      | error e => rw [rowsL_bad hl hr] at h; cases h
      | ok q =>
        obtain ⟨xs, r⟩ := q
        rw [rowsL_on hl hr] at h
        obtain ⟨k1, k2, k3, k4, k5⟩ := row_valid _ _ _ _ hv hr
        cases hs : rowsL n r with
        | error e => rw [hs] at h; cases h
        | ok ys =>
          rw [hs] at h
          injection h with h
          subst h
          obtain ⟨j1, j2, j3⟩ := rows_valid n r ys k2 hs
          refine ⟨by simp; omega, by simp; omega, fun y hy => ?_⟩
          rcases List.mem_cons.1 hy with rfl | hy
          · exact ⟨k3, k4, k1⟩
          · exact j3 y hy
theorem dbl_valid : ∀ (n : Nat) (l : List UInt8), l.length ≤ n → valid l = true → valid (dbl l) = true
  | _, [], _, h => h
  | 0, _ :: _, h, _ => by simp at h
  | n + 1, b :: t, hn, hv => by
    obtain ⟨p, r, e, hlt, vp, vr, hp⟩ := piece (l := b :: t) (by simp) hv
    rw [e, dbl_append]
    refine (valid_append ?_ (dbl_valid n r (by simp at hn hlt; omega) vr)).1
    rcases hp with ⟨b', rfl, _⟩ | hp
    · rw [dbl_cons, dbl_nil, List.append_nil]
      split
      · decide +kernel
      · exact vp
    · rw [dbl_none]
      · exact vp
      · intro c hc h34
        have := hp c hc
        rw [h34] at this
        exact absurd this (by decide)
theorem quoted_valid {x : List UInt8} (h : valid x = true) : valid (34 :: (dbl x ++ [34])) = true :=
  (valid_append (a := [34]) (by decide +kernel) (valid_append (dbl_valid _ x (Nat.le_refl _) h) (b := [34]) (by decide +kernel)).1).1
theorem fld_valid {alone : Bool} {x : List UInt8} (h : valid x = true) : valid (fld alone x) = true := by
  unfold fld
  split
  · exact quoted_valid h
  · exact h
theorem join_valid : ∀ fs : List (List UInt8), (∀ f ∈ fs, valid f = true) → valid (join fs [44]) = true
  | [], _ => valid_some ch_nil
  | [f], h => by rw [join1]; exact h f (by simp)
  | f :: g :: fs, h => by
    rw [join2]
    exact (valid_append (h f (by simp)) (valid_append (a := [44]) (by decide +kernel) (join_valid (g :: fs) (fun x hx => h x (by simp [hx])))).1).1
theorem rowW_valid {xs : List (List UInt8)} (h : ∀ x ∈ xs, valid x = true) : valid (rowW xs) = true := by
  by_cases hx : xs = []
  · subst hx; exact valid_some ch_nil
  · rw [rowW_some hx]
    refine (valid_append (join_valid _ fun f hf => ?_) (by decide +kernel)).1
    obtain ⟨x, hx, rfl⟩ := List.mem_map.1 hf
    exact fld_valid (h x hx)
theorem writeL_valid : ∀ m : List (List (List UInt8)), (∀ xs ∈ m, ∀ x ∈ xs, valid x = true) → valid (writeL m) = true
  | [], _ => valid_some ch_nil
  | x :: m, h => by
    rw [writeL_cons]
    exact (valid_append (rowW_valid (h x (by simp))) (writeL_valid m fun y hy => h y (by simp [hy]))).1
theorem fld_len (alone : Bool) (x : List UInt8) : (fld alone x).length ≤ 2 * x.length + 2 := by
  have := dbl_len x
  unfold fld
  split
  · simp; omega
  · omega
theorem joinF_len (alone : Bool) : ∀ xs : List (List UInt8), (join (xs.map (fld alone)) [44]).length ≤ 2 * (xs.map List.length).sum + 3 * xs.length
  | [] => by simp [join_nil]
  | [x] => by
    have := fld_len alone x
    rw [List.map_singleton, join1]
    simp
    omega
  | x :: y :: xs => by
    have h1 := fld_len alone x
    have h2 := joinF_len alone (y :: xs)
    rw [List.map_cons, List.map_cons, join2, ← List.map_cons (f := fld alone)]
    simp only [List.length_append, List.length_cons, List.map_cons, List.sum_cons] at h2 ⊢
    omega
theorem rowW_len (xs : List (List UInt8)) : (rowW xs).length ≤ 2 * (xs.map List.length).sum + 3 * xs.length + 2 := by
  by_cases hx : xs = []
  · subst hx; simp [rowW]
  · rw [rowW_some hx]
    have := joinF_len (decide (xs.length = 1)) xs
    simp
    omega
/-- what the fields of some rows come to, with three for each row and each field -/
def heft (m : List (List (List UInt8))) : Nat := (m.map fun xs => 3 + (xs.map fun x => 3 + x.length).sum).sum
theorem sum3 : ∀ xs : List (List UInt8), (xs.map fun x => 3 + x.length).sum = 3 * xs.length + (xs.map List.length).sum
  | [] => rfl
  | x :: xs => by
    have := sum3 xs
    simp only [List.map_cons, List.sum_cons, List.length_cons] at this ⊢
    omega
theorem writeL_len : ∀ m : List (List (List UInt8)), (writeL m).length ≤ 2 * heft m
  | [] => by simp [writeL, heft]
  | x :: m => by
    have h1 := rowW_len x
    have h2 := writeL_len m
    have h3 := sum3 x
    rw [writeL_cons, List.length_append]
    simp only [heft, List.map_cons, List.sum_cons] at h2 ⊢
    omega
/-- what is written is read -/
theorem read_write {m : List (List (List UInt8))} (h200 : m.length ≤ 200) (hm : ∀ xs ∈ m, xs ≠ [] ∧ xs.length ≤ 30 ∧ ∀ x ∈ xs, valid x = true) (hl : (writeL m).length ≤ 20000) : readL (writeL m) = .ok m := by
  rw [readL_text hl (writeL_valid m fun xs hxs => (hm xs hxs).2.2)]
  exact rows_write m 200 h200 fun x hx => ⟨(hm x hx).1, (hm x hx).2.1⟩
theorem read_good {l : List UInt8} {m : List (List (List UInt8))} (h : readL l = .ok m) : l.length ≤ 20000 ∧ m.length ≤ 200 ∧ (m.map fun xs => (xs.map List.length).sum).sum ≤ l.length ∧ ∀ xs ∈ m, xs ≠ [] ∧ xs.length ≤ 30 ∧ ∀ x ∈ xs, valid x = true := by
  unfold readL at h
  split at h
  · cases h
  split at h
  · cases h
  · rename_i h1 h2
    obtain ⟨k1, k2, k3⟩ := rows_valid 200 l m (by simpa using h2) h
    exact ⟨by omega, k1, k2, k3⟩
end Go.Proofs.YtakfcfjamgaekaaDoor.Tx
