/-
  PLAIN LISTS OF BYTES: a text as a value, made plain, and split, as the document's words have it. Nothing of any program.
-/
import Derived.Test.YtjdpdkghfbaddaaDoorFld
namespace Go.Proofs.YtjdpdkghfbaddaaDoor.Tx

def valB (c : UInt8) : List UInt8 := if c = 92 ∨ c = 44 ∨ c = 59 then [92, c] else if c = 10 then [92, 110] else if c = 13 then [] else [c]
/-- A text as a value. -/
def val (l : List UInt8) : List UInt8 := l.flatMap valB
theorem val_nil : val [] = [] := rfl
theorem val_cons (c : UInt8) (t : List UInt8) : val (c :: t) = valB c ++ val t := rfl
theorem val_snoc (l : List UInt8) (c : UInt8) : val (l ++ [c]) = val l ++ valB c := by simp [val]
theorem valB_len (c : UInt8) : (valB c).length ≤ 2 := by
  unfold valB
  split
  · simp
  split
  · simp
  split <;> simp
theorem val_len : ∀ l : List UInt8, (val l).length ≤ 2 * l.length
  | [] => by simp [val_nil]
  | c :: t => by
    have := valB_len c
    have := val_len t
    rw [val_cons, List.length_append, List.length_cons]; omega
/-- What a "\" makes of the byte behind it. -/
def unb (c : UInt8) : Option UInt8 := if c = 92 ∨ c = 44 ∨ c = 59 then some c else if c = 110 ∨ c = 78 then some 10 else none
/-- The text that a value is. -/
def plain : List UInt8 → Option (List UInt8)
  | [] => some []
  | c :: t => if c = 92 then (match t with
    | [] => none
    | d :: u => match unb d with
      | some x => (plain u).map (x :: ·)
      | none => none) else (plain t).map (c :: ·)
theorem plain_nil : plain [] = some [] := rfl
theorem plain_end : plain [92] = none := by unfold plain; rw [if_pos rfl]
theorem plain_bad {d : UInt8} (u : List UInt8) (h : unb d = none) : plain (92 :: d :: u) = none := by
  unfold plain
  rw [if_pos rfl]
  simp only [h]
theorem plain_esc {d x : UInt8} (u : List UInt8) (h : unb d = some x) : plain (92 :: d :: u) = (plain u).map (x :: ·) := by
  conv => lhs; unfold plain
  rw [if_pos rfl]
  simp only [h]
theorem plain_on {c : UInt8} (t : List UInt8) (h : c ≠ 92) : plain (c :: t) = (plain t).map (c :: ·) := by
  conv => lhs; unfold plain
  rw [if_neg h]
theorem plain_run : ∀ (p t : List UInt8), (∀ c ∈ p, c ≠ 92) → plain (p ++ t) = (plain t).map (p ++ ·)
  | [], t, _ => by rw [List.nil_append]; cases plain t <;> rfl
  | c :: p, t, h => by
    rw [List.cons_append, plain_on _ (h c (by simp)), plain_run p t (fun d hd => h d (by simp [hd]))]
    cases plain t <;> rfl
theorem plain_len : ∀ (n : Nat) (l x : List UInt8), l.length ≤ n → plain l = some x → x.length ≤ l.length
  | n, [], x, _, h => by
    obtain rfl : [] = x := Option.some.inj h
    simp
  | 0, _ :: _, _, h, _ => by simp at h
  | n + 1, c :: t, x, hn, h => by
    by_cases hc : c = 92
    · subst hc
      cases t with
      | nil => rw [plain_end] at h; cases h
      | cons d u =>
        cases hu : unb d with
        | none => rw [plain_bad u hu] at h; cases h
        | some y =>
          rw [plain_esc u hu] at h
          cases hp : plain u with
          | none => rw [hp] at h; cases h
          | some z =>
            rw [hp] at h
            obtain rfl : y :: z = x := Option.some.inj h
            have := plain_len n u z (by simp at hn; omega) hp
            simp; omega
    · rw [plain_on t hc] at h
      cases hp : plain t with
      | none => rw [hp] at h; cases h
      | some z =>
        rw [hp] at h
        obtain rfl : c :: z = x := Option.some.inj h
        have := plain_len n t z (by simpa using hn) hp
        simpa using this
theorem plain_valB (c : UInt8) (t : List UInt8) : plain (valB c ++ t) = (plain t).map ((if c = 13 then [] else [c]) ++ ·) := by
  unfold valB
  by_cases h1 : c = 92 ∨ c = 44 ∨ c = 59
  · rw [if_pos h1]
    have h2 : c ≠ 13 := by rcases h1 with rfl | rfl | rfl <;> decide
    show plain (92 :: c :: t) = _
    rw [plain_esc t (by unfold unb; rw [if_pos h1]), if_neg h2]
    rfl
  rw [if_neg h1]
  by_cases h2 : c = 10
  · subst h2
    rw [if_pos rfl, if_neg (by decide)]
    show plain (92 :: 110 :: t) = _
    rw [plain_esc t (show unb 110 = some 10 by decide)]
    rfl
  rw [if_neg h2]
  by_cases h3 : c = 13
  · subst h3
    show plain t = (plain t).map ([] ++ ·)
    cases plain t <;> rfl
  · simp only [if_neg h3]
    show plain (c :: t) = _
    rw [plain_on t (fun e => h1 (.inl e))]
    rfl
/-- What a value comes back as: all but 13. -/
theorem plain_val : ∀ l : List UInt8, plain (val l) = some (l.filter (fun c => !(c == 13)))
  | [] => rfl
  | c :: t => by
    rw [val_cons, plain_valB, plain_val t]
    by_cases h : c = 13
    · subst h; rfl
    · have hb : (!(c == 13)) = true := by simpa using h
      rw [if_neg h, List.filter_cons, if_pos hb]
      rfl

/-! ### what stands between separators -/
def spl (sep : UInt8) : Bool → List UInt8 → List UInt8 → List (List UInt8)
  | _, cur, [] => [cur]
  | e, cur, c :: t => if c = sep ∧ e = false then cur :: spl sep (c == 92 && !e) [] t else spl sep (c == 92 && !e) (cur ++ [c]) t
theorem spl_nil (sep : UInt8) (e : Bool) (cur : List UInt8) : spl sep e cur [] = [cur] := rfl
theorem spl_cut {sep : UInt8} {e : Bool} (cur : List UInt8) {c : UInt8} (t : List UInt8) (h : c = sep ∧ e = false) : spl sep e cur (c :: t) = cur :: spl sep (c == 92 && !e) [] t := by
  conv => lhs; unfold spl
  rw [if_pos h]
theorem spl_on {sep : UInt8} {e : Bool} (cur : List UInt8) {c : UInt8} (t : List UInt8) (h : ¬ (c = sep ∧ e = false)) : spl sep e cur (c :: t) = spl sep (c == 92 && !e) (cur ++ [c]) t := by
  conv => lhs; unfold spl
  rw [if_neg h]
theorem spl_len (sep : UInt8) : ∀ (l : List UInt8) (e : Bool) (cur : List UInt8), 1 ≤ (spl sep e cur l).length ∧ (spl sep e cur l).length ≤ l.length + 1
  | [], _, _ => by simp [spl_nil]
  | c :: t, e, cur => by
    by_cases h : c = sep ∧ e = false
    · have := spl_len sep t (c == 92 && !e) []
      rw [spl_cut cur t h]
      simp; omega
    · have := spl_len sep t (c == 92 && !e) (cur ++ [c])
      rw [spl_on cur t h]
      simp; omega
/-- the marks of the package's own gathering -/
def cutsAt (sep : UInt8) : Bool → List UInt8 → List Bool
  | _, [] => []
  | e, c :: t => (c == sep && !e) :: cutsAt sep (c == 92 && !e) t
theorem cutsAt_len (sep : UInt8) : ∀ (l : List UInt8) (e : Bool), (cutsAt sep e l).length = l.length
  | [], _ => rfl
  | c :: t, e => by unfold cutsAt; simp [cutsAt_len sep t]
/-- all but the first one without their first byte -/
def tails : List (List UInt8) → List (List UInt8)
  | [] => []
  | h :: t => h :: t.map List.tail
theorem spl_gat_in (sep : UInt8) : ∀ (l : List UInt8) (e : Bool) (x : UInt8) (cur : List UInt8), (gat (x :: cur) l (cutsAt sep e l)).map List.tail = spl sep e cur l
  | [], e, x, cur => by rw [gat_nil]; rfl
  | c :: t, e, x, cur => by
    unfold cutsAt
    by_cases h : c = sep ∧ e = false
    · rw [spl_cut cur t h, show (c == sep && !e) = true by rw [h.1, h.2]; simp, gat_true, List.map_cons, spl_gat_in sep t _ c []]
      rfl
    · have hb : (c == sep && !e) = false := by
        rw [Bool.eq_false_iff]
        intro hb
        rw [Bool.and_eq_true, beq_iff_eq, Bool.not_eq_true'] at hb
        exact h hb
      rw [spl_on cur t h, hb, gat_false]
      exact spl_gat_in sep t _ x (cur ++ [c])
theorem spl_gat (sep : UInt8) : ∀ (l : List UInt8) (e : Bool) (cur : List UInt8), tails (gat cur l (cutsAt sep e l)) = spl sep e cur l
  | [], e, cur => by rw [gat_nil]; rfl
  | c :: t, e, cur => by
    unfold cutsAt
    by_cases h : c = sep ∧ e = false
    · rw [spl_cut cur t h, show (c == sep && !e) = true by rw [h.1, h.2]; simp, gat_true]
      show cur :: (gat [c] t _).map List.tail = _
      rw [spl_gat_in sep t _ c []]
    · have hb : (c == sep && !e) = false := by
        rw [Bool.eq_false_iff]
        intro hb
        rw [Bool.and_eq_true, beq_iff_eq, Bool.not_eq_true'] at hb
        exact h hb
      rw [spl_on cur t h, hb, gat_false]
      exact spl_gat sep t _ (cur ++ [c])
def split1 (sep : UInt8) (l : List UInt8) : List (List UInt8) := spl sep false [] l
/-- a value has no separator that is not escaped -/
theorem spl_valB {sep : UInt8} (hs : sep = 44 ∨ sep = 59) (c : UInt8) (cur t : List UInt8) : spl sep false cur (valB c ++ t) = spl sep false (cur ++ valB c) t := by
  have h92 : (92 : UInt8) ≠ sep := by rcases hs with rfl | rfl <;> decide
  unfold valB
  by_cases h1 : c = 92 ∨ c = 44 ∨ c = 59
  · rw [if_pos h1]
    show spl sep false cur (92 :: c :: t) = _
    rw [spl_on cur _ (fun h => h92 h.1)]
    show spl sep true (cur ++ [92]) (c :: t) = _
    rw [spl_on _ _ (fun h => by cases h.2)]
    simp
  rw [if_neg h1]
  by_cases h2 : c = 10
  · rw [if_pos h2]
    show spl sep false cur (92 :: 110 :: t) = _
    rw [spl_on cur _ (fun h => h92 h.1)]
    show spl sep true (cur ++ [92]) (110 :: t) = _
    rw [spl_on _ _ (fun h => by cases h.2)]
    simp
  rw [if_neg h2]
  by_cases h3 : c = 13
  · rw [if_pos h3]; simp
  · rw [if_neg h3]
    show spl sep false cur (c :: t) = _
    rw [spl_on cur _ (fun h => h1 (by rcases hs with rfl | rfl <;> simp [h.1]))]
    have : (c == 92 && !false) = false := by
      have : c ≠ 92 := fun e => h1 (.inl e)
      simp [this]
    rw [this]
theorem spl_val {sep : UInt8} (hs : sep = 44 ∨ sep = 59) : ∀ (l cur t : List UInt8), spl sep false cur (val l ++ t) = spl sep false (cur ++ val l) t
  | [], cur, t => by simp [val_nil]
  | c :: l, cur, t => by
    rw [val_cons, List.append_assoc, spl_valB hs, spl_val hs l]
    simp
/-- values, one behind the other, with separators between, are split so -/
def sepd (sep : UInt8) : List (List UInt8) → List UInt8
  | [] => []
  | [x] => x
  | x :: y :: r => x ++ sep :: sepd sep (y :: r)
theorem spl_sepd {sep : UInt8} (hs : sep = 44 ∨ sep = 59) : ∀ (xs : List (List UInt8)) (x cur : List UInt8), spl sep false cur (sepd sep ((x :: xs).map val)) = (cur ++ val x) :: xs.map val
  | [], x, cur => by
    have := spl_val hs x cur []
    rw [List.append_nil, spl_nil] at this
    exact this
  | y :: xs, x, cur => by
    show spl sep false cur (val x ++ sep :: sepd sep ((y :: xs).map val)) = _
    rw [spl_val hs, spl_cut _ _ ⟨rfl, rfl⟩]
    have e : (sep == 92 && !false) = false := by rcases hs with rfl | rfl <;> decide
    rw [e, spl_sepd hs xs y []]
    rfl
theorem sepd_snoc (sep : UInt8) : ∀ (xs : List (List UInt8)) (y : List UInt8), xs ≠ [] → sepd sep (xs ++ [y]) = sepd sep xs ++ sep :: y
  | [], _, h => absurd rfl h
  | [x], y, _ => by simp [sepd]
  | x :: z :: r, y, _ => by
    show x ++ sep :: sepd sep ((z :: r) ++ [y]) = (x ++ sep :: sepd sep (z :: r)) ++ sep :: y
    rw [sepd_snoc sep (z :: r) y (by simp)]
    simp
end Go.Proofs.YtjdpdkghfbaddaaDoor.Tx
