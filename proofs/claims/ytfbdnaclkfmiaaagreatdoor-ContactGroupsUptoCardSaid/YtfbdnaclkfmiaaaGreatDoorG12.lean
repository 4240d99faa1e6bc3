import Derived.Test.YtfbdnaclkfmiaaaGreatDoorG10
import Derived.Lib.Join
import Derived.Lib.SplitLaws
import Derived.Test.YtfbdnaclkfmiaaaGreatDoorG11
import Derived.Test.YtfbdnaclkfmiaaaGreatDoorG02
section
/- what is reached of it -/
namespace Go.Proofs.YtfbdnaclkfmiaaaGreatDoor.Tx
open Go.Lib
def chsF : Nat → List UInt8 → List (List UInt8)
  | 0, _ => []
  | f + 1, l => if l = [] then [] else l.take (dc l).2 :: chsF f (l.drop (dc l).2)
def chs (l : List UInt8) : List (List UInt8) := chsF l.length l
theorem chsF_nil (f : Nat) : chsF f [] = [] := by cases f <;> rfl
theorem chsF_succ (f : Nat) {l : List UInt8} (h : l ≠ []) : chsF (f + 1) l = l.take (dc l).2 :: chsF f (l.drop (dc l).2) := if_neg h
theorem chsF_enough : ∀ (f g : Nat) (l : List UInt8), l.length ≤ f → l.length ≤ g → chsF f l = chsF g l
  | f, g, [], _, _ => by rw [chsF_nil, chsF_nil]
  | 0, _, _ :: _, h, _ => by simp at h
  | _ + 1, 0, _ :: _, _, h => by simp at h
  | f + 1, g + 1, a :: l, hf, hg => by
    have := dc_ge1 (a :: l)
    rw [chsF_succ f (by simp), chsF_succ g (by simp), chsF_enough f g _ (by rw [List.length_drop]; simp at hf ⊢; omega) (by rw [List.length_drop]; simp at hg ⊢; omega)]
theorem chs_nil : chs [] = [] := rfl
theorem chs_step {l : List UInt8} (hl : l ≠ []) : chs l = l.take (dc l).2 :: chs (l.drop (dc l).2) := by
  cases l with
  | nil => exact absurd rfl hl
  | cons a t =>
    have := dc_ge1 (a :: t)
    unfold chs
    rw [List.length_cons, chsF_succ _ hl, chsF_enough t.length _ _ (by rw [List.length_drop]; simp; omega) (Nat.le_refl _)]
theorem len_ind {p : List UInt8 → Prop} (h : ∀ l, (∀ r : List UInt8, r.length < l.length → p r) → p l) (l : List UInt8) : p l := by
  have : ∀ n, ∀ l : List UInt8, l.length < n → p l := by
    intro n
    induction n with
    | zero => intro l hl; omega
    | succ n ih => intro l hl; exact h l (fun r hr => ih r (by omega))
  exact this (l.length + 1) l (Nat.lt_succ_self _)
theorem drop_less {l : List UInt8} (hl : l ≠ []) : (l.drop (dc l).2).length < l.length := by
  have := dc_ge1 l
  have : 0 < l.length := by cases l with | nil => exact absurd rfl hl | cons => simp
  rw [List.length_drop]; omega
theorem chs_flat (l : List UInt8) : (chs l).flatten = l := by
  induction l using len_ind with
  | h l ih =>
    by_cases hl : l = []
    · subst hl; rfl
    · rw [chs_step hl, List.flatten_cons, ih _ (drop_less hl), List.take_append_drop]
theorem chs_len (l : List UInt8) : (chs l).length ≤ l.length := by
  induction l using len_ind with
  | h l ih =>
    by_cases hl : l = []
    · subst hl; exact Nat.le_refl _
    · have h1 := drop_less hl
      have h2 := ih _ h1
      rw [chs_step hl, List.length_cons]; omega
theorem chs_size (l : List UInt8) : ∀ c ∈ chs l, 1 ≤ c.length ∧ c.length ≤ 4 := by
  induction l using len_ind with
  | h l ih =>
    by_cases hl : l = []
    · subst hl; intro c hc; cases hc
    · intro c hc
      rw [chs_step hl, List.mem_cons] at hc
      rcases hc with rfl | hc
      · have h1 := dc_ge1 l
        have h2 := dc_le hl
        have h3 := dc_le4 l
        rw [List.length_take]; omega
      · exact ih _ (drop_less hl) c hc

/-- The rows that characters make, where the open one is cur, and has room for so many bytes. -/
def frows : Nat → List UInt8 → List (List UInt8) → List (List UInt8)
  | _, cur, [] => [cur]
  | room, cur, c :: t => if room < c.length then cur :: frows (74 - c.length) (32 :: c) t else frows (room - c.length) (cur ++ c) t
def rowsOf (l : List UInt8) : List (List UInt8) := frows 75 [] (chs l)
def ends (rs : List (List UInt8)) : List UInt8 := rs.flatMap (· ++ [13, 10])
def foldOne (l : List UInt8) : List UInt8 := ends (rowsOf l)
def foldL (m : List (List UInt8)) : List UInt8 := m.flatMap foldOne
theorem ends_nil : ends [] = [] := rfl
theorem ends_cons (r : List UInt8) (t : List (List UInt8)) : ends (r :: t) = r ++ 13 :: 10 :: ends t := by simp [ends]
theorem ends_append (a b : List (List UInt8)) : ends (a ++ b) = ends a ++ ends b := by simp [ends]
/-- The same, as the document's own loop goes. -/
def fr : Nat → List (List UInt8) → List UInt8
  | _, [] => [13, 10]
  | room, c :: t => if room < c.length then [13, 10, 32] ++ c ++ fr (74 - c.length) t else c ++ fr (room - c.length) t
theorem frows_fr : ∀ (cs : List (List UInt8)) (room : Nat) (cur : List UInt8), ends (frows room cur cs) = cur ++ fr room cs
  | [], _, cur => by simp [frows, fr, ends]
  | c :: t, room, cur => by
    unfold frows fr
    by_cases h : room < c.length
    · rw [if_pos h, if_pos h, ends_cons, frows_fr t]
      simp
    · rw [if_neg h, if_neg h, frows_fr t]
      simp
theorem foldOne_fr (l : List UInt8) : foldOne l = fr 75 (chs l) := by
  unfold foldOne rowsOf
  rw [frows_fr, List.nil_append]
theorem fr_nil (room : Nat) : fr room [] = [13, 10] := rfl
theorem fr_cut {room : Nat} {c : List UInt8} (t : List (List UInt8)) (h : room < c.length) : fr room (c :: t) = [13, 10, 32] ++ c ++ fr (74 - c.length) t := by
  rw [fr, if_pos h]
theorem fr_on {room : Nat} {c : List UInt8} (t : List (List UInt8)) (h : ¬ room < c.length) : fr room (c :: t) = c ++ fr (room - c.length) t := by
  rw [fr, if_neg h]
/-- rows are not much more than the line -/
theorem fr_size : ∀ (cs : List (List UInt8)) (room : Nat), (∀ c ∈ cs, 1 ≤ c.length) → (fr room cs).length ≤ 4 * cs.flatten.length + 2
  | [], _, _ => by simp [fr]
  | c :: t, room, h => by
    have h1 := h c (by simp)
    have ih := fun r => fr_size t r (fun d hd => h d (by simp [hd]))
    unfold fr
    split
    · have := ih (74 - c.length)
      simp only [List.length_append, List.flatten_cons, List.length_cons, List.length_nil]
      omega
    · have := ih (room - c.length)
      simp only [List.length_append, List.flatten_cons]
      omega
theorem foldOne_size (l : List UInt8) : (foldOne l).length ≤ 4 * l.length + 2 := by
  have h := fr_size (chs l) 75 (fun c hc => (chs_size l c hc).1)
  rw [chs_flat] at h
  rw [foldOne_fr]
  exact h

section
variable {α : Type}
/-- Rows of parts: where the mark is true one begins. -/
def gat : List α → List α → List Bool → List (List α)
  | cur, [], _ => [cur]
  | cur, _ :: _, [] => [cur]
  | cur, p :: ps, b :: bs => if b then cur :: gat [p] ps bs else gat (cur ++ [p]) ps bs
theorem gat_nil (cur : List α) (bs : List Bool) : gat cur [] bs = [cur] := by cases bs <;> rfl
theorem gat_true (cur : List α) (p : α) (ps : List α) (bs : List Bool) : gat cur (p :: ps) (true :: bs) = cur :: gat [p] ps bs := rfl
theorem gat_false (cur : List α) (p : α) (ps : List α) (bs : List Bool) : gat cur (p :: ps) (false :: bs) = gat (cur ++ [p]) ps bs := rfl
/-- the same by places: where each row begins, and ends -/
def ivs : Nat → Nat → List Bool → List (Nat × Nat)
  | o, k, [] => [(o, k)]
  | o, k, b :: bs => if b then (o, k) :: ivs k (k + 1) bs else ivs o (k + 1) bs
def piece2 (ps : List α) (x : Nat × Nat) : List α := (ps.drop x.1).take (x.2 - x.1)
theorem take_snoc {ps : List α} {p : α} {t : List α} {o k : Nat} (h : ps.drop k = p :: t) (ho : o ≤ k) : (ps.drop o).take (k + 1 - o) = (ps.drop o).take (k - o) ++ [p] := by
  have hk : (ps.drop o)[k - o]? = some p := by
    rw [List.getElem?_drop, show o + (k - o) = k by omega]
    have := congrArg List.head? h
    simpa using this
  rw [show k + 1 - o = k - o + 1 by omega, List.take_add_one, hk]
  rfl
theorem gat_ivs : ∀ (bs : List Bool) (ps rest cur : List α) (o k : Nat), ps.drop k = rest → rest.length = bs.length → o ≤ k → cur = (ps.drop o).take (k - o) → gat cur rest bs = (ivs o k bs).map (piece2 ps)
  | [], ps, rest, cur, o, k, h1, h2, h3, h4 => by
    obtain rfl : rest = [] := List.eq_nil_of_length_eq_zero h2
    rw [gat_nil, h4]
    rfl
  | b :: bs, ps, [], cur, o, k, h1, h2, h3, h4 => by simp at h2
  | b :: bs, ps, p :: t, cur, o, k, h1, h2, h3, h4 => by
    have hd : ps.drop (k + 1) = t := by
      have := congrArg (List.drop 1) h1
      simpa [List.drop_drop] using this
    cases b with
    | true =>
      rw [gat_true, gat_ivs bs ps t [p] k (k + 1) hd (by simpa using h2) (by omega) (by rw [take_snoc h1 (Nat.le_refl _)]; simp), h4]
      rfl
    | false =>
      rw [gat_false, gat_ivs bs ps t (cur ++ [p]) o (k + 1) hd (by simpa using h2) (by omega) (by rw [h4, take_snoc h1 h3])]
      rfl
theorem gat_all (ps : List α) (bs : List Bool) (h : ps.length = bs.length) : gat [] ps bs = (ivs 0 0 bs).map (piece2 ps) :=
  gat_ivs bs ps ps [] 0 0 rfl h (Nat.le_refl _) rfl
theorem ivs_ok : ∀ (bs : List Bool) (o k : Nat), o ≤ k → ∀ x ∈ ivs o k bs, x.1 ≤ x.2 ∧ x.2 ≤ k + bs.length
  | [], o, k, h, x, hx => by
    have : x = (o, k) := by simpa [ivs] using hx
    subst this
    exact ⟨h, by simp⟩
  | b :: bs, o, k, h, x, hx => by
    cases b with
    | true =>
      have hx2 : x ∈ (o, k) :: ivs k (k + 1) bs := hx
      rcases List.mem_cons.1 hx2 with rfl | hx3
      · exact ⟨h, by simp⟩
      · have := ivs_ok bs k (k + 1) (by omega) x hx3
        simp; omega
    | false =>
      have hx2 : x ∈ ivs o (k + 1) bs := hx
      have := ivs_ok bs o (k + 1) (by omega) x hx2
      simp; omega
theorem ivs_len : ∀ (bs : List Bool) (o k : Nat), 1 ≤ (ivs o k bs).length ∧ (ivs o k bs).length ≤ bs.length + 1
  | [], _, _ => by simp [ivs]
  | b :: bs, o, k => by
    cases b with
    | true =>
      have := ivs_len bs k (k + 1)
      show 1 ≤ ((o, k) :: ivs k (k + 1) bs).length ∧ _
      simp
      show (ivs k (k + 1) bs).length + 1 ≤ _
      omega
    | false =>
      have := ivs_len bs o (k + 1)
      show 1 ≤ (ivs o (k + 1) bs).length ∧ (ivs o (k + 1) bs).length ≤ _
      simp
      omega
end
/-- the marks of a line's characters: true where the open row has no room -/
def brk : Nat → List (List UInt8) → List Bool
  | _, [] => []
  | n, c :: t => if n + c.length ≤ 75 then false :: brk (n + c.length) t else true :: brk (1 + c.length) t
theorem brk_len : ∀ (cs : List (List UInt8)) (n : Nat), (brk n cs).length = cs.length
  | [], _ => rfl
  | c :: t, n => by
    unfold brk
    split <;> simp [brk_len t]
theorem gat_fr : ∀ (cs : List (List UInt8)) (n : Nat) (cur : List (List UInt8)), n ≤ 75 → (∀ c ∈ cs, c.length ≤ 4) →
    ∃ h t, gat cur cs (brk n cs) = h :: t ∧ h.flatten ++ joinTail [13, 10, 32] (t.map List.flatten) ++ [13, 10] = cur.flatten ++ fr (75 - n) cs
  | [], n, cur, _, _ => ⟨cur, [], rfl, by simp [joinTail, fr]⟩
  | c :: t, n, cur, hn, hc => by
    have h4 := hc c (by simp)
    unfold brk
    by_cases h : n + c.length ≤ 75
    · rw [if_pos h, gat_false]
      obtain ⟨a, b, e1, e2⟩ := gat_fr t (n + c.length) (cur ++ [c]) h (fun d hd => hc d (by simp [hd]))
      refine ⟨a, b, e1, ?_⟩
      rw [e2, fr_on t (by omega)]
      simp
      rw [show 75 - (n + c.length) = 75 - n - c.length by omega]
    · rw [if_neg h, gat_true]
      obtain ⟨a, b, e1, e2⟩ := gat_fr t (1 + c.length) [c] (by omega) (fun d hd => hc d (by simp [hd]))
      refine ⟨cur, gat [c] t (brk (1 + c.length) t), rfl, ?_⟩
      rw [e1, fr_cut t (by omega)]
      have e3 : joinTail [13, 10, 32] ((a :: b).map List.flatten) = [13, 10, 32] ++ a.flatten ++ joinTail [13, 10, 32] (b.map List.flatten) := by simp [joinTail]
      rw [e3]
      have e4 : a.flatten ++ (joinTail [13, 10, 32] (b.map List.flatten) ++ [13, 10]) = c ++ fr (75 - (1 + c.length)) t := by
        rw [← List.append_assoc, e2]; simp
      rw [show 74 - c.length = 75 - (1 + c.length) by omega]
      simp only [List.append_assoc]
      rw [e4]
/-- the package's rows, without blanks and ends, joined as they are written -/
theorem fold_join (l : List UInt8) : join ((gat [] (chs l) (brk 0 (chs l))).map List.flatten) [13, 10, 32] ++ [13, 10] = foldOne l := by
  obtain ⟨h, t, e1, e2⟩ := gat_fr (chs l) 0 [] (by omega) (fun c hc => (chs_size l c hc).2)
  rw [e1, List.map_cons, join_cons, e2, foldOne_fr]
  rfl
end Go.Proofs.YtfbdnaclkfmiaaaGreatDoor.Tx
end
section
/- what is reached of it -/
namespace Go.Proofs.YtfbdnaclkfmiaaaGreatDoor.Tx
def valB (c : UInt8) : List UInt8 := if c = 92 ∨ c = 44 ∨ c = 59 then [92, c] else if c = 10 then [92, 110] else if c = 13 then [] else [c]
/-- A text as a value. -/
def val (l : List UInt8) : List UInt8 := l.flatMap valB
theorem val_nil : val [] = [] := rfl
theorem val_cons (c : UInt8) (t : List UInt8) : val (c :: t) = valB c ++ val t := rfl
theorem val_snoc (l : List UInt8) (c : UInt8) : val (l ++ [c]) = val l ++ valB c := by simp [val]
theorem valB_len (c : UInt8) : (valB c).length ≤ 2 := by
  unfold valB
  split
  · simp
  split
  · simp
  split <;> simp
theorem val_len : ∀ l : List UInt8, (val l).length ≤ 2 * l.length
  | [] => by simp [val_nil]
  | c :: t => by
    have := valB_len c
    have := val_len t
    rw [val_cons, List.length_append, List.length_cons]; omega
/-- What a "\" makes of the byte behind it. -/
def unb (c : UInt8) : Option UInt8 := if c = 92 ∨ c = 44 ∨ c = 59 then some c else if c = 110 ∨ c = 78 then some 10 else none
/-- The text that a value is. -/
def plain : List UInt8 → Option (List UInt8)
  | [] => some []
  | c :: t => if c = 92 then (match t with
    | [] => none
    | d :: u => match unb d with
      | some x => (plain u).map (x :: ·)
      | none => none) else (plain t).map (c :: ·)
theorem plain_nil : plain [] = some [] := rfl
theorem plain_end : plain [92] = none := by unfold plain; rw [if_pos rfl]
theorem plain_bad {d : UInt8} (u : List UInt8) (h : unb d = none) : plain (92 :: d :: u) = none := by
  unfold plain
  rw [if_pos rfl]
  simp only [h]
theorem plain_esc {d x : UInt8} (u : List UInt8) (h : unb d = some x) : plain (92 :: d :: u) = (plain u).map (x :: ·) := by
  conv => lhs; unfold plain
  rw [if_pos rfl]
  simp only [h]
theorem plain_on {c : UInt8} (t : List UInt8) (h : c ≠ 92) : plain (c :: t) = (plain t).map (c :: ·) := by
  conv => lhs; unfold plain
  rw [if_neg h]
theorem plain_run : ∀ (p t : List UInt8), (∀ c ∈ p, c ≠ 92) → plain (p ++ t) = (plain t).map (p ++ ·)
  | [], t, _ => by rw [List.nil_append]; cases plain t <;> rfl
  | c :: p, t, h => by
    rw [List.cons_append, plain_on _ (h c (by simp)), plain_run p t (fun d hd => h d (by simp [hd]))]
    cases plain t <;> rfl
theorem plain_valB (c : UInt8) (t : List UInt8) : plain (valB c ++ t) = (plain t).map ((if c = 13 then [] else [c]) ++ ·) := by
  unfold valB
  by_cases h1 : c = 92 ∨ c = 44 ∨ c = 59
  · rw [if_pos h1]
    have h2 : c ≠ 13 := by rcases h1 with rfl | rfl | rfl <;> decide
    show plain (92 :: c :: t) = _
    rw [plain_esc t (by unfold unb; rw [if_pos h1]), if_neg h2]
    rfl
  rw [if_neg h1]
  by_cases h2 : c = 10
  · subst h2
    rw [if_pos rfl, if_neg (by decide)]
    show plain (92 :: 110 :: t) = _
    rw [plain_esc t (show unb 110 = some 10 by decide)]
    rfl
  rw [if_neg h2]
  by_cases h3 : c = 13
  · subst h3
    show plain t = (plain t).map ([] ++ ·)
    cases plain t <;> rfl
  · simp only [if_neg h3]
    show plain (c :: t) = _
    rw [plain_on t (fun e => h1 (.inl e))]
    rfl
/-- What a value comes back as: all but 13. -/
theorem plain_val : ∀ l : List UInt8, plain (val l) = some (l.filter (fun c => !(c == 13)))
  | [] => rfl
  | c :: t => by
    rw [val_cons, plain_valB, plain_val t]
    by_cases h : c = 13
    · subst h; rfl
    · have hb : (!(c == 13)) = true := by simpa using h
      rw [if_neg h, List.filter_cons, if_pos hb]
      rfl

def spl (sep : UInt8) : Bool → List UInt8 → List UInt8 → List (List UInt8)
  | _, cur, [] => [cur]
  | e, cur, c :: t => if c = sep ∧ e = false then cur :: spl sep (c == 92 && !e) [] t else spl sep (c == 92 && !e) (cur ++ [c]) t
theorem spl_nil (sep : UInt8) (e : Bool) (cur : List UInt8) : spl sep e cur [] = [cur] := rfl
theorem spl_cut {sep : UInt8} {e : Bool} (cur : List UInt8) {c : UInt8} (t : List UInt8) (h : c = sep ∧ e = false) : spl sep e cur (c :: t) = cur :: spl sep (c == 92 && !e) [] t := by
  conv => lhs; unfold spl
  rw [if_pos h]
theorem spl_on {sep : UInt8} {e : Bool} (cur : List UInt8) {c : UInt8} (t : List UInt8) (h : ¬ (c = sep ∧ e = false)) : spl sep e cur (c :: t) = spl sep (c == 92 && !e) (cur ++ [c]) t := by
  conv => lhs; unfold spl
  rw [if_neg h]
/-- the marks of the package's own gathering -/
def cutsAt (sep : UInt8) : Bool → List UInt8 → List Bool
  | _, [] => []
  | e, c :: t => (c == sep && !e) :: cutsAt sep (c == 92 && !e) t
theorem cutsAt_len (sep : UInt8) : ∀ (l : List UInt8) (e : Bool), (cutsAt sep e l).length = l.length
  | [], _ => rfl
  | c :: t, e => by unfold cutsAt; simp [cutsAt_len sep t]
/-- all but the first one without their first byte -/
def tails : List (List UInt8) → List (List UInt8)
  | [] => []
  | h :: t => h :: t.map List.tail
theorem spl_gat_in (sep : UInt8) : ∀ (l : List UInt8) (e : Bool) (x : UInt8) (cur : List UInt8), (gat (x :: cur) l (cutsAt sep e l)).map List.tail = spl sep e cur l
  | [], e, x, cur => by rw [gat_nil]; rfl
  | c :: t, e, x, cur => by
    unfold cutsAt
    by_cases h : c = sep ∧ e = false
    · rw [spl_cut cur t h, show (c == sep && !e) = true by rw [h.1, h.2]; simp, gat_true, List.map_cons, spl_gat_in sep t _ c []]
      rfl
    · have hb : (c == sep && !e) = false := by
        rw [Bool.eq_false_iff]
        intro hb
        rw [Bool.and_eq_true, beq_iff_eq, Bool.not_eq_true'] at hb
        exact h hb
      rw [spl_on cur t h, hb, gat_false]
      exact spl_gat_in sep t _ x (cur ++ [c])
theorem spl_gat (sep : UInt8) : ∀ (l : List UInt8) (e : Bool) (cur : List UInt8), tails (gat cur l (cutsAt sep e l)) = spl sep e cur l
  | [], e, cur => by rw [gat_nil]; rfl
  | c :: t, e, cur => by
    unfold cutsAt
    by_cases h : c = sep ∧ e = false
    · rw [spl_cut cur t h, show (c == sep && !e) = true by rw [h.1, h.2]; simp, gat_true]
      show cur :: (gat [c] t _).map List.tail = _
      rw [spl_gat_in sep t _ c []]
    · have hb : (c == sep && !e) = false := by
        rw [Bool.eq_false_iff]
        intro hb
        rw [Bool.and_eq_true, beq_iff_eq, Bool.not_eq_true'] at hb
        exact h hb
      rw [spl_on cur t h, hb, gat_false]
      exact spl_gat sep t _ (cur ++ [c])
def split1 (sep : UInt8) (l : List UInt8) : List (List UInt8) := spl sep false [] l
/-- a value has no separator that is not escaped -/
theorem spl_valB {sep : UInt8} (hs : sep = 44 ∨ sep = 59) (c : UInt8) (cur t : List UInt8) : spl sep false cur (valB c ++ t) = spl sep false (cur ++ valB c) t := by
  have h92 : (92 : UInt8) ≠ sep := by rcases hs with rfl | rfl <;> decide
  unfold valB
  by_cases h1 : c = 92 ∨ c = 44 ∨ c = 59
  · rw [if_pos h1]
    show spl sep false cur (92 :: c :: t) = _
    rw [spl_on cur _ (fun h => h92 h.1)]
    show spl sep true (cur ++ [92]) (c :: t) = _
    rw [spl_on _ _ (fun h => by cases h.2)]
    simp
  rw [if_neg h1]
  by_cases h2 : c = 10
  · rw [if_pos h2]
    show spl sep false cur (92 :: 110 :: t) = _
    rw [spl_on cur _ (fun h => h92 h.1)]
    show spl sep true (cur ++ [92]) (110 :: t) = _
    rw [spl_on _ _ (fun h => by cases h.2)]
    simp
  rw [if_neg h2]
  by_cases h3 : c = 13
  · rw [if_pos h3]; simp
  · rw [if_neg h3]
    show spl sep false cur (c :: t) = _
    rw [spl_on cur _ (fun h => h1 (by rcases hs with rfl | rfl <;> simp [h.1]))]
    have : (c == 92 && !false) = false := by
      have : c ≠ 92 := fun e => h1 (.inl e)
      simp [this]
    rw [this]
theorem spl_val {sep : UInt8} (hs : sep = 44 ∨ sep = 59) : ∀ (l cur t : List UInt8), spl sep false cur (val l ++ t) = spl sep false (cur ++ val l) t
  | [], cur, t => by simp [val_nil]
  | c :: l, cur, t => by
    rw [val_cons, List.append_assoc, spl_valB hs, spl_val hs l]
    simp
/-- values, one behind the other, with separators between, are split so -/
def sepd (sep : UInt8) : List (List UInt8) → List UInt8
  | [] => []
  | [x] => x
  | x :: y :: r => x ++ sep :: sepd sep (y :: r)
theorem spl_sepd {sep : UInt8} (hs : sep = 44 ∨ sep = 59) : ∀ (xs : List (List UInt8)) (x cur : List UInt8), spl sep false cur (sepd sep ((x :: xs).map val)) = (cur ++ val x) :: xs.map val
  | [], x, cur => by
    have := spl_val hs x cur []
    rw [List.append_nil, spl_nil] at this
    exact this
  | y :: xs, x, cur => by
    show spl sep false cur (val x ++ sep :: sepd sep ((y :: xs).map val)) = _
    rw [spl_val hs, spl_cut _ _ ⟨rfl, rfl⟩]
    have e : (sep == 92 && !false) = false := by rcases hs with rfl | rfl <;> decide
    rw [e, spl_sepd hs xs y []]
    rfl
end Go.Proofs.YtfbdnaclkfmiaaaGreatDoor.Tx
end
section
/- what is reached of it -/
namespace Go.Proofs.YtfbdnaclkfmiaaaGreatDoor
open Go.RowKit Tx
theorem valB_of {c : UInt8} : (c = 92 ∨ c = 44 ∨ c = 59) ∨ c = 10 ∨ c = 13 ∨ (c ≠ 92 ∧ c ≠ 44 ∧ c ≠ 59 ∧ c ≠ 10 ∧ c ≠ 13 ∧ valB c = [c]) := by
  by_cases h1 : c = 92 ∨ c = 44 ∨ c = 59
  · exact .inl h1
  by_cases h2 : c = 10
  · exact .inr (.inl h2)
  by_cases h3 : c = 13
  · exact .inr (.inr (.inl h3))
  · refine .inr (.inr (.inr ⟨fun e => h1 (.inl e), fun e => h1 (.inr (.inl e)), fun e => h1 (.inr (.inr e)), h2, h3, ?_⟩))
    unfold valB
    rw [if_neg h1, if_neg h2, if_neg h3]

set_option maxHeartbeats 1000000 in
theorem rvalue_any (s : ByteArray) (w : World) (hs : s.size < 10000000000000) :
    Calls Tryz.prog 24 #[.string s] w fun e w' => e = .returned (.string ⟨(val s.data.toList).toArray⟩) ∧ w = w' := by
  have hsz := Lib.hid (Lib.size_eq s)
  go_enter Tryz.func24, Tryz.ntmps24
  go_wp2_with fail
  go_loop [3, 4] (fun out at_ => ∃ (k : Nat) (o : ByteArray), k ≤ s.size ∧ out = .string o ∧ at_ = .int .i64 k ∧ Hid (o.data.toList = val (s.data.toList.take k))) (fun _ at_ => s.size - (intOf at_).toNat)
  case atStart => exact ⟨0, ⟨#[]⟩, Nat.zero_le _, rfl, rfl, Lib.hid rfl⟩
  case round =>
    obtain ⟨k, o, hk, rfl, rfl, ho⟩ := hrel
    by_cases hlt : k < s.size
    · have hst : Hid (val (s.data.toList.take (k + 1)) = val (s.data.toList.take k) ++ valB (s[k]'hlt)) := by
        unfold Hid
        rw [take_next hlt, val_snoc]
      have hcut := Lib.hid (one_cut hlt)
      have hosz : o.size ≤ 60000000000000 := by
        rw [Lib.size_eq, ho.out]
        have := val_len (s.data.toList.take k)
        rw [List.length_take] at this
        omega
      obtain ⟨z, hz⟩ : ∃ z : Int, ((s[k]'hlt).toNat : Int) = z := ⟨_, rfl⟩
      rcases valB_of (c := s[k]'hlt) with h | h | h | ⟨h1, h2, h3, h4, h5, he⟩
      · have hz3 : z = 92 ∨ z = 44 ∨ z = 59 := by
          rcases h with h | h | h
          · left; rw [← hz, h]; rfl
          · right; left; rw [← hz, h]; rfl
          · right; right; rw [← hz, h]; rfl
        have HST : Hid (val (s.data.toList.take (k + 1)) = val (s.data.toList.take k) ++ ([92] ++ (s.extract k (k + 1)).data.toList)) := by
          unfold Hid; rw [hst.out, hcut.out]; unfold valB; rw [if_pos h]; rfl
        clear h hst
        rcases hz3 with rfl | rfl | rfl
        all_goals
          go_wp2_with fail
          go_round
          case rel => exact ⟨k + 1, _, by omega, rfl, by go_num, by unfold Hid; rw [cat_list, cat_list, ho.out, HST.out, List.append_assoc]⟩
          case measure => simp [intOf]; omega
      · have HST : Hid (val (s.data.toList.take (k + 1)) = val (s.data.toList.take k) ++ [92, 110]) := by unfold Hid; rw [hst.out, h]; rfl
        obtain rfl : z = 10 := by rw [← hz, h]; rfl
        clear h hst
        go_wp2_with fail
        go_round
        case rel => exact ⟨k + 1, _, by omega, rfl, by go_num, by unfold Hid; rw [cat_list, ho.out, HST.out]⟩
        case measure => simp [intOf]; omega
      · have HST : Hid (val (s.data.toList.take (k + 1)) = val (s.data.toList.take k)) := by unfold Hid; rw [hst.out, h]; exact List.append_nil _
        obtain rfl : z = 13 := by rw [← hz, h]; rfl
        clear h hst
        go_wp2_with fail
        go_round
        case rel => exact ⟨k + 1, _, by omega, rfl, by go_num, by unfold Hid; rw [ho.out, HST.out]⟩
        case measure => simp [intOf]; omega
      · have f1 : (z == 92) = false := byte_ne hz h1
        have f2 : (z == 44) = false := byte_ne hz h2
        have f3 : (z == 59) = false := byte_ne hz h3
        have f4 : (z == 10) = false := byte_ne hz h4
        have f5 : (z == 13) = false := byte_ne hz h5
        have HST : Hid (val (s.data.toList.take (k + 1)) = val (s.data.toList.take k) ++ (s.extract k (k + 1)).data.toList) := by unfold Hid; rw [hst.out, he, hcut.out]
        clear h1 h2 h3 h4 h5 he hst
        go_wp2_with fail
        go_round
        case rel => exact ⟨k + 1, _, by omega, rfl, by go_num, by unfold Hid; rw [cat_list, ho.out, HST.out]⟩
        case measure => simp [intOf]; omega
    · have hke : k = s.data.toList.length := by rw [← hsz.out]; omega
      have hall : Hid (o.data.toList = val s.data.toList) := by
        have := ho.out
        rw [hke, List.take_length] at this
        exact this
      clear hke
      go_wp2_with fail
      go_ret
      exact ⟨by rw [bytes_of hall.out]; rfl, rfl⟩

/-- What a value comes back as: its two values. -/
def plainV (l : List UInt8) : Value := match plain l with
  | some x => .tuple #[.string ⟨x.toArray⟩, .int .i64 0]
  | none => .tuple #[.string ⟨#[]⟩, .int .i64 18]
theorem plainV_some {l x : List UInt8} (h : plain l = some x) : plainV l = .tuple #[.string ⟨x.toArray⟩, .int .i64 0] := by unfold plainV; rw [h]
theorem plainV_none {l : List UInt8} (h : plain l = none) : plainV l = .tuple #[.string ⟨#[]⟩, .int .i64 18] := by unfold plainV; rw [h]
/-- how the document's loop stands: o ahead, the rest from k on -/
def PStand (l : List UInt8) (k : Nat) (o : List UInt8) : Prop := plain l = (plain (l.drop k)).map (o ++ ·)
theorem PStand.start (l : List UInt8) : PStand l 0 [] := by unfold PStand; rw [List.drop_zero]; cases plain l <;> rfl
theorem PStand.done {l o : List UInt8} {k : Nat} (h : PStand l k o) (hk : l.length ≤ k) : plain l = some o := by
  unfold PStand at h
  rw [List.drop_eq_nil_of_le hk, plain_nil] at h
  simpa using h
section
variable {s : ByteArray} {k : Nat} {o : List UInt8}
theorem PStand.on (h : PStand s.data.toList k o) (hk : k < s.size) (h1 : (s[k]'hk) ≠ 92) : PStand s.data.toList (k + 1) (o ++ [s[k]'hk]) := by
  unfold PStand at h ⊢
  rw [h, drop_step hk, plain_on _ h1]
  cases plain (List.drop (k + 1) s.data.toList) <;> simp
theorem PStand.last (h : PStand s.data.toList k o) (hk : k < s.size) (h1 : (s[k]'hk) = 92) (h2 : ¬ k + 1 < s.size) : plain s.data.toList = none := by
  unfold PStand at h
  rw [h, drop_step hk, h1, List.drop_eq_nil_of_le (by rw [← Lib.size_eq]; omega), plain_end]
  rfl
theorem PStand.bad (h : PStand s.data.toList k o) (hk : k < s.size) (h1 : (s[k]'hk) = 92) (h2 : k + 1 < s.size) (h3 : unb (s[k + 1]'h2) = none) : plain s.data.toList = none := by
  unfold PStand at h
  rw [h, drop_step hk, h1, drop_step h2, plain_bad _ h3]
  rfl
end
theorem unb_of {c : UInt8} : ((c = 92 ∨ c = 44 ∨ c = 59) ∧ unb c = some c) ∨ ((c = 110 ∨ c = 78) ∧ unb c = some 10) ∨ (c ≠ 92 ∧ c ≠ 44 ∧ c ≠ 59 ∧ c ≠ 110 ∧ c ≠ 78 ∧ unb c = none) := by
  unfold unb
  by_cases h1 : c = 92 ∨ c = 44 ∨ c = 59
  · rw [if_pos h1]; exact .inl ⟨h1, rfl⟩
  rw [if_neg h1]
  by_cases h2 : c = 110 ∨ c = 78
  · rw [if_pos h2]; exact .inr (.inl ⟨h2, rfl⟩)
  · rw [if_neg h2]
    exact .inr (.inr ⟨fun e => h1 (.inl e), fun e => h1 (.inr (.inl e)), fun e => h1 (.inr (.inr e)), fun e => h2 (.inl e), fun e => h2 (.inr e), rfl⟩)

end Go.Proofs.YtfbdnaclkfmiaaaGreatDoor
end
