/- Texts laid together: Vcd VcdB -/
import Derived.Test.YtphopnfnjnieaaaGreatDoorFld
/-
  CARDS OF PROPERTIES over plain lists of bytes, as the document's words have them; what is written is read as it was. Nothing of any program.
-/
namespace Go.Proofs.YtphopnfnjnieaaaGreatDoor.Vc
open Go.Lib Tx

/-! ### a line of a property -/
/-- A parameter: its name, its value. A property: its group, name, parameters, value. -/
abbrev Par := List UInt8 × List UInt8
abbrev Pr := List UInt8 × List UInt8 × List Par × List UInt8
instance decPr : DecidableEq Pr := @instDecidableEqProd _ _ inferInstance (@instDecidableEqProd _ _ inferInstance (@instDecidableEqProd _ _ inferInstance inferInstance))
def lett (c : UInt8) : Bool := (decide (65 ≤ c.toNat) && decide (c.toNat ≤ 90)) || (decide (97 ≤ c.toNat) && decide (c.toNat ≤ 122))
def wc (c : UInt8) : Bool := lett c || (decide (48 ≤ c.toNat) && decide (c.toNat ≤ 57)) || c == 45
def upC (c : UInt8) : UInt8 := if 97 ≤ c.toNat ∧ c.toNat ≤ 122 then c - 32 else c
def up (l : List UInt8) : List UInt8 := l.map upC
/-- What a parameter's value may have in it without quotes. -/
def free (c : UInt8) : Bool := c != 34 && c != 59 && c != 58 && c != 44
/-- A value behind its "=", and what is behind it. -/
def pvalL : List UInt8 → Option (List UInt8 × List UInt8)
  | 34 :: q => match q.dropWhile (· != 34) with
    | [] => none
    | _ :: m => some (q.takeWhile (· != 34), m)
  | r => some (r.takeWhile free, r.dropWhile free)
/-- A parameter behind its ";". -/
def parL (l : List UInt8) : Option (Par × List UInt8) :=
  if l.takeWhile wc = [] then none else
  match l.dropWhile wc with
  | 61 :: r => (pvalL r).map fun v => ((up (l.takeWhile wc), v.1), v.2)
  | _ => none
/-- As many as there are. -/
def parsF : Nat → List Par → List UInt8 → Option (List Par × List UInt8)
  | 0, ps, l => some (ps, l)
  | f + 1, ps, l => match l with
    | 59 :: r => match parL r with
      | some p => parsF f (ps ++ [p.1]) p.2
      | none => none
    | l => some (ps, l)
/-- Its group, its name, and what is behind them. -/
def headL (l : List UInt8) : List UInt8 × List UInt8 × List UInt8 :=
  match l.takeWhile wc, l.dropWhile wc with
  | c :: w, 46 :: m => (c :: w, up (m.takeWhile wc), m.dropWhile wc)
  | w, r => ([], up w, r)
def propL (l : List UInt8) : Option Pr :=
  if (headL l).2.1 = [] then none else
  match parsF (l.length + 1) [] (headL l).2.2 with
  | some (ps, 58 :: v) => some ((headL l).1, (headL l).2.1, ps, v)
  | _ => none

/-! ### cards -/
def beginT : List UInt8 := [66, 69, 71, 73, 78, 58, 86, 67, 65, 82, 68]
def endT : List UInt8 := [69, 78, 68, 58, 86, 67, 65, 82, 68]
def versT : List UInt8 := [86, 69, 82, 83, 73, 79, 78, 58, 52, 46, 48]
def beginN : List UInt8 := [66, 69, 71, 73, 78]
def versN : List UInt8 := [86, 69, 82, 83, 73, 79, 78]
def fourT : List UInt8 := [52, 46, 48]
/-- Where a reader stands: the cards that are whole; is one open, is its first line still to come, what it has. -/
abbrev RSt := List (List Pr) × Option (Bool × List Pr)
/-- One line: what is wrong with it (0: nothing), or what is there behind it. -/
def stepV (st : RSt) (l : List UInt8) : Nat × RSt := match st.2 with
  | none => if up l ≠ beginT then (20, st) else if 60 ≤ st.1.length then (4, st) else (0, (st.1, some (true, [])))
  | some (true, c) => match propL l with
    | some p => if p.2.1 = versN ∧ p.2.2.2 = fourT then (0, (st.1, some (false, c))) else (20, st)
    | none => (20, st)
  | some (false, c) => if up l = endT then (0, (st.1 ++ [c], none)) else match propL l with
    | none => (17, st)
    | some p => if p.2.1 = beginN ∨ p.2.1 = versN then (20, st) else if 40 ≤ c.length then (4, st) else (0, (st.1, some (false, c ++ [p])))
/-- All lines, behind so many: the cards, the line that is wrong, why. -/
def runV : Nat → RSt → List (List UInt8) → List (List Pr) × Nat × Nat
  | n, st, [] => match st.2 with
    | none => (st.1, 0, 0)
    | some _ => ([], n, 20)
  | n, st, l :: t => if (stepV st l).1 = 0 then runV (n + 1) (stepV st l).2 t else ([], n + 1, (stepV st l).1)
def readV (s : List UInt8) : List (List Pr) × Nat × Nat :=
  if 20000 < s.length then ([], 0, 4) else if valid s = false then ([], 0, 3) else match unfold s with
  | none => ([], 0, 17)
  | some ls => runV 0 ([], none) ls

/-! ### written -/
def quoteB (v : List UInt8) : Bool := decide (v = []) || v.any (fun c => c == 59 || c == 58 || c == 44)
def pvalT (v : List UInt8) : List UInt8 := if quoteB v then 34 :: (v ++ [34]) else v
def parT (p : Par) : List UInt8 := 59 :: (p.1 ++ 61 :: pvalT p.2)
def groupT (g : List UInt8) : List UInt8 := if g = [] then [] else g ++ [46]
def lineT (p : Pr) : List UInt8 := groupT p.1 ++ (p.2.1 ++ (p.2.2.1.flatMap parT ++ 58 :: p.2.2.2))
/-- May a property's line be read as it is, within a card? -/
def mayB (p : Pr) : Bool := decide (propL (lineT p) = some p) && valid (lineT p) && (lineT p).all (fun c => c != 10 && c != 13) && decide (p.2.1 ≠ beginN) && decide (p.2.1 ≠ versN) && decide (up (lineT p) ≠ endT)
def cardT (c : List Pr) : List (List UInt8) := beginT :: versT :: (c.map lineT ++ [endT])
def rightV (l : List (List Pr)) : Bool := decide (l.length ≤ 60) && l.all (fun c => decide (c.length ≤ 40) && c.all mayB)
def writeV (l : List (List Pr)) : List UInt8 × Nat :=
  if rightV l then (if 20000 < (foldL (l.flatMap cardT)).length then ([], 4) else (foldL (l.flatMap cardT), 0)) else ([], 12)

/-! ### what is written is read -/
theorem word_head {l : List UInt8} (h : cont l = true) : propL l = none := by
  cases l with
  | nil => cases h
  | cons c t =>
    have hc : wc c = false := by
      simp only [cont, Bool.or_eq_true, beq_iff_eq] at h
      rcases h with rfl | rfl <;> decide
    have h1 : (c :: t).takeWhile wc = [] := by rw [List.takeWhile_cons, hc]; rfl
    unfold propL
    rw [if_pos]
    unfold headL
    rw [h1]
    rfl
theorem may_fine {p : Pr} (h : mayB p = true) : Fine (lineT p) ∧ propL (lineT p) = some p ∧ p.2.1 ≠ beginN ∧ p.2.1 ≠ versN ∧ up (lineT p) ≠ endT := by
  unfold mayB at h
  simp only [Bool.and_eq_true, decide_eq_true_eq, List.all_eq_true, bne_iff_ne] at h
  obtain ⟨⟨⟨⟨⟨h1, h2⟩, h3⟩, h4⟩, h5⟩, h6⟩ := h
  refine ⟨⟨fun c hc => h3 c hc, h2, ?_⟩, h1, h4, h5, h6⟩
  cases hcn : cont (lineT p) with
  | false => rfl
  | true => rw [word_head hcn] at h1; cases h1
theorem fine_fixed : Fine beginT ∧ Fine versT ∧ Fine endT := by
  refine ⟨⟨?_, by decide +kernel, rfl⟩, ⟨?_, by decide +kernel, rfl⟩, ⟨?_, by decide +kernel, rfl⟩⟩ <;>
  · unfold clean
    decide +kernel
theorem vers_read : propL versT = some ([], versN, [], fourT) := by decide +kernel
theorem card_fine {c : List Pr} (h : ∀ p ∈ c, mayB p = true) : ∀ l ∈ cardT c, Fine l := fun l hl => by
  unfold cardT at hl
  rcases List.mem_cons.1 hl with rfl | hl
  · exact fine_fixed.1
  · rcases List.mem_cons.1 hl with rfl | hl
    · exact fine_fixed.2.1
    · rcases List.mem_append.1 hl with hl | hl
      · obtain ⟨p, hp, rfl⟩ := List.mem_map.1 hl
        exact (may_fine (h p hp)).1
      · rw [List.mem_singleton] at hl
        subst hl
        exact fine_fixed.2.2
theorem run_ok {n : Nat} {st st' : RSt} {l : List UInt8} (h : stepV st l = (0, st')) (t : List (List UInt8)) : runV n st (l :: t) = runV (n + 1) st' t := by
  rw [runV, h, if_pos rfl]
theorem run_no {n e : Nat} {st st' : RSt} {l : List UInt8} (h : stepV st l = (e, st')) (he : e ≠ 0) (t : List (List UInt8)) : runV n st (l :: t) = ([], n + 1, e) := by
  rw [runV, h, if_neg he]
theorem run_props : ∀ (c d : List Pr) (a : List (List Pr)) (n : Nat) (t : List (List UInt8)), (∀ p ∈ c, mayB p = true) → d.length + c.length ≤ 40 →
    runV n (a, some (false, d)) (c.map lineT ++ t) = runV (n + c.length) (a, some (false, d ++ c)) t
  | [], d, a, n, t, _, _ => by simp
  | p :: c, d, a, n, t, h, hl => by
    obtain ⟨_, h1, h2, h3, h4⟩ := may_fine (h p List.mem_cons_self)
    have hs : stepV (a, some (false, d)) (lineT p) = (0, (a, some (false, d ++ [p]))) := by
      simp only [List.length_cons] at hl
      simp only [stepV]
      rw [if_neg h4, h1]
      simp only
      rw [if_neg (fun e => e.elim h2 h3), if_neg (by omega)]
    rw [List.map_cons, List.cons_append, run_ok hs, run_props c (d ++ [p]) a (n + 1) t (fun q hq => h q (List.mem_cons_of_mem _ hq)) (by simp only [List.length_append, List.length_cons, List.length_nil] at hl ⊢; omega)]
    simp only [List.length_cons, List.append_assoc, List.singleton_append]
    congr 1
    omega
theorem run_card (c : List Pr) (a : List (List Pr)) (n : Nat) (t : List (List UInt8)) (h : ∀ p ∈ c, mayB p = true) (hl : c.length ≤ 40) (ha : a.length < 60) :
    runV n (a, none) (cardT c ++ t) = runV (n + c.length + 3) (a ++ [c], none) t := by
  have h1 : stepV (a, none) beginT = (0, (a, some (true, []))) := by
    simp only [stepV]
    rw [if_neg (fun e => e (by decide +kernel)), if_neg (by omega)]
  have h2 : stepV (a, some (true, [])) versT = (0, (a, some (false, []))) := by
    simp only [stepV]
    rw [vers_read]
    rfl
  have h3 : stepV (a, some (false, c)) endT = (0, (a ++ [c], none)) := by
    simp only [stepV]
    rw [if_pos (by decide +kernel)]
  unfold cardT
  rw [List.cons_append, run_ok h1, List.cons_append, run_ok h2, List.append_assoc, run_props c [] a _ _ h (by simpa using hl), List.nil_append, List.singleton_append, run_ok h3]
  congr 1
  omega
theorem run_cards : ∀ (l a : List (List Pr)) (n : Nat), (∀ c ∈ l, c.length ≤ 40 ∧ ∀ p ∈ c, mayB p = true) → a.length + l.length ≤ 60 → runV n (a, none) (l.flatMap cardT) = (a ++ l, 0, 0)
  | [], a, n, _, _ => by simp [runV]
  | c :: l, a, n, h, hl => by
    obtain ⟨h1, h2⟩ := h c List.mem_cons_self
    simp only [List.length_cons] at hl
    rw [List.flatMap_cons, run_card c a n _ h2 h1 (by omega), run_cards l (a ++ [c]) _ (fun d hd => h d (List.mem_cons_of_mem _ hd)) (by simp only [List.length_append, List.length_cons, List.length_nil]; omega)]
    simp
theorem right_iff {l : List (List Pr)} : rightV l = true ↔ l.length ≤ 60 ∧ ∀ c ∈ l, c.length ≤ 40 ∧ ∀ p ∈ c, mayB p = true := by
  unfold rightV
  simp only [Bool.and_eq_true, decide_eq_true_eq, List.all_eq_true]
/-- what is written is read as it was -/
theorem write_read {l : List (List Pr)} {s : List UInt8} (h : writeV l = (s, 0)) : readV s = (l, 0, 0) := by
  unfold writeV at h
  split at h
  · rename_i hr
    obtain ⟨h1, h2⟩ := right_iff.1 hr
    split at h
    · cases h
    · rename_i hb
      injection h with h _
      subst h
      obtain ⟨hu, hv⟩ := fold_unfold (m := l.flatMap cardT) (fun x hx => by
        obtain ⟨c, hc, hx⟩ := List.mem_flatMap.1 hx
        exact card_fine (h2 c hc).2 x hx)
      unfold readV
      rw [if_neg hb, hv, if_neg (by decide), hu]
      simp only
      rw [run_cards l [] 0 h2 (by simpa using h1)]
      rfl
  · cases h
end Go.Proofs.YtphopnfnjnieaaaGreatDoor.Vc
/-
  CARDS OF PROPERTIES over plain lists of bytes, second part: what is read may be written, and is read again as it was. Nothing of any program.
-/
namespace Go.Proofs.YtphopnfnjnieaaaGreatDoor.Vc
open Go.Lib Tx

/-! ### texts cut at signs of one byte -/
theorem vcut : ∀ (n : Nat) (a c : List UInt8) (b : UInt8), a.length ≤ n → b.toNat < 128 → valid (a ++ b :: c) = true → valid a = true ∧ valid (b :: c) = true
  | _, [], c, b, _, _, h => ⟨valid_some ch_nil, h⟩
  | 0, _ :: _, _, _, h, _, _ => by simp at h
  | n + 1, x :: a, c, b, hn, hb, h => by
    obtain ⟨p, r, e, hlt, vp, vr, hp⟩ := piece (l := (x :: a) ++ b :: c) (by simp) h
    have hpne : 1 ≤ p.length := by
      rw [e, List.length_append] at hlt
      omega
    have hple : p.length ≤ (x :: a).length := by
      rcases hp with ⟨b', rfl, _⟩ | hp
      · simp
      · rcases Nat.lt_or_ge (x :: a).length p.length with hl | hl
        · exfalso
          have h1 : ((x :: a) ++ b :: c)[(x :: a).length]? = some b := by simp
          rw [e, List.getElem?_append_left hl] at h1
          have := hp b (List.mem_of_getElem? h1)
          omega
        · exact hl
    obtain ⟨a2, ha2⟩ : ∃ a2, x :: a = p ++ a2 := by
      refine ⟨(x :: a).drop p.length, ?_⟩
      have h1 := congrArg (List.take p.length) e
      rw [List.take_append_of_le_length hple, List.take_left'  rfl] at h1
      conv => lhs; rw [← List.take_append_drop p.length (x :: a)]
      rw [h1]
    rw [ha2, List.append_assoc] at e
    have hr := (List.append_cancel_left e).symm
    rw [hr] at vr
    have hl2 : a2.length ≤ n := by
      have := congrArg List.length ha2
      rw [List.length_append] at this
      simp at this hn
      omega
    obtain ⟨h1, h2⟩ := vcut n a2 c b hl2 hb vr
    rw [ha2]
    exact ⟨(valid_append vp h1).1, h2⟩
theorem vtail {b : UInt8} {c : List UInt8} (hb : b.toNat < 128) (h : valid (b :: c) = true) : valid c = true := by
  obtain ⟨p, r, e, hlt, vp, vr, hp⟩ := piece (l := b :: c) (by simp) h
  rcases hp with ⟨b', rfl, _⟩ | hp
  · injection e with e1 e2
    rw [e2]
    exact vr
  · cases p with
    | nil => rw [List.nil_append] at e; rw [e] at hlt; omega
    | cons x p =>
      injection e with e1 e2
      have := hp x (by simp)
      rw [← e1] at this
      omega


theorem vdrop {p : UInt8 → Bool} (hp : ∀ c, p c = true → c.toNat < 128) : ∀ {l : List UInt8}, valid l = true → valid (l.dropWhile p) = true
  | [], h => h
  | c :: t, h => by
    rw [List.dropWhile_cons]
    split
    · rename_i hc
      exact vdrop hp (vtail (hp c hc) h)
    · exact h
theorem wc_low (c : UInt8) (h : wc c = true) : c.toNat < 128 := by
  unfold wc lett at h
  simp only [Bool.or_eq_true, Bool.and_eq_true, decide_eq_true_eq, beq_iff_eq] at h
  rcases h with (h | h) | h
  · omega
  · omega
  · subst h; decide
theorem take_drop (p : UInt8 → Bool) (l : List UInt8) : l.takeWhile p ++ l.dropWhile p = l := List.takeWhile_append_dropWhile
/-! ### signs of a word -/
theorem up_word : ∀ c : UInt8, wc c = true → wc (upC c) = true ∧ upC (upC c) = upC c := by
  have h : ∀ n : Nat, n < 256 → wc (UInt8.ofNat n) = true → wc (upC (UInt8.ofNat n)) = true ∧ upC (upC (UInt8.ofNat n)) = upC (UInt8.ofNat n) := by decide +kernel
  intro c hc
  have := h c.toNat c.toNat_lt (by simpa using hc)
  simpa using this
def Word (w : List UInt8) : Prop := w ≠ [] ∧ ∀ c ∈ w, wc c = true
def NameV (n : List UInt8) : Prop := Word n ∧ up n = n
theorem Word.up {w : List UInt8} (h : Word w) : NameV (up w) := by
  refine ⟨⟨fun e => h.1 (List.map_eq_nil_iff.1 e), fun c hc => ?_⟩, ?_⟩
  · obtain ⟨d, hd, rfl⟩ := List.mem_map.1 hc
    exact (up_word d (h.2 d hd)).1
  · unfold Vc.up
    rw [List.map_map]
    exact List.map_congr_left fun c hc => (up_word c (h.2 c hc)).2
theorem take_all {p : UInt8 → Bool} {w r : List UInt8} (h : ∀ c ∈ w, p c = true) (hr : ∀ c t, r = c :: t → p c = false) : (w ++ r).takeWhile p = w ∧ (w ++ r).dropWhile p = r := by
  induction w with
  | nil =>
    cases r with
    | nil => exact ⟨rfl, rfl⟩
    | cons c t =>
      have := hr c t rfl
      constructor
      · rw [List.nil_append, List.takeWhile_cons, this]; rfl
      · rw [List.nil_append, List.dropWhile_cons, this]; rfl
  | cons a w ih =>
    have ha := h a List.mem_cons_self
    obtain ⟨h1, h2⟩ := ih fun c hc => h c (List.mem_cons_of_mem _ hc)
    constructor
    · rw [List.cons_append, List.takeWhile_cons, ha, if_pos rfl, h1]
    · rw [List.cons_append, List.dropWhile_cons, ha, if_pos rfl, h2]
def OkP (a : Par) : Prop := NameV a.1 ∧ (34 : UInt8) ∉ a.2
theorem pval_ok {v m : List UInt8} (hv : (34 : UInt8) ∉ v) (hm : ∀ c t, m = c :: t → c = 59 ∨ c = 58) : pvalL (pvalT v ++ m) = some (v, m) := by
  unfold pvalT
  cases hq : quoteB v with
  | true =>
    rw [if_pos rfl, List.cons_append, List.append_assoc, List.singleton_append]
    obtain ⟨h1, h2⟩ := take_all (p := (· != 34)) (w := v) (r := 34 :: m) (fun c hc => by simp only [bne_iff_ne]; rintro rfl; exact hv hc) (fun c t e => by cases e; rfl)
    simp only [pvalL]
    rw [h1, h2]
  | false =>
    rw [if_neg (by decide)]
    unfold quoteB at hq
    simp only [Bool.or_eq_false_iff, decide_eq_false_iff_not, List.any_eq_false, Bool.or_eq_true, beq_iff_eq, not_or] at hq
    obtain ⟨h1, h2⟩ := take_all (p := free) (w := v) (r := m) (fun c hc => by
      have := hq.2 c hc
      unfold free
      simp only [Bool.and_eq_true, bne_iff_ne]
      exact ⟨⟨⟨by rintro rfl; exact hv hc, this.1.1⟩, this.1.2⟩, this.2⟩) (fun c t e => by rcases hm c t e with rfl | rfl <;> rfl)
    cases v with
    | nil => exact absurd rfl hq.1
    | cons c t =>
      have hc : c ≠ 34 := by rintro rfl; exact hv List.mem_cons_self
      rw [List.cons_append] at h1 h2 ⊢
      unfold pvalL
      split
      · rename_i q e
        injection e with e _
        exact absurd e hc
      · rw [h1, h2]
theorem par_ok {a : Par} (h : OkP a) {m : List UInt8} (hm : ∀ c t, m = c :: t → c = 59 ∨ c = 58) : parL (a.1 ++ 61 :: (pvalT a.2 ++ m)) = some (a, m) := by
  obtain ⟨h1, h2⟩ := take_all (p := wc) (w := a.1) (r := 61 :: (pvalT a.2 ++ m)) h.1.1.2 (fun c t e => by cases e; rfl)
  unfold parL
  rw [h1, h2, if_neg h.1.1.1]
  simp only
  rw [pval_ok h.2 hm, Option.map_some, h.1.2]
theorem tail_sign (ts : List Par) (v : List UInt8) : ∀ c t, ts.flatMap parT ++ 58 :: v = c :: t → c = 59 ∨ c = 58 := fun c t e => by
  cases ts with
  | nil => rw [List.flatMap_nil, List.nil_append] at e; injection e with e _; exact .inr e.symm
  | cons a ts =>
    rw [List.flatMap_cons] at e
    unfold parT at e
    rw [List.cons_append, List.cons_append] at e
    injection e with e _
    exact .inl e.symm
theorem pars_ok : ∀ (ts ps : List Par) (f : Nat) (v : List UInt8), (∀ a ∈ ts, OkP a) → ts.length < f → parsF f ps (ts.flatMap parT ++ 58 :: v) = some (ps ++ ts, 58 :: v)
  | _, _, 0, _, _, hf => absurd hf (Nat.not_lt_zero _)
  | [], ps, f + 1, v, _, _ => by
    rw [List.flatMap_nil, List.nil_append, List.append_nil]
    rfl
  | a :: ts, ps, f + 1, v, h, hf => by
    rw [List.flatMap_cons, List.append_assoc, show parT a = 59 :: (a.1 ++ 61 :: pvalT a.2) from rfl, List.cons_append, List.append_assoc, List.cons_append]
    simp only [parsF]
    have hp := par_ok (h a List.mem_cons_self) (tail_sign ts v)
    have h2 := pars_ok ts (ps ++ [a]) f v (fun b hb => h b (List.mem_cons_of_mem _ hb)) (by simp only [List.length_cons] at hf; omega)
    rw [hp]
    simp only
    rw [h2, List.append_assoc, List.singleton_append]
def OkV (p : Pr) : Prop := (p.1 = [] ∨ Word p.1) ∧ NameV p.2.1 ∧ ∀ a ∈ p.2.2.1, OkP a
theorem flat_len (ts : List Par) : ts.length ≤ (ts.flatMap parT).length := by
  induction ts with
  | nil => exact Nat.le_refl _
  | cons a ts ih =>
    rw [List.flatMap_cons, List.length_append, List.length_cons]
    unfold parT at ih ⊢
    simp only [List.length_cons]
    omega
theorem prop_ok {p : Pr} (h : OkV p) : propL (lineT p) = some p := by
  obtain ⟨g, n, ts, v⟩ := p
  obtain ⟨hg, hn, ht⟩ := h
  simp only at hg hn ht
  have hst : ∀ c t, ts.flatMap parT ++ 58 :: v = c :: t → wc c = false := fun c t e => by rcases tail_sign ts v c t e with rfl | rfl <;> rfl
  obtain ⟨h1, h2⟩ := take_all (p := wc) hn.1.2 hst
  have hh : headL (lineT (g, n, ts, v)) = (g, n, ts.flatMap parT ++ 58 :: v) := by
    unfold lineT groupT
    simp only
    by_cases hg0 : g = []
    · subst hg0
      rw [if_pos rfl, List.nil_append]
      unfold headL
      rw [h1, h2]
      split
      · rename_i c w m e1 e2
        have := tail_sign ts v _ _ e2
        rcases this with h | h <;> cases h
      · rw [hn.2]
    · have hw : Word g := hg.resolve_left hg0
      obtain ⟨k1, k2⟩ := take_all (p := wc) (w := g) (r := 46 :: (n ++ (ts.flatMap parT ++ 58 :: v))) hw.2 (fun c t e => by cases e; rfl)
      rw [if_neg hg0, List.append_assoc, List.singleton_append]
      unfold headL
      rw [k1, k2]
      cases g with
      | nil => exact absurd rfl hg0
      | cons c w =>
        simp only
        rw [h1, h2, hn.2]
  have hlen : ts.length < (lineT (g, n, ts, v)).length + 1 := by
    have := flat_len ts
    unfold lineT
    simp only [List.length_append, List.length_cons]
    omega
  unfold propL
  rw [hh]
  simp only
  rw [if_neg hn.1.1, pars_ok ts [] _ v ht hlen]
  rfl
/-! ### what a line tells -/
theorem while_mem {p : UInt8 → Bool} {l : List UInt8} : ∀ c ∈ l.takeWhile p, p c = true ∧ c ∈ l := fun c hc => ⟨List.all_eq_true.1 List.all_takeWhile c hc, (List.takeWhile_sublist p).mem hc⟩
theorem drop_head {p : UInt8 → Bool} : ∀ {l : List UInt8} {c : UInt8} {t : List UInt8}, l.dropWhile p = c :: t → p c = false
  | a :: l, c, t, h => by
    rw [List.dropWhile_cons] at h
    split at h
    · exact drop_head h
    · rename_i ha
      injection h with h _
      subst h
      simpa using ha
theorem pval_facts {r v m : List UInt8} (h : pvalL r = some (v, m)) : (34 : UInt8) ∉ v ∧ (valid r = true → valid v = true ∧ valid m = true) ∧ (∀ c ∈ v, c ∈ r) ∧ ∀ c ∈ m, c ∈ r := by
  unfold pvalL at h
  split at h
  · rename_i q
    split at h
    · cases h
    · rename_i x m' e
      cases h
      have hx : x = 34 := by have := drop_head e; simpa using this
      subst hx
      have hc := take_drop (· != 34) q
      rw [e] at hc
      refine ⟨fun h34 => ?_, fun hv => ?_, fun c hc2 => List.mem_cons_of_mem _ (while_mem c hc2).2, fun c hc2 => List.mem_cons_of_mem _ ?_⟩
      · have := (while_mem _ h34).1
        simp at this
      · have hq := vtail (by decide) hv
        rw [← hc] at hq
        obtain ⟨a, b⟩ := vcut _ _ _ _ (Nat.le_refl _) (by decide) hq
        exact ⟨a, vtail (by decide) b⟩
      · rw [← hc]
        exact List.mem_append_right _ (List.mem_cons_of_mem _ hc2)
  · cases h
    have hc := take_drop free r
    refine ⟨fun h34 => ?_, fun hv => ?_, fun c hc2 => (while_mem c hc2).2, fun c hc2 => (List.dropWhile_sublist free).mem hc2⟩
    · have := (while_mem _ h34).1
      simp [free] at this
    · cases e : r.dropWhile free with
      | nil =>
        rw [e, List.append_nil] at hc
        rw [hc]
        exact ⟨hv, by decide +kernel⟩
      | cons x t =>
        have hx : x.toNat < 128 := by
          have := drop_head e
          unfold free at this
          simp only [Bool.and_eq_false_iff, bne_eq_false_iff_eq] at this
          rcases this with ((rfl | rfl) | rfl) | rfl <;> decide
        rw [e] at hc
        rw [← hc] at hv
        exact vcut _ _ _ _ (Nat.le_refl _) hx hv
theorem par_facts {r m : List UInt8} {a : Par} (h : parL r = some (a, m)) : OkP a ∧ (valid r = true → valid a.2 = true ∧ valid m = true) ∧ (∀ c ∈ a.2, c ∈ r) ∧ ∀ c ∈ m, c ∈ r := by
  unfold parL at h
  split at h
  · cases h
  · rename_i hn
    split at h
    · rename_i q e
      obtain ⟨⟨v, m'⟩, h1, h2⟩ := Option.map_eq_some_iff.1 h
      cases h2
      obtain ⟨k1, k2, k3, k4⟩ := pval_facts h1
      have hw : Word (r.takeWhile wc) := ⟨hn, fun c hc => (while_mem c hc).1⟩
      have hsub : ∀ c ∈ q, c ∈ r := fun c hc => (List.dropWhile_sublist wc).mem (by rw [e]; exact List.mem_cons_of_mem _ hc)
      refine ⟨⟨hw.up, k1⟩, fun hv => k2 ?_, fun c hc => hsub c (k3 c hc), fun c hc => hsub c (k4 c hc)⟩
      have := vdrop wc_low hv
      rw [e] at this
      exact vtail (by decide) this
    · cases h
theorem pars_facts : ∀ (f : Nat) (ps ps' : List Par) (l m : List UInt8), parsF f ps l = some (ps', m) → ∃ ts, ps' = ps ++ ts ∧ (∀ a ∈ ts, OkP a ∧ (valid l = true → valid a.2 = true) ∧ ∀ c ∈ a.2, c ∈ l) ∧ (valid l = true → valid m = true) ∧ (∀ c ∈ m, c ∈ l) ∧ (ts = [] → m = l)
  | 0, ps, ps', l, m, h => by
    cases h
    exact ⟨[], by simp, (fun a ha => by cases ha), id, fun c hc => hc, fun _ => rfl⟩
  | f + 1, ps, ps', l, m, h => by
    simp only [parsF] at h
    split at h
    · rename_i r
      split at h
      · rename_i p hp
        obtain ⟨a, q⟩ := p
        obtain ⟨k1, k2, k3, k4⟩ := par_facts hp
        obtain ⟨ts, e, h1, h2, h3, _⟩ := pars_facts f _ _ _ _ h
        refine ⟨a :: ts, by rw [e, List.append_assoc, List.singleton_append], fun b hb => ?_, fun hv => h2 (k2 (vtail (by decide) hv)).2, fun c hc => List.mem_cons_of_mem _ (k4 c (h3 c hc)), (fun e => by cases e)⟩
        rcases List.mem_cons.1 hb with rfl | hb
        · exact ⟨k1, fun hv => (k2 (vtail (by decide) hv)).1, fun c hc => List.mem_cons_of_mem _ (k3 c hc)⟩
        · obtain ⟨j1, j2, j3⟩ := h1 b hb
          exact ⟨j1, fun hv => j2 (k2 (vtail (by decide) hv)).2, fun c hc => List.mem_cons_of_mem _ (k4 c (j3 c hc))⟩
      · cases h
    · cases h
      exact ⟨[], by simp, (fun a ha => by cases ha), id, fun c hc => hc, fun _ => rfl⟩
end Go.Proofs.YtphopnfnjnieaaaGreatDoor.Vc
