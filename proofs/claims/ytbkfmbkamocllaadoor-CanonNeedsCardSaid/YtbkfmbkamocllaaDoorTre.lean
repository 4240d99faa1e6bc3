/-
  TREES over plain lists: what becomes of tokens, one by one, and of what they leave in the end; as the document's words have it. Nothing of any program.
-/
import Derived.Test.YtbkfmbkamocllaaDoorTok
namespace Go.Proofs.YtbkfmbkamocllaaDoor.Tr
open Tk

/-- A token as it may come in: its kind, its place, its name, its text, its attributes; is it empty? A node: its parent, its place, its name, its namespace, its attributes, its text. -/
abbrev TokI := Int × Int × List UInt8 × List UInt8 × List Att × Bool
abbrev Nd := Int × Int × List UInt8 × List UInt8 × List Att × List UInt8
instance decNd : DecidableEq Nd := @instDecidableEqProd _ _ inferInstance (@instDecidableEqProd _ _ inferInstance (@instDecidableEqProd _ _ inferInstance (@instDecidableEqProd _ _ inferInstance (@instDecidableEqProd _ _ inferInstance inferInstance))))
def toI (t : Nat × Tok) : TokI := ((t.2.1 : Int), (t.1 : Int), t.2.2.1, t.2.2.2.1, t.2.2.2.2.1, t.2.2.2.2.2)
def xmlnsL : List UInt8 := [120, 109, 108, 110, 115]
def blankL (l : List UInt8) : Bool := l.all bl
def isX (a : Att) : Bool := decide (a.1 = xmlnsL)
/-- What there is: the nodes (with all their texts), and those that are open, the innermost one last. -/
abbrev St := List Nd × List Nat
def topI (o : List Nat) : Int := match o.getLast? with | some p => (p : Int) | none => -1
def innerSpace (st : St) : List UInt8 := match st.2.getLast? with | some p => (match st.1[p]? with | some x => x.2.2.2.1 | none => []) | none => []
def spaceOf (st : St) (as : List Att) : List UInt8 := match as.find? isX with | some a => a.2 | none => innerSpace st
def others (as : List Att) : List Att := as.filter (fun a => !isX a)
def nodeOf (st : St) (t : TokI) : Nd := (topI st.2, t.2.1, t.2.2.1, spaceOf st t.2.2.2.2.1, others t.2.2.2.2.1, [])
def sameName (st : St) (n : List UInt8) : Bool := match st.2.getLast? with | some p => (match st.1[p]? with | some x => decide (x.2.2.1 = n) | none => false) | none => false
def badOpen (st : St) : Nat := if st.1 ≠ [] ∧ st.2 = [] then 6 else if st.2.length = 12 then 7 else if st.1.length = 1000 then 4 else 0
def badL (st : St) (t : TokI) : Nat :=
  if t.1 = 1 then badOpen st
  else if t.1 = 2 then (if sameName st t.2.2.1 then 0 else 6)
  else if t.1 = 3 then (if st.2 = [] ∧ blankL t.2.2.2.1 = false then 6 else 0)
  else 5
def addText (s : List UInt8) (x : Nd) : Nd := (x.1, x.2.1, x.2.2.1, x.2.2.2.1, x.2.2.2.2.1, x.2.2.2.2.2 ++ s)
def beginL (st : St) (t : TokI) : St := (st.1 ++ [nodeOf st t], if t.2.2.2.2.2 then st.2 else st.2 ++ [st.1.length])
def sayL (st : St) (s : List UInt8) : St := match st.2.getLast? with | some p => (st.1.modify p (addText s), st.2) | none => st
def nextL (st : St) (t : TokI) : St := if t.1 = 1 then beginL st t else if t.1 = 2 then (st.1, st.2.dropLast) else sayL st t.2.2.2.1
def runL (st : St) : List TokI → Option (Int × Nat) × St
  | [] => (none, st)
  | t :: ts => if badL st t = 0 then runL (nextL st t) ts else (some (t.2.1, badL st t), st)
def kidOf (els : List Nd) (i : Nat) : Bool := els.any (fun x => decide (x.1 = (i : Int)))
def wrongAt (els : List Nd) (i : Nat) : Bool := match els[i]? with | some x => kidOf els i && !blankL x.2.2.2.2.2 | none => false
def doneAt (els : List Nd) (i : Nat) (x : Nd) : Nd := (x.1, x.2.1, x.2.2.1, x.2.2.2.1, x.2.2.2.2.1, if kidOf els i then [] else x.2.2.2.2.2)
def doneF (els : List Nd) : Nat → List Nd → List Nd
  | _, [] => []
  | i, x :: l => doneAt els i x :: doneF els (i + 1) l
def atOf (els : List Nd) (i : Nat) : Int := match els[i]? with | some x => x.2.1 | none => 0
def finL (els : List Nd) : List Nd × Int × Nat := match (List.range els.length).find? (wrongAt els) with
  | some i => ([], atOf els i, 10)
  | none => (doneF els 0 els, 0, 0)
def endL (st : St) : List Nd × Int × Nat := if st.1 = [] ∨ st.2 ≠ [] then ([], 0, 6) else finL st.1
def buildL (ts : List TokI) : List Nd × Int × Nat := match runL ([], []) ts with
  | (some p, _) => ([], p.1, p.2)
  | (none, st) => endL st
def parseL (l : List UInt8) : List Nd × Int × Nat := if (tokensL l).2.2 = 0 then buildL ((tokensL l).1.map toI) else ([], ((tokensL l).2.1 : Int), (tokensL l).2.2)
def kidsF (i : Int) : Nat → List Nd → List Nat
  | _, [] => []
  | k, x :: l => if x.1 = i then k :: kidsF i (k + 1) l else kidsF i (k + 1) l
def kidsL (l : List Nd) (i : Int) : List Nat := if 0 ≤ i ∧ i < l.length then kidsF i 0 l else []
def attrOf (as : List Att) (n : List UInt8) : List UInt8 × Bool := match as.find? (fun a => decide (a.1 = n)) with | some a => (a.2, true) | none => ([], false)

/-! ### one by one -/
theorem run_bad {st : St} {t : TokI} {ts : List TokI} (h : badL st t ≠ 0) : runL st (t :: ts) = (some (t.2.1, badL st t), st) := by unfold runL; rw [if_neg h]
theorem run_good {st : St} {t : TokI} {ts : List TokI} (h : badL st t = 0) : runL st (t :: ts) = runL (nextL st t) ts := by rw [runL, if_pos h]
theorem build_bad {ts : List TokI} {p : Int × Nat} {st : St} (h : runL ([], []) ts = (some p, st)) : buildL ts = ([], p.1, p.2) := by unfold buildL; rw [h]
theorem build_end {ts : List TokI} {st : St} (h : runL ([], []) ts = (none, st)) : buildL ts = endL st := by unfold buildL; rw [h]
theorem run_at {st st' : St} {ts : List TokI} {k : Nat} {t : TokI} (h : runL st ts = runL st' (ts.drop k)) (ht : ts[k]? = some t) :
    (badL st' t ≠ 0 → ∃ s, runL st ts = (some (t.2.1, badL st' t), s)) ∧ (badL st' t = 0 → runL st ts = runL (nextL st' t) (ts.drop (k + 1))) := by
  obtain ⟨h1, h2⟩ := List.getElem?_eq_some_iff.1 ht
  rw [List.drop_eq_getElem_cons h1, h2] at h
  exact ⟨fun hb => ⟨_, h.trans (run_bad hb)⟩, fun hb => h.trans (run_good hb)⟩
/-- What always holds of what there is. -/
structure OkS (st : St) : Prop where
  open_ : ∀ p ∈ st.2, p < st.1.length
  deep : st.2.length ≤ 12
  many : st.1.length ≤ 1000
  par : ∀ x ∈ st.1, x.1 < (st.1.length : Int)
theorem OkS.nil : OkS ([], []) := ⟨fun p h => (List.not_mem_nil h).elim, by simp, by simp, fun x h => (List.not_mem_nil h).elim⟩
theorem top_lt {st : St} (h : ∀ p ∈ st.2, p < st.1.length) : topI st.2 < (st.1.length : Int) := by
  unfold topI
  split
  · rename_i p hp
    have := h p (List.mem_of_getLast? hp)
    omega
  · omega
theorem badOpen_zero {st : St} (h : badOpen st = 0) : (st.1 = [] ∨ st.2 ≠ []) ∧ st.2.length ≠ 12 ∧ st.1.length ≠ 1000 := by
  unfold badOpen at h
  split at h
  · cases h
  · rename_i h1
    split at h
    · cases h
    · split at h
      · cases h
      · rename_i h2 h3
        refine ⟨?_, h2, h3⟩
        by_cases h4 : st.1 = []
        · exact .inl h4
        · exact .inr (fun h5 => h1 ⟨h4, h5⟩)
theorem OkS.begin {st : St} (h : OkS st) (t : TokI) (hb : badOpen st = 0) : OkS (beginL st t) := by
  obtain ⟨_, h2, h3⟩ := badOpen_zero hb
  have h4 := h.deep
  have h5 := h.many
  unfold beginL
  refine ⟨fun p hp => ?_, ?_, ?_, fun x hx => ?_⟩
  · simp only [List.length_append, List.length_singleton]
    simp only at hp
    split at hp
    · have := h.open_ p hp; omega
    · rcases List.mem_append.1 hp with hp | hp
      · have := h.open_ p hp; omega
      · rw [List.mem_singleton] at hp; omega
  · simp only
    split
    · exact h4
    · rw [List.length_append, List.length_singleton]; omega
  · simp only [List.length_append, List.length_singleton]; omega
  · simp only [List.length_append, List.length_singleton]
    rcases List.mem_append.1 hx with hx | hx
    · have := h.par x hx; omega
    · rw [List.mem_singleton] at hx
      subst hx
      have := top_lt h.open_
      show topI st.2 < _
      omega
theorem OkS.close {st : St} (h : OkS st) : OkS (st.1, st.2.dropLast) := ⟨fun p hp => h.open_ p ((List.dropLast_sublist _).mem hp), by simp only [List.length_dropLast]; have := h.deep; omega, h.many, h.par⟩
theorem mem_modify {s : List UInt8} {x : Nd} : ∀ {l : List Nd} {p : Nat}, x ∈ l.modify p (addText s) → ∃ y ∈ l, x.1 = y.1
  | [], p, h => by simp at h
  | a :: l, 0, h => by
    rw [List.modify_zero_cons] at h
    rcases List.mem_cons.1 h with rfl | h
    · exact ⟨a, List.mem_cons_self, rfl⟩
    · exact ⟨x, List.mem_cons_of_mem _ h, rfl⟩
  | a :: l, p + 1, h => by
    rw [List.modify_succ_cons] at h
    rcases List.mem_cons.1 h with rfl | h
    · exact ⟨x, List.mem_cons_self, rfl⟩
    · obtain ⟨y, hy, e⟩ := mem_modify h
      exact ⟨y, List.mem_cons_of_mem _ hy, e⟩
theorem OkS.say {st : St} (h : OkS st) (s : List UInt8) : OkS (sayL st s) := by
  unfold sayL
  split
  · refine ⟨fun p hp => by simp only [List.length_modify]; exact h.open_ p hp, h.deep, by simp only [List.length_modify]; exact h.many, fun x hx => ?_⟩
    simp only [List.length_modify]
    obtain ⟨y, hy, e⟩ := mem_modify hx
    rw [e]
    exact h.par y hy
  · exact h
theorem OkS.next {st : St} (h : OkS st) {t : TokI} (hb : badL st t = 0) : OkS (nextL st t) := by
  unfold nextL
  unfold badL at hb
  split
  · rename_i h1
    rw [if_pos h1] at hb
    exact h.begin t hb
  · split
    · exact h.close
    · exact h.say _
/-- No text of a node is longer. -/
def Short (n : Nat) (st : St) : Prop := ∀ x ∈ st.1, x.2.2.2.2.2.length ≤ n
theorem Short.nil (n : Nat) : Short n ([], []) := fun x h => by cases h
theorem Short.next {n m : Nat} {st : St} (h : Short n st) {t : TokI} (hm : n + t.2.2.2.1.length ≤ m) : Short m (nextL st t) := by
  unfold nextL
  split
  · intro x hx
    unfold beginL at hx
    rcases List.mem_append.1 hx with hx | hx
    · have := h x hx; omega
    · rw [List.mem_singleton] at hx
      subst hx
      simp [nodeOf]
  · split
    · intro x hx
      have := h x hx; omega
    · unfold sayL
      split
      · intro x hx
        rename_i p _
        obtain ⟨i, hi, rfl⟩ := List.getElem_of_mem hx
        simp only [List.length_modify] at hi
        rw [List.getElem_modify]
        have hxi := h _ (List.getElem_mem hi)
        split
        · unfold addText
          simp only [List.length_append]
          omega
        · omega
      · intro x hx
        have := h x hx; omega
/-- how much text some tokens have -/
def bulk (ts : List TokI) : Nat := (ts.map (fun t => t.2.2.2.1.length)).sum
theorem bulk_take_succ {ts : List TokI} {k : Nat} {t : TokI} (h : ts[k]? = some t) : bulk (ts.take (k + 1)) = bulk (ts.take k) + t.2.2.2.1.length := by
  unfold bulk
  rw [List.take_add_one, h]
  simp
theorem bulk_take_le (ts : List TokI) (k : Nat) : bulk (ts.take k) ≤ bulk ts := by
  have := List.take_append_drop k ts
  unfold bulk
  conv => rhs; rw [← this]
  rw [List.map_append, List.sum_append]
  omega
theorem kid_new {els : List Nd} {x : Nd} {i : Nat} : kidOf (els ++ [x]) i = (kidOf els i || decide (x.1 = (i : Int))) := by simp [kidOf, List.any_append]
theorem kid_modify {els : List Nd} {p i : Nat} {s : List UInt8} : kidOf (els.modify p (addText s)) i = kidOf els i := by
  unfold kidOf
  induction els generalizing p with
  | nil => simp
  | cons a l ih =>
    cases p with
    | zero => rw [List.modify_zero_cons]; rfl
    | succ p => rw [List.modify_succ_cons, List.any_cons, List.any_cons, ih]
theorem doneF_len (els : List Nd) : ∀ (k : Nat) (l : List Nd), (doneF els k l).length = l.length
  | _, [] => rfl
  | k, x :: l => by rw [doneF, List.length_cons, List.length_cons, doneF_len els (k + 1) l]
theorem doneF_get (els : List Nd) : ∀ (k : Nat) (l : List Nd) (i : Nat) (x : Nd), l[i]? = some x → (doneF els k l)[i]? = some (doneAt els (k + i) x)
  | _, [], i, x, h => by simp at h
  | k, a :: l, 0, x, h => by
    obtain rfl : a = x := by simpa using h
    rfl
  | k, a :: l, i + 1, x, h => by
    have := doneF_get els (k + 1) l i x (by simpa using h)
    rw [doneF, List.getElem?_cons_succ, this]
    congr 2
    omega
theorem doneF_snoc (els : List Nd) : ∀ (k : Nat) (l : List Nd) (x : Nd), doneF els k (l ++ [x]) = doneF els k l ++ [doneAt els (k + l.length) x]
  | k, [], x => by simp [doneF]
  | k, a :: l, x => by
    rw [List.cons_append, doneF, doneF_snoc els (k + 1) l x, doneF, List.cons_append, List.length_cons]
    congr 4
    omega
theorem done_take {els : List Nd} {k : Nat} {x : Nd} (h : els[k]? = some x) : doneF els 0 (els.take (k + 1)) = doneF els 0 (els.take k) ++ [doneAt els k x] := by
  have h1 := (List.getElem?_eq_some_iff.1 h).1
  rw [List.take_add_one, h]
  show doneF els 0 (els.take k ++ [x]) = _
  rw [doneF_snoc, List.length_take, Nat.min_eq_left (by omega), Nat.zero_add]
theorem fin_wrong {els : List Nd} {k : Nat} {x : Nd} (h : ∀ i, i < k → wrongAt els i = false) (hx : els[k]? = some x) (hw : wrongAt els k = true) : finL els = ([], x.2.1, 10) := by
  have h1 := (List.getElem?_eq_some_iff.1 hx).1
  have : (List.range els.length).find? (wrongAt els) = some k := by
    rw [List.find?_range_eq_some]
    exact ⟨hw, List.mem_range.2 h1, fun j hj => by rw [h j hj]; rfl⟩
  unfold finL
  rw [this]
  simp only
  unfold atOf
  rw [hx]
theorem fin_right {els : List Nd} (h : ∀ i, i < els.length → wrongAt els i = false) : finL els = (doneF els 0 els, 0, 0) := by
  have : (List.range els.length).find? (wrongAt els) = none := by
    rw [List.find?_eq_none]
    intro i hi
    rw [h i (List.mem_range.1 hi)]
    simp
  unfold finL
  rw [this]
theorem wrong_eq {els : List Nd} {k : Nat} {x : Nd} (hx : els[k]? = some x) : wrongAt els k = (kidOf els k && !blankL x.2.2.2.2.2) := by unfold wrongAt; rw [hx]
theorem kidsF_len (i : Int) : ∀ (k : Nat) (l : List Nd), (kidsF i k l).length ≤ l.length
  | _, [] => Nat.le_refl _
  | k, x :: l => by
    have := kidsF_len i (k + 1) l
    unfold kidsF
    split
    · simp only [List.length_cons]; omega
    · simp only [List.length_cons]; omega
theorem kidsF_snoc (i : Int) : ∀ (k : Nat) (l : List Nd) (x : Nd), kidsF i k (l ++ [x]) = kidsF i k l ++ if x.1 = i then [k + l.length] else []
  | k, [], x => by simp only [List.nil_append, kidsF, List.length_nil, Nat.add_zero]
  | k, a :: l, x => by
    have := kidsF_snoc i (k + 1) l x
    simp only [List.cons_append, kidsF, this, List.length_cons]
    have e : k + 1 + l.length = k + (l.length + 1) := by omega
    rw [e]
    split <;> simp
theorem kids_take {i : Int} {l : List Nd} {k : Nat} {x : Nd} (h : l[k]? = some x) : kidsF i 0 (l.take (k + 1)) = kidsF i 0 (l.take k) ++ if x.1 = i then [k] else [] := by
  have h1 := (List.getElem?_eq_some_iff.1 h).1
  rw [List.take_add_one, h]
  show kidsF i 0 (l.take k ++ [x]) = _
  rw [kidsF_snoc, List.length_take, Nat.min_eq_left (by omega), Nat.zero_add]
theorem kids_any (els : List Nd) : ∀ (k : Nat) (l : List Nd) (i : Nat), (kidsF (i : Int) k l = []) ↔ l.any (fun x => decide (x.1 = (i : Int))) = false
  | _, [], i => by simp [kidsF]
  | k, x :: l, i => by
    have := kids_any els (k + 1) l i
    unfold kidsF
    rw [List.any_cons]
    by_cases h : x.1 = (i : Int)
    · simp [h]
    · simp only [h, if_false, decide_false, Bool.false_or]
      exact this
end Go.Proofs.YtbkfmbkamocllaaDoor.Tr
