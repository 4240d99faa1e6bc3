/-
  TREES AS FILES over plain lists of nodes, first part: those a node stands in, where what stands in it ends, its kids in their order; when nodes are right. Nothing of any program.
-/
import Derived.Test.YtbkfmbkamocllaaDoorTre
namespace Go.Proofs.YtbkfmbkamocllaaDoor.Cn
open Go.Lib Tx Tk Tr

/-- A name, and nothing behind it. -/
def nameT (l : List UInt8) : Bool := l.all wi && (match l with | c :: _ => beg c | [] => false)

/-- Whom a node stands in; -1 where there is none. -/
def par (ns : List Nd) (i : Nat) : Int := match ns[i]? with | some x => x.1 | none => -1
def textAt (ns : List Nd) (i : Nat) : List UInt8 := match ns[i]? with | some x => x.2.2.2.2.2 | none => []
def chain (ns : List Nd) : Nat → Int → List Nat
  | 0, _ => []
  | f + 1, k => if 0 ≤ k then k.toNat :: chain ns f (par ns k.toNat) else []
/-- A node, whom it stands in, whom that one stands in, .. -/
def up (ns : List Nd) (k : Int) : List Nat := chain ns (k.toNat + 1) k
/-- Each one stands in one ahead of it. -/
def Low (ns : List Nd) : Prop := ∀ i, par ns i < (i : Int)
theorem chain_enough {ns : List Nd} (h : Low ns) : ∀ (f g : Nat) (k : Int), k < f → k < g → chain ns f k = chain ns g k
  | 0, 0, _, _, _ => rfl
  | 0, g + 1, k, hf, _ => by
    unfold chain
    rw [if_neg (by omega)]
  | f + 1, 0, k, _, hg => by
    unfold chain
    rw [if_neg (by omega)]
  | f + 1, g + 1, k, hf, hg => by
    unfold chain
    split
    · rename_i h0
      have := h k.toNat
      rw [chain_enough h f g _ (by omega) (by omega)]
    · rfl
theorem up_pos {ns : List Nd} (h : Low ns) (k : Nat) : up ns (k : Int) = k :: up ns (par ns k) := by
  have := h k
  unfold up
  conv => lhs; unfold chain
  rw [if_pos (by omega)]
  simp only [Int.toNat_natCast]
  rw [chain_enough h _ ((par ns k).toNat + 1) _ (by omega) (by omega)]
theorem up_neg {ns : List Nd} {k : Int} (h : k < 0) : up ns k = [] := by
  unfold up chain
  rw [if_neg (by omega)]
theorem up_self {ns : List Nd} (h : Low ns) (k : Nat) : k ∈ up ns (k : Int) := by rw [up_pos h]; exact List.mem_cons_self
theorem up_le {ns : List Nd} (h : Low ns) {a : Nat} : ∀ (m : Nat) (k : Int), k ≤ m → a ∈ up ns k → (a : Int) ≤ k
  | m, k, hm, ha => by
    rcases Int.lt_or_le k 0 with h0 | h0
    · rw [up_neg h0] at ha; cases ha
    obtain ⟨j, rfl⟩ : ∃ j : Nat, k = j := ⟨k.toNat, by omega⟩
    rw [up_pos h] at ha
    rcases List.mem_cons.1 ha with rfl | ha
    · omega
    · have h1 := h j
      rcases Int.lt_or_le (par ns j) 0 with h2 | h2
      · rw [up_neg h2] at ha; cases ha
      · cases m with
        | zero => omega
        | succ m => have := up_le h m (par ns j) (by omega) ha; omega
theorem up_le' {ns : List Nd} (h : Low ns) {a : Nat} {k : Int} (ha : a ∈ up ns k) : (a : Int) ≤ k := up_le h k.toNat k (by omega) ha

/-- Where what stands in node i ends. -/
def endOf (ns : List Nd) (i : Nat) : Nat := i + 1 + ((ns.drop (i + 1)).takeWhile fun x => decide ((i : Int) ≤ x.1)).length
theorem tw_get {p : Nd → Bool} : ∀ {l : List Nd} {j : Nat} {x : Nd}, j < (l.takeWhile p).length → l[j]? = some x → p x = true
  | [], j, x, h, _ => by simp at h
  | a :: l, j, x, h, hx => by
    rw [List.takeWhile_cons] at h
    split at h
    · rename_i ha
      cases j with
      | zero => obtain rfl : a = x := by simpa using hx
                exact ha
      | succ j => exact tw_get (by simpa using h) (by simpa using hx)
    · simp at h
theorem tw_end {p : Nd → Bool} : ∀ {l : List Nd} {x : Nd}, l[(l.takeWhile p).length]? = some x → p x = false
  | [], x, h => by simp at h
  | a :: l, x, h => by
    rw [List.takeWhile_cons] at h
    split at h
    · exact tw_end (by simpa using h)
    · rename_i ha
      obtain rfl : a = x := by simpa using h
      exact Bool.eq_false_iff.2 ha
theorem tw_len_le {p : Nd → Bool} : ∀ l : List Nd, (l.takeWhile p).length ≤ l.length
  | [] => Nat.le_refl _
  | a :: l => by
    rw [List.takeWhile_cons]
    split
    · have := tw_len_le (p := p) l; simp only [List.length_cons]; omega
    · exact Nat.zero_le _
theorem par_some {ns : List Nd} {i : Nat} {x : Nd} (h : ns[i]? = some x) : par ns i = x.1 := by unfold par; rw [h]
theorem text_some {ns : List Nd} {i : Nat} {x : Nd} (h : ns[i]? = some x) : textAt ns i = x.2.2.2.2.2 := by unfold textAt; rw [h]
theorem par_none {ns : List Nd} {i : Nat} (h : ns.length ≤ i) : par ns i = -1 := by unfold par; rw [List.getElem?_eq_none h]
theorem end_gt (ns : List Nd) (i : Nat) : i < endOf ns i := by unfold endOf; omega
theorem end_le (ns : List Nd) {i : Nat} (h : i < ns.length) : endOf ns i ≤ ns.length := by
  have := tw_len_le (p := fun x : Nd => decide ((i : Int) ≤ x.1)) (ns.drop (i + 1))
  rw [List.length_drop] at this
  unfold endOf
  omega
theorem inside {ns : List Nd} {i j : Nat} (hi : i < ns.length) (h1 : i < j) (h2 : j < endOf ns i) : (i : Int) ≤ par ns j := by
  have hj : j < ns.length := Nat.lt_of_lt_of_le h2 (end_le ns hi)
  have hx : ns[j]? = some ns[j] := List.getElem?_eq_getElem hj
  rw [par_some hx]
  have h3 : (ns.drop (i + 1))[j - (i + 1)]? = some ns[j] := by rw [List.getElem?_drop, show i + 1 + (j - (i + 1)) = j by omega]; exact hx
  have := tw_get (p := fun x : Nd => decide ((i : Int) ≤ x.1)) (l := ns.drop (i + 1)) (j := j - (i + 1)) (by unfold endOf at h2; omega) h3
  exact of_decide_eq_true this
theorem at_end {ns : List Nd} {i : Nat} (h : endOf ns i < ns.length) : par ns (endOf ns i) < (i : Int) := by
  have hx : ns[endOf ns i]? = some ns[endOf ns i] := List.getElem?_eq_getElem h
  rw [par_some hx]
  have h3 : (ns.drop (i + 1))[((ns.drop (i + 1)).takeWhile fun x => decide ((i : Int) ≤ x.1)).length]? = some ns[endOf ns i] := by rw [List.getElem?_drop]; exact hx
  have := of_decide_eq_false (tw_end h3)
  omega

/-- Attributes that may be. -/
def RightA (as : List Att) : Prop := as.length ≤ 9 ∧ (as.map (·.1)).Nodup ∧ ∀ a ∈ as, nameT a.1 = true ∧ a.1 ≠ xmlnsL ∧ valid a.2 = true
/-- P10.1: nodes that are right. -/
structure Right (ns : List Nd) : Prop where
  ne : ns ≠ []
  many : ns.length ≤ 1000
  first : par ns 0 = -1
  each : ∀ x ∈ ns, nameT x.2.2.1 = true ∧ valid x.2.2.2.2.2 = true ∧ valid x.2.2.2.1 = true ∧ RightA x.2.2.2.2.1
  stands : ∀ i, 0 < i → i < ns.length → ∃ p : Nat, par ns i = p ∧ p < i ∧ p ∈ up ns ((i : Int) - 1) ∧ textAt ns p = [] ∧ (up ns (p : Int)).length + 1 ≤ 12
theorem Right.pos {ns : List Nd} (h : Right ns) : 0 < ns.length := List.length_pos_iff.2 h.ne
theorem Right.low {ns : List Nd} (h : Right ns) : Low ns := fun i => by
  rcases Nat.lt_or_ge i ns.length with hi | hi
  · rcases Nat.eq_zero_or_pos i with rfl | h0
    · rw [h.first]; decide
    · obtain ⟨p, e, hp, _⟩ := h.stands i h0 hi
      rw [e]; omega
  · rw [par_none hi]; omega
theorem Right.depth {ns : List Nd} (h : Right ns) {i : Nat} (hi : i < ns.length) : (up ns (i : Int)).length ≤ 12 := by
  rw [up_pos h.low, List.length_cons]
  rcases Nat.eq_zero_or_pos i with rfl | h0
  · rw [h.first, up_neg (by decide)]; decide
  · obtain ⟨p, e, _, _, _, hd⟩ := h.stands i h0 hi
    rw [e]; exact hd
/-- whom one stands in that is within k's, and is ahead of k, k stands in, too -/
theorem up_in {ns : List Nd} (h : Low ns) {k a : Nat} (hk : k < ns.length) : ∀ (m j : Nat), j ≤ m → k ≤ j → j < endOf ns k → a ∈ up ns (j : Int) → a < k → a ∈ up ns (par ns k)
  | m, j, hm, h1, h2, ha, hak => by
    rw [up_pos h] at ha
    rcases List.mem_cons.1 ha with rfl | ha
    · omega
    rcases Nat.eq_or_lt_of_le h1 with rfl | h3
    · exact ha
    · have h4 := inside hk h3 h2
      have h5 := h j
      obtain ⟨p, hp⟩ : ∃ p : Nat, par ns j = p := ⟨(par ns j).toNat, by omega⟩
      rw [hp] at ha h4 h5
      cases m with
      | zero => omega
      | succ m => exact up_in h hk m p (by omega) (by omega) (by omega) ha hak
/-- behind node i's end: whom they stand in is not i, nor within it -/
theorem up_far {ns : List Nd} (h : Right ns) {i : Nat} : ∀ (m j : Nat), j ≤ m → endOf ns i ≤ j → j < ns.length → ∀ a ∈ up ns (j : Int), a < endOf ns i → a < i
  | m, j, hm, h1, h2, a, ha, hae => by
    rw [up_pos h.low] at ha
    rcases List.mem_cons.1 ha with rfl | ha
    · omega
    have hj0 : 0 < j := by have := end_gt ns i; omega
    obtain ⟨p, hp, hpj, hpu, _⟩ := h.stands j hj0 h2
    rw [hp] at ha
    have hap := up_le' h.low ha
    rcases Nat.eq_or_lt_of_le h1 with e | h3
    · have h4 := at_end (ns := ns) (i := i) (by omega)
      rw [e, hp] at h4
      omega
    · cases m with
      | zero => omega
      | succ m =>
        rcases Nat.lt_or_ge p (endOf ns i) with h4 | h4
        · have := up_far h m (j - 1) (by omega) (by omega) (by omega) p (by rw [show ((j - 1 : Nat) : Int) = (j : Int) - 1 by omega]; exact hpu) h4
          omega
        · exact up_far h m p (by omega) h4 (by omega) a ha hae
/-- the kids of i from k on -/
def kidsFrom (ns : List Nd) (i k : Nat) : List Nat := kidsF (i : Int) k (ns.drop k)
theorem kidsFrom_end {ns : List Nd} {i k : Nat} (h : ns.length ≤ k) : kidsFrom ns i k = [] := by
  unfold kidsFrom
  rw [List.drop_eq_nil_of_le h]
  rfl
theorem kidsFrom_step {ns : List Nd} {i k : Nat} (h : k < ns.length) : kidsFrom ns i k = if par ns k = (i : Int) then k :: kidsFrom ns i (k + 1) else kidsFrom ns i (k + 1) := by
  unfold kidsFrom
  rw [List.drop_eq_getElem_cons h, kidsF, par_some (List.getElem?_eq_getElem h)]
theorem kidsFrom_skip {ns : List Nd} {i k : Nat} (h : k ≤ ns.length) : ∀ m, k ≤ m → m ≤ ns.length → (∀ j, k ≤ j → j < m → par ns j ≠ (i : Int)) → kidsFrom ns i k = kidsFrom ns i m
  | m, h1, h2, h3 => by
    rcases Nat.eq_or_lt_of_le h1 with rfl | h4
    · rfl
    · obtain ⟨m, rfl⟩ : ∃ m', m = m' + 1 := ⟨m - 1, by omega⟩
      rw [kidsFrom_skip h m (by omega) (by omega) (fun j a b => h3 j a (by omega)), kidsFrom_step (by omega), if_neg (h3 m (by omega) (by omega))]
theorem kids_from {ns : List Nd} (h : Low ns) {i : Nat} (hi : i < ns.length) : kidsL ns (i : Int) = kidsFrom ns i (i + 1) := by
  unfold kidsL
  rw [if_pos (by omega)]
  show kidsFrom ns i 0 = _
  refine kidsFrom_skip (Nat.zero_le _) (i + 1) (Nat.zero_le _) (by omega) (fun j _ hj e => ?_)
  have := h j
  omega
/-- no kids behind the end -/
theorem kids_no {ns : List Nd} (h : Right ns) {i : Nat} : kidsFrom ns i (endOf ns i) = [] := by
  rcases Nat.lt_or_ge (endOf ns i) ns.length with hl | hl
  · rw [kidsFrom_skip (by omega) ns.length (by omega) (Nat.le_refl _), kidsFrom_end (Nat.le_refl _)]
    intro j h1 h2 e
    have := up_far h (i := i) j j (Nat.le_refl _) h1 h2 i (by rw [up_pos h.low, e]; exact List.mem_cons_of_mem _ (up_self h.low i)) (end_gt ns i)
    omega
  · exact kidsFrom_end hl
/-- one kid, and those behind it -/
theorem kids_one {ns : List Nd} (h : Right ns) {i k : Nat} (hk : k < ns.length) (hp : par ns k = (i : Int)) : kidsFrom ns i k = k :: kidsFrom ns i (endOf ns k) := by
  rw [kidsFrom_step hk, if_pos hp]
  congr 1
  have h1 := end_gt ns k
  have h2 := end_le ns hk
  have h3 := h.low k
  refine kidsFrom_skip (by omega) _ (by omega) h2 (fun j a b e => ?_)
  have := inside hk (j := j) (by omega) b
  omega
theorem end_within {ns : List Nd} {i k : Nat} (hi : i < ns.length) (hik : i < k) (hke : k < endOf ns i) : endOf ns k ≤ endOf ns i := by
  rcases Nat.lt_or_ge (endOf ns i) (endOf ns k) with hl | hl
  · have h1 : k < ns.length := Nat.lt_of_lt_of_le hke (end_le ns hi)
    have h2 := end_le ns h1
    have h3 := at_end (ns := ns) (i := i) (by omega)
    have h4 := inside h1 (j := endOf ns i) hke hl
    omega
  · exact hl
/-- behind a kid comes the next one, if anything that stands in i does -/
theorem kid_next {ns : List Nd} (h : Right ns) {i k : Nat} (hi : i < ns.length) (hik : i < k) (hke : k < endOf ns i) (hp : par ns k = (i : Int)) (hm : endOf ns k < endOf ns i) : par ns (endOf ns k) = (i : Int) := by
  have hkn : k < ns.length := Nat.lt_of_lt_of_le hke (end_le ns hi)
  have hmn : endOf ns k < ns.length := Nat.lt_of_lt_of_le hm (end_le ns hi)
  have hk1 := end_gt ns k
  have h1 := inside hi (j := endOf ns k) (by omega) hm
  have h2 := at_end hmn
  obtain ⟨p, e, hpm, hpu, _⟩ := h.stands (endOf ns k) (by omega) hmn
  rw [e] at h1 h2 ⊢
  have h3 := up_in h.low hkn (a := p) (endOf ns k - 1) (endOf ns k - 1) (Nat.le_refl _) (by omega) (by omega) (by rw [show ((endOf ns k - 1 : Nat) : Int) = (endOf ns k : Int) - 1 by omega]; exact hpu) (by omega)
  rw [hp] at h3
  have := up_le' h.low h3
  omega
theorem kid_first {ns : List Nd} (h : Right ns) {i : Nat} (hi : i < ns.length) (hm : i + 1 < endOf ns i) : par ns (i + 1) = (i : Int) := by
  have h1 := inside hi (j := i + 1) (by omega) hm
  have h2 := h.low (i + 1)
  omega
theorem end_zero {ns : List Nd} (h : Right ns) : endOf ns 0 = ns.length := by
  have h1 := end_le ns h.pos
  have h2 := end_gt ns 0
  rcases Nat.lt_or_ge (endOf ns 0) ns.length with hl | hl
  · have h3 := at_end hl
    obtain ⟨p, e, _⟩ := h.stands (endOf ns 0) (by omega) hl
    rw [e] at h3
    omega
  · omega

/-! ### what is written -/
/-- An attribute as it is written; the head of an element, in a namespace; its end. -/
def attrT (n v : List UInt8) : List UInt8 := 32 :: (n ++ (61 :: 39 :: (esc v ++ [39])))
def allA (x : Nd) (sp : List UInt8) : List Att := (if x.2.2.2.1 = sp then [] else [(xmlnsL, x.2.2.2.1)]) ++ x.2.2.2.2.1
def attrsT (as : List Att) : List UInt8 := as.flatMap fun a => attrT a.1 a.2
def headT (x : Nd) (sp : List UInt8) : List UInt8 := 60 :: (x.2.2.1 ++ attrsT (allA x sp))
def closeT (n : List UInt8) : List UInt8 := 60 :: 47 :: (n ++ [62])
/-- A node, with all that stands in it. -/
def writeF (ns : List Nd) : Nat → Nat → List UInt8 → List UInt8
  | 0, _, _ => []
  | f + 1, i, sp => match ns[i]? with
    | none => []
    | some x => if x.2.2.2.2.2 = [] ∧ kidsL ns (i : Int) = [] then headT x sp ++ [47, 62]
      else headT x sp ++ ([62] ++ (esc x.2.2.2.2.2 ++ ((kidsL ns (i : Int)).flatMap (fun k => writeF ns f k x.2.2.2.1) ++ closeT x.2.2.1)))
def canonT (ns : List Nd) : List UInt8 := headL ++ (10 :: writeF ns 12 0 [])
def opT (x : Nd) (sp : List UInt8) (e : Bool) : Tok := (1, x.2.2.1, [], allA x sp, e)
def clT (x : Nd) : Tok := (2, x.2.2.1, [], [], false)
def txT (s : List UInt8) : List Tok := if s = [] then [] else [(3, [], s, [], false)]
/-- .. and the tokens of it. -/
def toksF (ns : List Nd) : Nat → Nat → List UInt8 → List Tok
  | 0, _, _ => []
  | f + 1, i, sp => match ns[i]? with
    | none => []
    | some x => if x.2.2.2.2.2 = [] ∧ kidsL ns (i : Int) = [] then [opT x sp true]
      else opT x sp false :: (txT x.2.2.2.2.2 ++ ((kidsL ns (i : Int)).flatMap (fun k => toksF ns f k x.2.2.2.1) ++ [clT x]))
end Go.Proofs.YtbkfmbkamocllaaDoor.Cn
