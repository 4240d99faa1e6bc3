/- Texts laid together: CanA CanR CnS -/
import Derived.Test.YtbkfmbkamocllaaGreatDoorTre
/-
  TREES AS FILES over plain lists of nodes, first part: those a node stands in, where what stands in it ends, its kids in their order; when nodes are right. Nothing of any program.
-/
namespace Go.Proofs.YtbkfmbkamocllaaGreatDoor.Cn
open Go.Lib Tx Tk Tr

/-- A name, and nothing behind it. -/
def nameT (l : List UInt8) : Bool := l.all wi && (match l with | c :: _ => beg c | [] => false)

/-- Whom a node stands in; -1 where there is none. -/
def par (ns : List Nd) (i : Nat) : Int := match ns[i]? with | some x => x.1 | none => -1
def textAt (ns : List Nd) (i : Nat) : List UInt8 := match ns[i]? with | some x => x.2.2.2.2.2 | none => []
def chain (ns : List Nd) : Nat → Int → List Nat
  | 0, _ => []
  | f + 1, k => if 0 ≤ k then k.toNat :: chain ns f (par ns k.toNat) else []
/-- A node, whom it stands in, whom that one stands in, .. -/
def up (ns : List Nd) (k : Int) : List Nat := chain ns (k.toNat + 1) k
/-- Each one stands in one ahead of it. -/
def Low (ns : List Nd) : Prop := ∀ i, par ns i < (i : Int)
theorem chain_enough {ns : List Nd} (h : Low ns) : ∀ (f g : Nat) (k : Int), k < f → k < g → chain ns f k = chain ns g k
  | 0, 0, _, _, _ => rfl
  | 0, g + 1, k, hf, _ => by
    unfold chain
    rw [if_neg (by omega)]
  | f + 1, 0, k, _, hg => by
    unfold chain
    rw [if_neg (by omega)]
  | f + 1, g + 1, k, hf, hg => by
    unfold chain
    split
    · rename_i h0
      have := h k.toNat
      rw [chain_enough h f g _ (by omega) (by omega)]
    · rfl
theorem up_pos {ns : List Nd} (h : Low ns) (k : Nat) : up ns (k : Int) = k :: up ns (par ns k) := by
  have := h k
  unfold up
  conv => lhs; unfold chain
  rw [if_pos (by omega)]
  simp only [Int.toNat_natCast]
  rw [chain_enough h _ ((par ns k).toNat + 1) _ (by omega) (by omega)]
theorem up_neg {ns : List Nd} {k : Int} (h : k < 0) : up ns k = [] := by
  unfold up chain
  rw [if_neg (by omega)]
theorem up_self {ns : List Nd} (h : Low ns) (k : Nat) : k ∈ up ns (k : Int) := by rw [up_pos h]; exact List.mem_cons_self
theorem up_le {ns : List Nd} (h : Low ns) {a : Nat} : ∀ (m : Nat) (k : Int), k ≤ m → a ∈ up ns k → (a : Int) ≤ k
  | m, k, hm, ha => by
    rcases Int.lt_or_le k 0 with h0 | h0
    · rw [up_neg h0] at ha; cases ha
    obtain ⟨j, rfl⟩ : ∃ j : Nat, k = j := ⟨k.toNat, by omega⟩
    rw [up_pos h] at ha
    rcases List.mem_cons.1 ha with rfl | ha
    · omega
    · have h1 := h j
      rcases Int.lt_or_le (par ns j) 0 with h2 | h2
      · rw [up_neg h2] at ha; cases ha
      · cases m with
        | zero => omega
        | succ m => have := up_le h m (par ns j) (by omega) ha; omega
theorem up_le' {ns : List Nd} (h : Low ns) {a : Nat} {k : Int} (ha : a ∈ up ns k) : (a : Int) ≤ k := up_le h k.toNat k (by omega) ha

/-- Where what stands in node i ends. -/
def endOf (ns : List Nd) (i : Nat) : Nat := i + 1 + ((ns.drop (i + 1)).takeWhile fun x => decide ((i : Int) ≤ x.1)).length
theorem tw_get {p : Nd → Bool} : ∀ {l : List Nd} {j : Nat} {x : Nd}, j < (l.takeWhile p).length → l[j]? = some x → p x = true
  | [], j, x, h, _ => by simp at h
  | a :: l, j, x, h, hx => by
    rw [List.takeWhile_cons] at h
    split at h
    · rename_i ha
      cases j with
      | zero => obtain rfl : a = x := by simpa using hx
                exact ha
      | succ j => exact tw_get (by simpa using h) (by simpa using hx)
    · simp at h
theorem tw_end {p : Nd → Bool} : ∀ {l : List Nd} {x : Nd}, l[(l.takeWhile p).length]? = some x → p x = false
  | [], x, h => by simp at h
  | a :: l, x, h => by
    rw [List.takeWhile_cons] at h
    split at h
    · exact tw_end (by simpa using h)
    · rename_i ha
      obtain rfl : a = x := by simpa using h
      exact Bool.eq_false_iff.2 ha
theorem tw_len_le {p : Nd → Bool} : ∀ l : List Nd, (l.takeWhile p).length ≤ l.length
  | [] => Nat.le_refl _
  | a :: l => by
    rw [List.takeWhile_cons]
    split
    · have := tw_len_le (p := p) l; simp only [List.length_cons]; omega
    · exact Nat.zero_le _
theorem par_some {ns : List Nd} {i : Nat} {x : Nd} (h : ns[i]? = some x) : par ns i = x.1 := by unfold par; rw [h]
theorem text_some {ns : List Nd} {i : Nat} {x : Nd} (h : ns[i]? = some x) : textAt ns i = x.2.2.2.2.2 := by unfold textAt; rw [h]
theorem par_none {ns : List Nd} {i : Nat} (h : ns.length ≤ i) : par ns i = -1 := by unfold par; rw [List.getElem?_eq_none h]
theorem end_gt (ns : List Nd) (i : Nat) : i < endOf ns i := by unfold endOf; omega
theorem end_le (ns : List Nd) {i : Nat} (h : i < ns.length) : endOf ns i ≤ ns.length := by
  have := tw_len_le (p := fun x : Nd => decide ((i : Int) ≤ x.1)) (ns.drop (i + 1))
  rw [List.length_drop] at this
  unfold endOf
  omega
theorem inside {ns : List Nd} {i j : Nat} (hi : i < ns.length) (h1 : i < j) (h2 : j < endOf ns i) : (i : Int) ≤ par ns j := by
  have hj : j < ns.length := Nat.lt_of_lt_of_le h2 (end_le ns hi)
  have hx : ns[j]? = some ns[j] := List.getElem?_eq_getElem hj
  rw [par_some hx]
  have h3 : (ns.drop (i + 1))[j - (i + 1)]? = some ns[j] := by rw [List.getElem?_drop, show i + 1 + (j - (i + 1)) = j by omega]; exact hx
  have := tw_get (p := fun x : Nd => decide ((i : Int) ≤ x.1)) (l := ns.drop (i + 1)) (j := j - (i + 1)) (by unfold endOf at h2; omega) h3
  exact of_decide_eq_true this
theorem at_end {ns : List Nd} {i : Nat} (h : endOf ns i < ns.length) : par ns (endOf ns i) < (i : Int) := by
  have hx : ns[endOf ns i]? = some ns[endOf ns i] := List.getElem?_eq_getElem h
  rw [par_some hx]
  have h3 : (ns.drop (i + 1))[((ns.drop (i + 1)).takeWhile fun x => decide ((i : Int) ≤ x.1)).length]? = some ns[endOf ns i] := by rw [List.getElem?_drop]; exact hx
  have := of_decide_eq_false (tw_end h3)
  omega

/-- Attributes that may be. -/
def RightA (as : List Att) : Prop := as.length ≤ 9 ∧ (as.map (·.1)).Nodup ∧ ∀ a ∈ as, nameT a.1 = true ∧ a.1 ≠ xmlnsL ∧ valid a.2 = true
/-- P10.1: nodes that are right. -/
structure Right (ns : List Nd) : Prop where
  ne : ns ≠ []
  many : ns.length ≤ 1000
  first : par ns 0 = -1
  each : ∀ x ∈ ns, nameT x.2.2.1 = true ∧ valid x.2.2.2.2.2 = true ∧ valid x.2.2.2.1 = true ∧ RightA x.2.2.2.2.1
  stands : ∀ i, 0 < i → i < ns.length → ∃ p : Nat, par ns i = p ∧ p < i ∧ p ∈ up ns ((i : Int) - 1) ∧ textAt ns p = [] ∧ (up ns (p : Int)).length + 1 ≤ 12
theorem Right.pos {ns : List Nd} (h : Right ns) : 0 < ns.length := List.length_pos_iff.2 h.ne
theorem Right.low {ns : List Nd} (h : Right ns) : Low ns := fun i => by
  rcases Nat.lt_or_ge i ns.length with hi | hi
  · rcases Nat.eq_zero_or_pos i with rfl | h0
    · rw [h.first]; decide
    · obtain ⟨p, e, hp, _⟩ := h.stands i h0 hi
      rw [e]; omega
  · rw [par_none hi]; omega
theorem Right.depth {ns : List Nd} (h : Right ns) {i : Nat} (hi : i < ns.length) : (up ns (i : Int)).length ≤ 12 := by
  rw [up_pos h.low, List.length_cons]
  rcases Nat.eq_zero_or_pos i with rfl | h0
  · rw [h.first, up_neg (by decide)]; decide
  · obtain ⟨p, e, _, _, _, hd⟩ := h.stands i h0 hi
    rw [e]; exact hd
/-- whom one stands in that is within k's, and is ahead of k, k stands in, too -/
theorem up_in {ns : List Nd} (h : Low ns) {k a : Nat} (hk : k < ns.length) : ∀ (m j : Nat), j ≤ m → k ≤ j → j < endOf ns k → a ∈ up ns (j : Int) → a < k → a ∈ up ns (par ns k)
  | m, j, hm, h1, h2, ha, hak => by
    rw [up_pos h] at ha
    rcases List.mem_cons.1 ha with rfl | ha
    · omega
    rcases Nat.eq_or_lt_of_le h1 with rfl | h3
    · exact ha
    · have h4 := inside hk h3 h2
      have h5 := h j
      obtain ⟨p, hp⟩ : ∃ p : Nat, par ns j = p := ⟨(par ns j).toNat, by omega⟩
      rw [hp] at ha h4 h5
      cases m with
      | zero => omega
      | succ m => exact up_in h hk m p (by omega) (by omega) (by omega) ha hak
/-- behind node i's end: whom they stand in is not i, nor within it -/
theorem up_far {ns : List Nd} (h : Right ns) {i : Nat} : ∀ (m j : Nat), j ≤ m → endOf ns i ≤ j → j < ns.length → ∀ a ∈ up ns (j : Int), a < endOf ns i → a < i
  | m, j, hm, h1, h2, a, ha, hae => by
    rw [up_pos h.low] at ha
    rcases List.mem_cons.1 ha with rfl | ha
    · omega
    have hj0 : 0 < j := by have := end_gt ns i; omega
    obtain ⟨p, hp, hpj, hpu, _⟩ := h.stands j hj0 h2
    rw [hp] at ha
    have hap := up_le' h.low ha
    rcases Nat.eq_or_lt_of_le h1 with e | h3
    · have h4 := at_end (ns := ns) (i := i) (by omega)
      rw [e, hp] at h4
      omega
    · cases m with
      | zero => omega
      | succ m =>
        rcases Nat.lt_or_ge p (endOf ns i) with h4 | h4
        · have := up_far h m (j - 1) (by omega) (by omega) (by omega) p (by rw [show ((j - 1 : Nat) : Int) = (j : Int) - 1 by omega]; exact hpu) h4
          omega
        · exact up_far h m p (by omega) h4 (by omega) a ha hae
/-- the kids of i from k on -/
def kidsFrom (ns : List Nd) (i k : Nat) : List Nat := kidsF (i : Int) k (ns.drop k)
theorem kidsFrom_end {ns : List Nd} {i k : Nat} (h : ns.length ≤ k) : kidsFrom ns i k = [] := by
  unfold kidsFrom
  rw [List.drop_eq_nil_of_le h]
  rfl
theorem kidsFrom_step {ns : List Nd} {i k : Nat} (h : k < ns.length) : kidsFrom ns i k = if par ns k = (i : Int) then k :: kidsFrom ns i (k + 1) else kidsFrom ns i (k + 1) := by
  unfold kidsFrom
  rw [List.drop_eq_getElem_cons h, kidsF, par_some (List.getElem?_eq_getElem h)]
theorem kidsFrom_skip {ns : List Nd} {i k : Nat} (h : k ≤ ns.length) : ∀ m, k ≤ m → m ≤ ns.length → (∀ j, k ≤ j → j < m → par ns j ≠ (i : Int)) → kidsFrom ns i k = kidsFrom ns i m
  | m, h1, h2, h3 => by
    rcases Nat.eq_or_lt_of_le h1 with rfl | h4
    · rfl
    · obtain ⟨m, rfl⟩ : ∃ m', m = m' + 1 := ⟨m - 1, by omega⟩
      rw [kidsFrom_skip h m (by omega) (by omega) (fun j a b => h3 j a (by omega)), kidsFrom_step (by omega), if_neg (h3 m (by omega) (by omega))]
theorem kids_from {ns : List Nd} (h : Low ns) {i : Nat} (hi : i < ns.length) : kidsL ns (i : Int) = kidsFrom ns i (i + 1) := by
  unfold kidsL
  rw [if_pos (by omega)]
  show kidsFrom ns i 0 = _
  refine kidsFrom_skip (Nat.zero_le _) (i + 1) (Nat.zero_le _) (by omega) (fun j _ hj e => ?_)
  have := h j
  omega
/-- no kids behind the end -/
theorem kids_no {ns : List Nd} (h : Right ns) {i : Nat} : kidsFrom ns i (endOf ns i) = [] := by
  rcases Nat.lt_or_ge (endOf ns i) ns.length with hl | hl
  · rw [kidsFrom_skip (by omega) ns.length (by omega) (Nat.le_refl _), kidsFrom_end (Nat.le_refl _)]
    intro j h1 h2 e
    have := up_far h (i := i) j j (Nat.le_refl _) h1 h2 i (by rw [up_pos h.low, e]; exact List.mem_cons_of_mem _ (up_self h.low i)) (end_gt ns i)
    omega
  · exact kidsFrom_end hl
/-- one kid, and those behind it -/
theorem kids_one {ns : List Nd} (h : Right ns) {i k : Nat} (hk : k < ns.length) (hp : par ns k = (i : Int)) : kidsFrom ns i k = k :: kidsFrom ns i (endOf ns k) := by
  rw [kidsFrom_step hk, if_pos hp]
  congr 1
  have h1 := end_gt ns k
  have h2 := end_le ns hk
  have h3 := h.low k
  refine kidsFrom_skip (by omega) _ (by omega) h2 (fun j a b e => ?_)
  have := inside hk (j := j) (by omega) b
  omega
theorem end_within {ns : List Nd} {i k : Nat} (hi : i < ns.length) (hik : i < k) (hke : k < endOf ns i) : endOf ns k ≤ endOf ns i := by
  rcases Nat.lt_or_ge (endOf ns i) (endOf ns k) with hl | hl
  · have h1 : k < ns.length := Nat.lt_of_lt_of_le hke (end_le ns hi)
    have h2 := end_le ns h1
    have h3 := at_end (ns := ns) (i := i) (by omega)
    have h4 := inside h1 (j := endOf ns i) hke hl
    omega
  · exact hl
/-- behind a kid comes the next one, if anything that stands in i does -/
theorem kid_next {ns : List Nd} (h : Right ns) {i k : Nat} (hi : i < ns.length) (hik : i < k) (hke : k < endOf ns i) (hp : par ns k = (i : Int)) (hm : endOf ns k < endOf ns i) : par ns (endOf ns k) = (i : Int) := by
  have hkn : k < ns.length := Nat.lt_of_lt_of_le hke (end_le ns hi)
  have hmn : endOf ns k < ns.length := Nat.lt_of_lt_of_le hm (end_le ns hi)
  have hk1 := end_gt ns k
  have h1 := inside hi (j := endOf ns k) (by omega) hm
  have h2 := at_end hmn
  obtain ⟨p, e, hpm, hpu, _⟩ := h.stands (endOf ns k) (by omega) hmn
  rw [e] at h1 h2 ⊢
  have h3 := up_in h.low hkn (a := p) (endOf ns k - 1) (endOf ns k - 1) (Nat.le_refl _) (by omega) (by omega) (by rw [show ((endOf ns k - 1 : Nat) : Int) = (endOf ns k : Int) - 1 by omega]; exact hpu) (by omega)
  rw [hp] at h3
  have := up_le' h.low h3
  omega
theorem kid_first {ns : List Nd} (h : Right ns) {i : Nat} (hi : i < ns.length) (hm : i + 1 < endOf ns i) : par ns (i + 1) = (i : Int) := by
  have h1 := inside hi (j := i + 1) (by omega) hm
  have h2 := h.low (i + 1)
  omega
theorem end_zero {ns : List Nd} (h : Right ns) : endOf ns 0 = ns.length := by
  have h1 := end_le ns h.pos
  have h2 := end_gt ns 0
  rcases Nat.lt_or_ge (endOf ns 0) ns.length with hl | hl
  · have h3 := at_end hl
    obtain ⟨p, e, _⟩ := h.stands (endOf ns 0) (by omega) hl
    rw [e] at h3
    omega
  · omega

/-! ### what is written -/
/-- An attribute as it is written; the head of an element, in a namespace; its end. -/
def attrT (n v : List UInt8) : List UInt8 := 32 :: (n ++ (61 :: 39 :: (esc v ++ [39])))
def allA (x : Nd) (sp : List UInt8) : List Att := (if x.2.2.2.1 = sp then [] else [(xmlnsL, x.2.2.2.1)]) ++ x.2.2.2.2.1
def attrsT (as : List Att) : List UInt8 := as.flatMap fun a => attrT a.1 a.2
def headT (x : Nd) (sp : List UInt8) : List UInt8 := 60 :: (x.2.2.1 ++ attrsT (allA x sp))
def closeT (n : List UInt8) : List UInt8 := 60 :: 47 :: (n ++ [62])
/-- A node, with all that stands in it. -/
def writeF (ns : List Nd) : Nat → Nat → List UInt8 → List UInt8
  | 0, _, _ => []
  | f + 1, i, sp => match ns[i]? with
    | none => []
    | some x => if x.2.2.2.2.2 = [] ∧ kidsL ns (i : Int) = [] then headT x sp ++ [47, 62]
      else headT x sp ++ ([62] ++ (esc x.2.2.2.2.2 ++ ((kidsL ns (i : Int)).flatMap (fun k => writeF ns f k x.2.2.2.1) ++ closeT x.2.2.1)))
def canonT (ns : List Nd) : List UInt8 := headL ++ (10 :: writeF ns 12 0 [])
def opT (x : Nd) (sp : List UInt8) (e : Bool) : Tok := (1, x.2.2.1, [], allA x sp, e)
def clT (x : Nd) : Tok := (2, x.2.2.1, [], [], false)
def txT (s : List UInt8) : List Tok := if s = [] then [] else [(3, [], s, [], false)]
/-- .. and the tokens of it. -/
def toksF (ns : List Nd) : Nat → Nat → List UInt8 → List Tok
  | 0, _, _ => []
  | f + 1, i, sp => match ns[i]? with
    | none => []
    | some x => if x.2.2.2.2.2 = [] ∧ kidsL ns (i : Int) = [] then [opT x sp true]
      else opT x sp false :: (txT x.2.2.2.2.2 ++ ((kidsL ns (i : Int)).flatMap (fun k => toksF ns f k x.2.2.2.1) ++ [clT x]))
end Go.Proofs.YtbkfmbkamocllaaGreatDoor.Cn
/-
  TREES AS FILES over plain lists: when nodes are right, asked as a program asks it, node by node, with those that are open beside. Nothing of any program.
-/
namespace Go.Proofs.YtbkfmbkamocllaaGreatDoor.Cn
open Go.Lib Tx Tk Tr

/-! ### whom one stands in, as far as it is known -/
def LowB (ns : List Nd) (n : Nat) : Prop := ∀ j, j < n → par ns j < (j : Int)
theorem Low.b {ns : List Nd} (h : Low ns) (n : Nat) : LowB ns n := fun j _ => h j
theorem chain_enoughB {ns : List Nd} {n : Nat} (h : LowB ns n) : ∀ (f g : Nat) (k : Int), k < n → k < f → k < g → chain ns f k = chain ns g k
  | 0, 0, _, _, _, _ => rfl
  | 0, g + 1, k, _, hf, _ => by
    unfold chain
    rw [if_neg (by omega)]
  | f + 1, 0, k, _, _, hg => by
    unfold chain
    rw [if_neg (by omega)]
  | f + 1, g + 1, k, hn, hf, hg => by
    unfold chain
    split
    · have := h k.toNat (by omega)
      rw [chain_enoughB h f g _ (by omega) (by omega) (by omega)]
    · rfl
theorem up_posB {ns : List Nd} {n : Nat} (h : LowB ns n) {k : Nat} (hk : k < n) : up ns (k : Int) = k :: up ns (par ns k) := by
  have := h k hk
  unfold up
  conv => lhs; unfold chain
  rw [if_pos (by omega)]
  simp only [Int.toNat_natCast]
  rw [chain_enoughB h _ ((par ns k).toNat + 1) _ (by omega) (by omega) (by omega)]
theorem up_leB {ns : List Nd} {n : Nat} (h : LowB ns n) {a : Nat} : ∀ (m : Nat) (k : Int), k ≤ m → k < n → a ∈ up ns k → (a : Int) ≤ k
  | m, k, hm, hn, ha => by
    rcases Int.lt_or_le k 0 with h0 | h0
    · rw [up_neg h0] at ha; cases ha
    obtain ⟨j, rfl⟩ : ∃ j : Nat, k = j := ⟨k.toNat, by omega⟩
    rw [up_posB h (by omega)] at ha
    rcases List.mem_cons.1 ha with rfl | ha
    · omega
    · have h1 := h j (by omega)
      rcases Int.lt_or_le (par ns j) 0 with h2 | h2
      · rw [up_neg h2] at ha; cases ha
      · cases m with
        | zero => omega
        | succ m => have := up_leB h m (par ns j) (by omega) (by omega) ha; omega
theorem up_split {ns : List Nd} {n : Nat} (h : LowB ns n) {p : Nat} : ∀ (m : Nat) (k : Int), k ≤ m → k < n → p ∈ up ns k → ∃ pre, up ns k = pre ++ up ns (p : Int) ∧ ∀ a ∈ pre, p < a
  | m, k, hm, hn, ha => by
    rcases Int.lt_or_le k 0 with h0 | h0
    · rw [up_neg h0] at ha; cases ha
    obtain ⟨j, rfl⟩ : ∃ j : Nat, k = j := ⟨k.toNat, by omega⟩
    rw [up_posB h (by omega)] at ha ⊢
    rcases List.mem_cons.1 ha with rfl | ha
    · exact ⟨[], by rw [up_posB h (by omega)]; rfl, fun a h => by cases h⟩
    · have h1 := h j (by omega)
      rcases Int.lt_or_le (par ns j) 0 with h2 | h2
      · rw [up_neg h2] at ha; cases ha
      · cases m with
        | zero => omega
        | succ m =>
          have hp := up_leB h m (par ns j) (by omega) (by omega) ha
          obtain ⟨pre, e, hpre⟩ := up_split h m (par ns j) (by omega) (by omega) ha
          refine ⟨j :: pre, by rw [e]; rfl, fun a ha => ?_⟩
          rcases List.mem_cons.1 ha with rfl | ha
          · omega
          · exact hpre a ha

/-! ### where a number stands in a row -/
def posI (p : Int) (o : List Nat) : Option Nat := o.findIdx? (fun k : Nat => decide ((k : Int) = p))
def posV (p : Int) (o : List Nat) : Int := match posI p o with | some j => (j : Int) | none => -1
theorem posI_none {p : Int} {o : List Nat} : posI p o = none ↔ ∀ a ∈ o, (a : Int) ≠ p := by
  unfold posI
  rw [List.findIdx?_eq_none_iff]
  simp
theorem posI_some {p : Int} {o : List Nat} {k a : Nat} (h : o[k]? = some a) (ha : (a : Int) = p) (hno : ∀ (j b : Nat), j < k → o[j]? = some b → (b : Int) ≠ p) : posI p o = some k := by
  unfold posI
  rw [List.findIdx?_eq_some_iff_getElem]
  obtain ⟨h1, h2⟩ := List.getElem?_eq_some_iff.1 h
  refine ⟨h1, by rw [h2]; simpa using ha, fun j hj => ?_⟩
  have := hno j o[j] hj (List.getElem?_eq_getElem (by omega))
  simpa using this
theorem posI_get {p : Int} {o : List Nat} {k : Nat} (h : posI p o = some k) : ∃ a : Nat, o[k]? = some a ∧ (a : Int) = p := by
  unfold posI at h
  rw [List.findIdx?_eq_some_iff_getElem] at h
  obtain ⟨h1, h2, _⟩ := h
  exact ⟨o[k], List.getElem?_eq_getElem h1, by simpa using h2⟩

/-! ### those that are open, node by node -/
def nestF (ns : List Nd) : List Nat → Nat → List Nd → Bool
  | _, _, [] => true
  | o, i, x :: l => match posI x.1 o with
    | none => false
    | some k => if k + 1 = 12 ∨ textAt ns x.1.toNat ≠ [] then false else nestF ns (o.take (k + 1) ++ [i + 1]) (i + 1) l
def nestB (ns : List Nd) : Bool := nestF ns [0] 0 (ns.drop 1) && decide (par ns 0 = -1)
def Stands (ns : List Nd) (i : Nat) : Prop := ∃ p : Nat, par ns i = p ∧ p < i ∧ p ∈ up ns ((i : Int) - 1) ∧ textAt ns p = [] ∧ (up ns (p : Int)).length + 1 ≤ 12
theorem nest_iff {ns : List Nd} : ∀ (l : List Nd) (i : Nat) (o : List Nat), l = ns.drop (i + 1) → i < ns.length → LowB ns (i + 1) → o = (up ns (i : Int)).reverse → o.length ≤ 12 → (nestF ns o i l = true ↔ ∀ j, i < j → j < ns.length → Stands ns j)
  | [], i, o, hl, hi, hlow, ho, ho2 => by
    have : ns.length ≤ i + 1 := by
      have := congrArg List.length hl
      simp at this
      omega
    simp only [nestF, true_iff]
    intro j h1 h2
    omega
  | x :: l, i, o, hl, hi, hlow, ho, ho2 => by
    have hi1 : i + 1 < ns.length := by
      have := congrArg List.length hl
      simp at this
      omega
    have hd := List.drop_eq_getElem_cons hi1
    rw [← hl] at hd
    injection hd with hx hl2
    have hxg : ns[i + 1]? = some x := by rw [hx]; exact List.getElem?_eq_getElem hi1
    have hpar : par ns (i + 1) = x.1 := par_some hxg
    have hi2 : ((i + 1 : Nat) : Int) - 1 = (i : Int) := by omega
    have hup := up_posB hlow (Nat.lt_succ_self i)
    unfold nestF
    cases hp : posI x.1 o with
    | none =>
      rw [posI_none] at hp
      simp only [Bool.false_eq_true, false_iff]
      intro hall
      obtain ⟨p, e, _, hpu, _⟩ := hall (i + 1) (Nat.lt_succ_self i) hi1
      rw [hi2] at hpu
      exact hp p (by rw [ho, List.mem_reverse]; exact hpu) (by rw [← e, hpar])
    | some k =>
      obtain ⟨p, hk, hpx⟩ := posI_get hp
      have hpu : p ∈ up ns (i : Int) := by
        have := List.mem_of_getElem? hk
        rwa [ho, List.mem_reverse] at this
      have hple := up_leB hlow i (i : Int) (Int.le_refl _) (by omega) hpu
      obtain ⟨pre, hsp, hpre⟩ := up_split hlow i (i : Int) (Int.le_refl _) (by omega) hpu
      have hor : o = (up ns (p : Int)).reverse ++ pre.reverse := by rw [ho, hsp, List.reverse_append]
      have hupp := up_posB hlow (k := p) (by omega)
      have hkk : k + 1 = (up ns (p : Int)).length := by
        have h1 : posI x.1 o = some ((up ns (p : Int)).length - 1) := by
          refine posI_some (a := p) ?_ hpx ?_
          · rw [hor, List.getElem?_append_left (by rw [List.length_reverse, hupp, List.length_cons]; omega), hupp, List.reverse_cons, List.length_cons, Nat.add_sub_cancel, List.getElem?_append_right (by rw [List.length_reverse]; omega), List.length_reverse, Nat.sub_self]
            rfl
          · intro j b hj hb
            rw [hupp, List.length_cons, Nat.add_sub_cancel] at hj
            rw [hor, hupp, List.reverse_cons, List.append_assoc, List.getElem?_append_left (by rw [List.length_reverse]; omega)] at hb
            have hm := List.mem_of_getElem? hb
            rw [List.mem_reverse] at hm
            have h2 := hlow p (by omega)
            rcases Int.lt_or_le (par ns p) 0 with h3 | h3
            · rw [up_neg h3] at hm; cases hm
            · have := up_leB hlow p (par ns p) (by omega) (by omega) hm
              omega
        rw [h1] at hp
        injection hp with hp
        have : 0 < (up ns (p : Int)).length := by rw [hupp]; simp
        omega
      have hpi : x.1.toNat = p := by omega
      have hlen : (up ns (p : Int)).length ≤ 12 := by
        rw [hor, List.length_append, List.length_reverse] at ho2
        omega
      simp only
      rw [hpi]
      split
      · rename_i hbad
        simp only [Bool.false_eq_true, false_iff]
        intro hall
        obtain ⟨q, e, _, _, ht, hd⟩ := hall (i + 1) (Nat.lt_succ_self i) hi1
        have hq : q = p := by omega
        subst hq
        rcases hbad with h1 | h1
        · omega
        · exact h1 ht
      · rename_i hgood
        have g1 : k + 1 ≠ 12 := fun e => hgood (.inl e)
        have g2 : textAt ns p = [] := by
          rcases Decidable.em (textAt ns p = []) with h | h
          · exact h
          · exact absurd (.inr h) hgood
        have hlow2 : LowB ns (i + 1 + 1) := fun j hj => by
          rcases Nat.lt_or_ge j (i + 1) with h | h
          · exact hlow j h
          · obtain rfl : j = i + 1 := by omega
            omega
        have htake : o.take (k + 1) = (up ns (p : Int)).reverse := by
          rw [hor, List.take_left' (by rw [List.length_reverse]; omega)]
        have ho' : o.take (k + 1) ++ [i + 1] = (up ns ((i + 1 : Nat) : Int)).reverse := by
          rw [htake, up_posB hlow2 (Nat.lt_succ_self _), hpar, ← hpx, List.reverse_cons]
        have hst : Stands ns (i + 1) := ⟨p, by rw [hpar, hpx], by omega, by rw [hi2]; exact hpu, g2, by omega⟩
        rw [nest_iff l (i + 1) _ hl2 hi1 hlow2 ho' (by rw [List.length_append, htake, List.length_reverse, List.length_singleton]; omega)]
        constructor
        · intro hall j h1 h2
          rcases Nat.eq_or_lt_of_le h1 with e | h3
          · rw [← e]; exact hst
          · exact hall j h3 h2
        · intro hall j h1 h2
          exact hall j (by omega) h2

/-! ### attributes, nodes -/
def okA (as : List Att) (i : Nat) : Bool := match as[i]? with
  | some a => nameT a.1 && !decide (a.1 = xmlnsL) && valid a.2 && !(as.take i).any (fun b => decide (b.1 = a.1))
  | none => true
def apartB (as : List Att) : Bool := decide (as.length < 10) && (List.range as.length).all (okA as)
theorem apart_iff {as : List Att} : apartB as = true ↔ RightA as := by
  unfold apartB RightA
  rw [Bool.and_eq_true, decide_eq_true_eq, List.all_eq_true]
  have key : (∀ i ∈ List.range as.length, okA as i = true) ↔ ((as.map (·.1)).Nodup ∧ ∀ a ∈ as, nameT a.1 = true ∧ a.1 ≠ xmlnsL ∧ valid a.2 = true) := by
    constructor
    · intro h
      have each : ∀ (i : Nat) (a : Att), as[i]? = some a → nameT a.1 = true ∧ a.1 ≠ xmlnsL ∧ valid a.2 = true ∧ ∀ (j : Nat) (b : Att), j < i → as[j]? = some b → b.1 ≠ a.1 := fun i a hi => by
        have h1 := h i (List.mem_range.2 (List.getElem?_eq_some_iff.1 hi).1)
        unfold okA at h1
        rw [hi] at h1
        simp only [Bool.and_eq_true, Bool.not_eq_true', decide_eq_false_iff_not, List.any_eq_false] at h1
        obtain ⟨⟨⟨a1, a2⟩, a3⟩, a4⟩ := h1
        refine ⟨a1, a2, a3, fun j b hj hb e => ?_⟩
        have := a4 b (List.mem_of_getElem? (i := j) (by rw [List.getElem?_take_of_lt hj]; exact hb))
        exact this (by simpa using e)
      refine ⟨?_, fun a ha => ?_⟩
      · rw [List.nodup_iff_pairwise_ne, List.pairwise_iff_getElem]
        intro i j hi hj hij e
        rw [List.length_map] at hi hj
        rw [List.getElem_map, List.getElem_map] at e
        exact (each j as[j] (List.getElem?_eq_getElem hj)).2.2.2 i as[i] hij (List.getElem?_eq_getElem hi) e
      · obtain ⟨i, hi⟩ := List.mem_iff_getElem?.1 ha
        obtain ⟨a1, a2, a3, _⟩ := each i a hi
        exact ⟨a1, a2, a3⟩
    · rintro ⟨hn, hall⟩ i hi
      rw [List.mem_range] at hi
      unfold okA
      rw [List.getElem?_eq_getElem hi]
      obtain ⟨a1, a2, a3⟩ := hall as[i] (List.getElem_mem hi)
      simp only [Bool.and_eq_true, Bool.not_eq_true', decide_eq_false_iff_not, List.any_eq_false]
      refine ⟨⟨⟨a1, a2⟩, a3⟩, fun b hb e => ?_⟩
      obtain ⟨j, hj⟩ := List.mem_iff_getElem?.1 hb
      have hji : j < i := by
        have := (List.getElem?_eq_some_iff.1 hj).1
        rw [List.length_take] at this
        omega
      rw [List.getElem?_take_of_lt hji] at hj
      obtain ⟨hj1, rfl⟩ := List.getElem?_eq_some_iff.1 hj
      rw [List.nodup_iff_pairwise_ne, List.pairwise_iff_getElem] at hn
      refine hn j i (by rw [List.length_map]; exact hj1) (by rw [List.length_map]; exact hi) hji ?_
      rw [List.getElem_map, List.getElem_map]
      simpa using e
  rw [key]
  constructor
  · rintro ⟨a, b, c⟩
    exact ⟨by omega, b, c⟩
  · rintro ⟨a, b, c⟩
    exact ⟨by omega, b, c⟩
def goodN (x : Nd) : Bool := nameT x.2.2.1 && valid x.2.2.2.2.2 && valid x.2.2.2.1 && apartB x.2.2.2.2.1
def rightB (ns : List Nd) : Bool := decide (0 < ns.length) && decide (ns.length ≤ 1000) && nestB ns && ns.all goodN
theorem right_iff {ns : List Nd} : rightB ns = true ↔ Right ns := by
  unfold rightB nestB
  simp only [Bool.and_eq_true, decide_eq_true_eq, List.all_eq_true]
  constructor
  · rintro ⟨⟨⟨h0, h1⟩, h2, h3⟩, h4⟩
    have hlow : LowB ns (0 + 1) := fun j hj => by
      obtain rfl : j = 0 := by omega
      rw [h3]; decide
    have hu : up ns ((0 : Nat) : Int) = [0] := by
      rw [up_posB hlow (Nat.zero_lt_one), h3, up_neg (by decide)]
    have h5 := (nest_iff (ns.drop 1) 0 [0] rfl h0 hlow (by rw [hu]; rfl) (by decide)).1 h2
    refine ⟨List.length_pos_iff.1 h0, h1, h3, fun x hx => ?_, fun i hi hl => h5 i hi hl⟩
    have := h4 x hx
    unfold goodN at this
    simp only [Bool.and_eq_true] at this
    exact ⟨this.1.1.1, this.1.1.2, this.1.2, apart_iff.1 this.2⟩
  · intro h
    have hlow := h.low
    have hu : up ns ((0 : Nat) : Int) = [0] := by
      rw [up_pos hlow, h.first, up_neg (by decide)]
    refine ⟨⟨⟨h.pos, h.many⟩, ?_, h.first⟩, fun x hx => ?_⟩
    · exact (nest_iff (ns.drop 1) 0 [0] rfl h.pos (hlow.b _) (by rw [hu]; rfl) (by decide)).2 (fun j a b => h.stands j a b)
    · obtain ⟨a, b, c, d⟩ := h.each x hx
      unfold goodN
      simp only [Bool.and_eq_true]
      exact ⟨⟨⟨a, b⟩, c⟩, apart_iff.2 d⟩
end Go.Proofs.YtbkfmbkamocllaaGreatDoor.Cn
/-
  TREES AS FILES over plain lists: how long what is written is. Nothing of any program.
-/
namespace Go.Proofs.YtbkfmbkamocllaaGreatDoor.Cn
open Go.Lib Tx Tk Tr

def ownA (as : List Att) : Nat := (as.map fun a => 4 + a.1.length + 6 * a.2.length).sum
def ownL (x : Nd) : Nat := 20 + 2 * x.2.2.1.length + 6 * x.2.2.2.1.length + 6 * x.2.2.2.2.2.length + ownA x.2.2.2.2.1
def span (ns : List Nd) (a b : Nat) : Nat := (((ns.drop a).take (b - a)).map ownL).sum
theorem span_split (ns : List Nd) {a b c : Nat} (h1 : a ≤ b) (h2 : b ≤ c) : span ns a c = span ns a b + span ns b c := by
  unfold span
  rw [show c - a = (b - a) + (c - b) by omega, List.take_add, List.map_append, List.sum_append, List.drop_drop, show a + (b - a) = b by omega]
theorem span_one {ns : List Nd} {i : Nat} {x : Nd} (h : ns[i]? = some x) : span ns i (i + 1) = ownL x := by
  obtain ⟨h1, h2⟩ := List.getElem?_eq_some_iff.1 h
  unfold span
  rw [List.drop_eq_getElem_cons h1, h2, show i + 1 - i = 1 by omega]
  simp
theorem attrT_len (n v : List UInt8) : (attrT n v).length ≤ 4 + n.length + 6 * v.length := by
  unfold attrT
  have := esc_len v
  simp only [List.length_cons, List.length_append, List.length_nil]
  omega
theorem attrsT_len : ∀ as : List Att, (attrsT as).length ≤ ownA as
  | [] => Nat.le_refl _
  | a :: as => by
    have h1 := attrsT_len as
    have h2 := attrT_len a.1 a.2
    unfold attrsT ownA at *
    rw [List.flatMap_cons, List.length_append, List.map_cons, List.sum_cons]
    omega
theorem ownA_append (a b : List Att) : ownA (a ++ b) = ownA a + ownA b := by unfold ownA; rw [List.map_append, List.sum_append]
theorem allA_len (x : Nd) (sp : List UInt8) : ownA (allA x sp) ≤ 9 + 6 * x.2.2.2.1.length + ownA x.2.2.2.2.1 := by
  unfold allA
  rw [ownA_append]
  split
  · have : ownA [] = 0 := rfl
    omega
  · have : ownA [(xmlnsL, x.2.2.2.1)] = 4 + 5 + 6 * x.2.2.2.1.length := by
      unfold ownA
      simp [xmlnsL]
    omega
theorem headT_len (x : Nd) (sp : List UInt8) : (headT x sp).length ≤ 10 + x.2.2.1.length + 6 * x.2.2.2.1.length + ownA x.2.2.2.2.1 := by
  have h1 := attrsT_len (allA x sp)
  have h2 := allA_len x sp
  unfold headT
  simp only [List.length_cons, List.length_append]
  omega
theorem kids_len {ns : List Nd} (h : Right ns) {i : Nat} {g : Nat → List UInt8} (hi : i < ns.length) (hg : ∀ k, k < ns.length → (g k).length ≤ span ns k (endOf ns k)) :
    ∀ (m k : Nat), endOf ns i - k ≤ m → i < k → k ≤ endOf ns i → (k = endOf ns i ∨ par ns k = (i : Int)) → ((kidsFrom ns i k).flatMap g).length ≤ span ns k (endOf ns i)
  | m, k, hm, h1, h2, h3 => by
    rcases Nat.eq_or_lt_of_le h2 with rfl | h4
    · rw [kids_no h]
      exact Nat.zero_le _
    · have hp : par ns k = (i : Int) := h3.resolve_left (by omega)
      have hkn : k < ns.length := Nat.lt_of_lt_of_le h4 (end_le ns hi)
      have hke := end_gt ns k
      have hw := end_within hi h1 h4
      cases m with
      | zero => omega
      | succ m =>
        have ih := kids_len h hi hg m (endOf ns k) (by omega) (by omega) hw (by
          rcases Nat.eq_or_lt_of_le hw with e | e
          · exact .inl e
          · exact .inr (kid_next h hi h1 h4 hp e))
        have h5 := hg k hkn
        rw [kids_one h hkn hp, List.flatMap_cons, List.length_append, span_split ns (Nat.le_of_lt hke) hw]
        omega
theorem writeF_len {ns : List Nd} (h : Right ns) : ∀ (f i : Nat) (sp : List UInt8), i < ns.length → (writeF ns f i sp).length ≤ span ns i (endOf ns i)
  | 0, i, sp, _ => Nat.zero_le _
  | f + 1, i, sp, hi => by
    obtain ⟨x, hx⟩ : ∃ x, ns[i]? = some x := ⟨_, List.getElem?_eq_getElem hi⟩
    have hge := end_gt ns i
    have hsp := span_split ns (a := i) (b := i + 1) (c := endOf ns i) (by omega) (by omega)
    rw [span_one hx] at hsp
    have h1 := headT_len x sp
    have h2 := esc_len x.2.2.2.2.2
    have hk := kids_len h hi (g := fun k => writeF ns f k x.2.2.2.1) (fun k hk => writeF_len h f k _ hk) _ (i + 1) (Nat.le_refl _) (by omega) (by omega) (by
      rcases Nat.lt_or_ge (i + 1) (endOf ns i) with h4 | h4
      · exact .inr (kid_first h hi h4)
      · exact .inl (by omega))
    rw [← kids_from h.low hi] at hk
    unfold writeF
    rw [hx]
    simp only
    unfold ownL at hsp
    split
    · rw [List.length_append, hsp]
      simp only [List.length_cons, List.length_nil]
      omega
    · unfold closeT
      rw [List.length_append, List.length_append, List.length_append, List.length_append, hsp]
      simp only [List.length_cons, List.length_nil, List.length_append]
      omega
theorem span_all (ns : List Nd) : span ns 0 ns.length = (ns.map ownL).sum := by
  unfold span
  rw [List.drop_zero, Nat.sub_zero, List.take_length]
theorem span_le (ns : List Nd) {a b : Nat} (h1 : a ≤ b) (h2 : b ≤ ns.length) : span ns a b ≤ (ns.map ownL).sum := by
  rw [← span_all]
  have e1 := span_split ns (a := 0) (b := a) (c := ns.length) (Nat.zero_le _) (by omega)
  have e2 := span_split ns (a := a) (b := b) (c := ns.length) h1 h2
  omega
theorem write_le {ns : List Nd} (h : Right ns) {f i : Nat} {sp : List UInt8} (hi : i < ns.length) : (writeF ns f i sp).length ≤ (ns.map ownL).sum :=
  Nat.le_trans (writeF_len h f i sp hi) (span_le ns (Nat.le_of_lt (end_gt ns i)) (end_le ns hi))
/-- .. of a node's kids alone, as many as they are -/
theorem kids_le {ns : List Nd} (h : Right ns) {f i : Nat} {sp : List UInt8} (hi : i < ns.length) (j : Nat) : (((kidsL ns (i : Int)).take j).flatMap (fun k => writeF ns f k sp)).length ≤ (ns.map ownL).sum := by
  have hge := end_gt ns i
  have hk := kids_len h hi (g := fun k => writeF ns f k sp) (fun k hk => writeF_len h f k _ hk) _ (i + 1) (Nat.le_refl _) (by omega) (by omega) (by
    rcases Nat.lt_or_ge (i + 1) (endOf ns i) with h4 | h4
    · exact .inr (kid_first h hi h4)
    · exact .inl (by omega))
  rw [← kids_from h.low hi] at hk
  have h2 := span_le ns (a := i + 1) (b := endOf ns i) (by omega) (end_le ns hi)
  have h3 : ((kidsL ns (i : Int)).flatMap (fun k => writeF ns f k sp)).length = (((kidsL ns (i : Int)).take j).flatMap (fun k => writeF ns f k sp)).length + (((kidsL ns (i : Int)).drop j).flatMap (fun k => writeF ns f k sp)).length := by
    rw [← List.length_append, ← List.flatMap_append, List.take_append_drop]
  omega
theorem own_le {ns : List Nd} {x : Nd} (h : x ∈ ns) : ownL x ≤ (ns.map ownL).sum := by
  obtain ⟨i, hi⟩ := List.mem_iff_getElem?.1 h
  rw [← span_one hi]
  exact span_le ns (Nat.le_succ i) (List.getElem?_eq_some_iff.1 hi).1
theorem ownA_mem {as : List Att} {a : Att} (h : a ∈ as) : a.1.length ≤ ownA as ∧ a.2.length ≤ ownA as := by
  induction as with
  | nil => cases h
  | cons b as ih =>
    unfold ownA at *
    rw [List.map_cons, List.sum_cons]
    rcases List.mem_cons.1 h with rfl | h
    · omega
    · have := ih h; omega
theorem ownA_count : ∀ as : List Att, as.length ≤ ownA as
  | [] => Nat.le_refl _
  | a :: as => by
    have := ownA_count as
    unfold ownA at *
    rw [List.map_cons, List.sum_cons, List.length_cons]
    omega
end Go.Proofs.YtbkfmbkamocllaaGreatDoor.Cn
