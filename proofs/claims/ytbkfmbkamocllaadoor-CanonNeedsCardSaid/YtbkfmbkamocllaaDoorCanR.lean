/-
  TREES AS FILES over plain lists: when nodes are right, asked as a program asks it, node by node, with those that are open beside. Nothing of any program.
-/
import Derived.Test.YtbkfmbkamocllaaDoorCanA
namespace Go.Proofs.YtbkfmbkamocllaaDoor.Cn
open Go.Lib Tx Tk Tr

/-! ### whom one stands in, as far as it is known -/
def LowB (ns : List Nd) (n : Nat) : Prop := ∀ j, j < n → par ns j < (j : Int)
theorem Low.b {ns : List Nd} (h : Low ns) (n : Nat) : LowB ns n := fun j _ => h j
theorem chain_enoughB {ns : List Nd} {n : Nat} (h : LowB ns n) : ∀ (f g : Nat) (k : Int), k < n → k < f → k < g → chain ns f k = chain ns g k
  | 0, 0, _, _, _, _ => rfl
  | 0, g + 1, k, _, hf, _ => by
    unfold chain
    rw [if_neg (by omega)]
  | f + 1, 0, k, _, _, hg => by
    unfold chain
    rw [if_neg (by omega)]
  | f + 1, g + 1, k, hn, hf, hg => by
    unfold chain
    split
    · have := h k.toNat (by omega)
      rw [chain_enoughB h f g _ (by omega) (by omega) (by omega)]
    · rfl
theorem up_posB {ns : List Nd} {n : Nat} (h : LowB ns n) {k : Nat} (hk : k < n) : up ns (k : Int) = k :: up ns (par ns k) := by
  have := h k hk
  unfold up
  conv => lhs; unfold chain
  rw [if_pos (by omega)]
  simp only [Int.toNat_natCast]
  rw [chain_enoughB h _ ((par ns k).toNat + 1) _ (by omega) (by omega) (by omega)]
theorem up_leB {ns : List Nd} {n : Nat} (h : LowB ns n) {a : Nat} : ∀ (m : Nat) (k : Int), k ≤ m → k < n → a ∈ up ns k → (a : Int) ≤ k
  | m, k, hm, hn, ha => by
    rcases Int.lt_or_le k 0 with h0 | h0
    · rw [up_neg h0] at ha; cases ha
    obtain ⟨j, rfl⟩ : ∃ j : Nat, k = j := ⟨k.toNat, by omega⟩
    rw [up_posB h (by omega)] at ha
    rcases List.mem_cons.1 ha with rfl | ha
    · omega
    · have h1 := h j (by omega)
      rcases Int.lt_or_le (par ns j) 0 with h2 | h2
      · rw [up_neg h2] at ha; cases ha
      · cases m with
        | zero => omega
        | succ m => have := up_leB h m (par ns j) (by omega) (by omega) ha; omega
theorem up_split {ns : List Nd} {n : Nat} (h : LowB ns n) {p : Nat} : ∀ (m : Nat) (k : Int), k ≤ m → k < n → p ∈ up ns k → ∃ pre, up ns k = pre ++ up ns (p : Int) ∧ ∀ a ∈ pre, p < a
  | m, k, hm, hn, ha => by
    rcases Int.lt_or_le k 0 with h0 | h0
    · rw [up_neg h0] at ha; cases ha
    obtain ⟨j, rfl⟩ : ∃ j : Nat, k = j := ⟨k.toNat, by omega⟩
    rw [up_posB h (by omega)] at ha ⊢
    rcases List.mem_cons.1 ha with rfl | ha
    · exact ⟨[], by rw [up_posB h (by omega)]; rfl, fun a h => by cases h⟩
    · have h1 := h j (by omega)
      rcases Int.lt_or_le (par ns j) 0 with h2 | h2
      · rw [up_neg h2] at ha; cases ha
      · cases m with
        | zero => omega
        | succ m =>
          have hp := up_leB h m (par ns j) (by omega) (by omega) ha
          obtain ⟨pre, e, hpre⟩ := up_split h m (par ns j) (by omega) (by omega) ha
          refine ⟨j :: pre, by rw [e]; rfl, fun a ha => ?_⟩
          rcases List.mem_cons.1 ha with rfl | ha
          · omega
          · exact hpre a ha

/-! ### where a number stands in a row -/
def posI (p : Int) (o : List Nat) : Option Nat := o.findIdx? (fun k : Nat => decide ((k : Int) = p))
def posV (p : Int) (o : List Nat) : Int := match posI p o with | some j => (j : Int) | none => -1
theorem posI_none {p : Int} {o : List Nat} : posI p o = none ↔ ∀ a ∈ o, (a : Int) ≠ p := by
  unfold posI
  rw [List.findIdx?_eq_none_iff]
  simp
theorem posI_some {p : Int} {o : List Nat} {k a : Nat} (h : o[k]? = some a) (ha : (a : Int) = p) (hno : ∀ (j b : Nat), j < k → o[j]? = some b → (b : Int) ≠ p) : posI p o = some k := by
  unfold posI
  rw [List.findIdx?_eq_some_iff_getElem]
  obtain ⟨h1, h2⟩ := List.getElem?_eq_some_iff.1 h
  refine ⟨h1, by rw [h2]; simpa using ha, fun j hj => ?_⟩
  have := hno j o[j] hj (List.getElem?_eq_getElem (by omega))
  simpa using this
theorem posI_get {p : Int} {o : List Nat} {k : Nat} (h : posI p o = some k) : ∃ a : Nat, o[k]? = some a ∧ (a : Int) = p := by
  unfold posI at h
  rw [List.findIdx?_eq_some_iff_getElem] at h
  obtain ⟨h1, h2, _⟩ := h
  exact ⟨o[k], List.getElem?_eq_getElem h1, by simpa using h2⟩

/-! ### those that are open, node by node -/
def nestF (ns : List Nd) : List Nat → Nat → List Nd → Bool
  | _, _, [] => true
  | o, i, x :: l => match posI x.1 o with
    | none => false
    | some k => if k + 1 = 12 ∨ textAt ns x.1.toNat ≠ [] then false else nestF ns (o.take (k + 1) ++ [i + 1]) (i + 1) l
def nestB (ns : List Nd) : Bool := nestF ns [0] 0 (ns.drop 1) && decide (par ns 0 = -1)
def Stands (ns : List Nd) (i : Nat) : Prop := ∃ p : Nat, par ns i = p ∧ p < i ∧ p ∈ up ns ((i : Int) - 1) ∧ textAt ns p = [] ∧ (up ns (p : Int)).length + 1 ≤ 12
theorem nest_iff {ns : List Nd} : ∀ (l : List Nd) (i : Nat) (o : List Nat), l = ns.drop (i + 1) → i < ns.length → LowB ns (i + 1) → o = (up ns (i : Int)).reverse → o.length ≤ 12 → (nestF ns o i l = true ↔ ∀ j, i < j → j < ns.length → Stands ns j)
  | [], i, o, hl, hi, hlow, ho, ho2 => by
    have : ns.length ≤ i + 1 := by
      have := congrArg List.length hl
      simp at this
      omega
    simp only [nestF, true_iff]
    intro j h1 h2
    omega
  | x :: l, i, o, hl, hi, hlow, ho, ho2 => by
    have hi1 : i + 1 < ns.length := by
      have := congrArg List.length hl
      simp at this
      omega
    have hd := List.drop_eq_getElem_cons hi1
    rw [← hl] at hd
    injection hd with hx hl2
    have hxg : ns[i + 1]? = some x := by rw [hx]; exact List.getElem?_eq_getElem hi1
    have hpar : par ns (i + 1) = x.1 := par_some hxg
    have hi2 : ((i + 1 : Nat) : Int) - 1 = (i : Int) := by omega
    have hup := up_posB hlow (Nat.lt_succ_self i)
    unfold nestF
    cases hp : posI x.1 o with
    | none =>
      rw [posI_none] at hp
      simp only [Bool.false_eq_true, false_iff]
      intro hall
      obtain ⟨p, e, _, hpu, _⟩ := hall (i + 1) (Nat.lt_succ_self i) hi1
      rw [hi2] at hpu
      exact hp p (by rw [ho, List.mem_reverse]; exact hpu) (by rw [← e, hpar])
    | some k =>
      obtain ⟨p, hk, hpx⟩ := posI_get hp
      have hpu : p ∈ up ns (i : Int) := by
        have := List.mem_of_getElem? hk
        rwa [ho, List.mem_reverse] at this
      have hple := up_leB hlow i (i : Int) (Int.le_refl _) (by omega) hpu
      obtain ⟨pre, hsp, hpre⟩ := up_split hlow i (i : Int) (Int.le_refl _) (by omega) hpu
      have hor : o = (up ns (p : Int)).reverse ++ pre.reverse := by rw [ho, hsp, List.reverse_append]
      have hupp := up_posB hlow (k := p) (by omega)
      have hkk : k + 1 = (up ns (p : Int)).length := by
        have h1 : posI x.1 o = some ((up ns (p : Int)).length - 1) := by
          refine posI_some (a := p) ?_ hpx ?_
          · rw [hor, List.getElem?_append_left (by rw [List.length_reverse, hupp, List.length_cons]; omega), hupp, List.reverse_cons, List.length_cons, Nat.add_sub_cancel, List.getElem?_append_right (by rw [List.length_reverse]; omega), List.length_reverse, Nat.sub_self]
            rfl
          · intro j b hj hb
            rw [hupp, List.length_cons, Nat.add_sub_cancel] at hj
            rw [hor, hupp, List.reverse_cons, List.append_assoc, List.getElem?_append_left (by rw [List.length_reverse]; omega)] at hb
            have hm := List.mem_of_getElem? hb
            rw [List.mem_reverse] at hm
            have h2 := hlow p (by omega)
            rcases Int.lt_or_le (par ns p) 0 with h3 | h3
            · rw [up_neg h3] at hm; cases hm
            · have := up_leB hlow p (par ns p) (by omega) (by omega) hm
              omega
        rw [h1] at hp
        injection hp with hp
        have : 0 < (up ns (p : Int)).length := by rw [hupp]; simp
        omega
      have hpi : x.1.toNat = p := by omega
      have hlen : (up ns (p : Int)).length ≤ 12 := by
        rw [hor, List.length_append, List.length_reverse] at ho2
        omega
      simp only
      rw [hpi]
      split
      · rename_i hbad
        simp only [Bool.false_eq_true, false_iff]
        intro hall
        obtain ⟨q, e, _, _, ht, hd⟩ := hall (i + 1) (Nat.lt_succ_self i) hi1
        have hq : q = p := by omega
        subst hq
        rcases hbad with h1 | h1
        · omega
        · exact h1 ht
      · rename_i hgood
        have g1 : k + 1 ≠ 12 := fun e => hgood (.inl e)
        have g2 : textAt ns p = [] := by
          rcases Decidable.em (textAt ns p = []) with h | h
          · exact h
          · exact absurd (.inr h) hgood
        have hlow2 : LowB ns (i + 1 + 1) := fun j hj => by
          rcases Nat.lt_or_ge j (i + 1) with h | h
          · exact hlow j h
          · obtain rfl : j = i + 1 := by omega
            omega
        have htake : o.take (k + 1) = (up ns (p : Int)).reverse := by
          rw [hor, List.take_left' (by rw [List.length_reverse]; omega)]
        have ho' : o.take (k + 1) ++ [i + 1] = (up ns ((i + 1 : Nat) : Int)).reverse := by
          rw [htake, up_posB hlow2 (Nat.lt_succ_self _), hpar, ← hpx, List.reverse_cons]
        have hst : Stands ns (i + 1) := ⟨p, by rw [hpar, hpx], by omega, by rw [hi2]; exact hpu, g2, by omega⟩
        rw [nest_iff l (i + 1) _ hl2 hi1 hlow2 ho' (by rw [List.length_append, htake, List.length_reverse, List.length_singleton]; omega)]
        constructor
        · intro hall j h1 h2
          rcases Nat.eq_or_lt_of_le h1 with e | h3
          · rw [← e]; exact hst
          · exact hall j h3 h2
        · intro hall j h1 h2
          exact hall j (by omega) h2

/-! ### attributes, nodes -/
def okA (as : List Att) (i : Nat) : Bool := match as[i]? with
  | some a => nameT a.1 && !decide (a.1 = xmlnsL) && valid a.2 && !(as.take i).any (fun b => decide (b.1 = a.1))
  | none => true
def apartB (as : List Att) : Bool := decide (as.length < 10) && (List.range as.length).all (okA as)
theorem apart_iff {as : List Att} : apartB as = true ↔ RightA as := by
  unfold apartB RightA
  rw [Bool.and_eq_true, decide_eq_true_eq, List.all_eq_true]
  have key : (∀ i ∈ List.range as.length, okA as i = true) ↔ ((as.map (·.1)).Nodup ∧ ∀ a ∈ as, nameT a.1 = true ∧ a.1 ≠ xmlnsL ∧ valid a.2 = true) := by
    constructor
    · intro h
      have each : ∀ (i : Nat) (a : Att), as[i]? = some a → nameT a.1 = true ∧ a.1 ≠ xmlnsL ∧ valid a.2 = true ∧ ∀ (j : Nat) (b : Att), j < i → as[j]? = some b → b.1 ≠ a.1 := fun i a hi => by
        have h1 := h i (List.mem_range.2 (List.getElem?_eq_some_iff.1 hi).1)
        unfold okA at h1
        rw [hi] at h1
        simp only [Bool.and_eq_true, Bool.not_eq_true', decide_eq_false_iff_not, List.any_eq_false] at h1
        obtain ⟨⟨⟨a1, a2⟩, a3⟩, a4⟩ := h1
        refine ⟨a1, a2, a3, fun j b hj hb e => ?_⟩
        have := a4 b (List.mem_of_getElem? (i := j) (by rw [List.getElem?_take_of_lt hj]; exact hb))
        exact this (by simpa using e)
      refine ⟨?_, fun a ha => ?_⟩
      · rw [List.nodup_iff_pairwise_ne, List.pairwise_iff_getElem]
        intro i j hi hj hij e
        rw [List.length_map] at hi hj
        rw [List.getElem_map, List.getElem_map] at e
        exact (each j as[j] (List.getElem?_eq_getElem hj)).2.2.2 i as[i] hij (List.getElem?_eq_getElem hi) e
      · obtain ⟨i, hi⟩ := List.mem_iff_getElem?.1 ha
        obtain ⟨a1, a2, a3, _⟩ := each i a hi
        exact ⟨a1, a2, a3⟩
    · rintro ⟨hn, hall⟩ i hi
      rw [List.mem_range] at hi
      unfold okA
      rw [List.getElem?_eq_getElem hi]
      obtain ⟨a1, a2, a3⟩ := hall as[i] (List.getElem_mem hi)
      simp only [Bool.and_eq_true, Bool.not_eq_true', decide_eq_false_iff_not, List.any_eq_false]
      refine ⟨⟨⟨a1, a2⟩, a3⟩, fun b hb e => ?_⟩
      obtain ⟨j, hj⟩ := List.mem_iff_getElem?.1 hb
      have hji : j < i := by
        have := (List.getElem?_eq_some_iff.1 hj).1
        rw [List.length_take] at this
        omega
      rw [List.getElem?_take_of_lt hji] at hj
      obtain ⟨hj1, rfl⟩ := List.getElem?_eq_some_iff.1 hj
      rw [List.nodup_iff_pairwise_ne, List.pairwise_iff_getElem] at hn
      refine hn j i (by rw [List.length_map]; exact hj1) (by rw [List.length_map]; exact hi) hji ?_
      rw [List.getElem_map, List.getElem_map]
      simpa using e
  rw [key]
  constructor
  · rintro ⟨a, b, c⟩
    exact ⟨by omega, b, c⟩
  · rintro ⟨a, b, c⟩
    exact ⟨by omega, b, c⟩
def goodN (x : Nd) : Bool := nameT x.2.2.1 && valid x.2.2.2.2.2 && valid x.2.2.2.1 && apartB x.2.2.2.2.1
def rightB (ns : List Nd) : Bool := decide (0 < ns.length) && decide (ns.length ≤ 1000) && nestB ns && ns.all goodN
theorem right_iff {ns : List Nd} : rightB ns = true ↔ Right ns := by
  unfold rightB nestB
  simp only [Bool.and_eq_true, decide_eq_true_eq, List.all_eq_true]
  constructor
  · rintro ⟨⟨⟨h0, h1⟩, h2, h3⟩, h4⟩
    have hlow : LowB ns (0 + 1) := fun j hj => by
      obtain rfl : j = 0 := by omega
      rw [h3]; decide
    have hu : up ns ((0 : Nat) : Int) = [0] := by
      rw [up_posB hlow (Nat.zero_lt_one), h3, up_neg (by decide)]
    have h5 := (nest_iff (ns.drop 1) 0 [0] rfl h0 hlow (by rw [hu]; rfl) (by decide)).1 h2
    refine ⟨List.length_pos_iff.1 h0, h1, h3, fun x hx => ?_, fun i hi hl => h5 i hi hl⟩
    have := h4 x hx
    unfold goodN at this
    simp only [Bool.and_eq_true] at this
    exact ⟨this.1.1.1, this.1.1.2, this.1.2, apart_iff.1 this.2⟩
  · intro h
    have hlow := h.low
    have hu : up ns ((0 : Nat) : Int) = [0] := by
      rw [up_pos hlow, h.first, up_neg (by decide)]
    refine ⟨⟨⟨h.pos, h.many⟩, ?_, h.first⟩, fun x hx => ?_⟩
    · exact (nest_iff (ns.drop 1) 0 [0] rfl h.pos (hlow.b _) (by rw [hu]; rfl) (by decide)).2 (fun j a b => h.stands j a b)
    · obtain ⟨a, b, c, d⟩ := h.each x hx
      unfold goodN
      simp only [Bool.and_eq_true]
      exact ⟨⟨⟨a, b⟩, c⟩, apart_iff.2 d⟩
end Go.Proofs.YtbkfmbkamocllaaDoor.Cn
