import Derived.Test.YtbgaglcgennhiaaGreatDoorB18
import Derived.Lib.SplitLaws
/- what is reached of it -/
namespace Go.Proofs.YtbgaglcgennhiaaGreatDoor
open Go.Proofs.YtbgaglcgennhiaaGreatDoor Rg Tx
theorem Jd.flat_cons (c : Nat) (l : List Nat) : flat (c :: l) = enc c ++ flat l := by rw [show c :: l = [c] ++ l from rfl, flat_append, flat_one]
namespace Jd
def cutB (c : UInt8) : List UInt8 → List UInt8 × List UInt8 × Bool
  | [] => ([], [], false)
  | b :: l => if b = c then ([], l, true) else (b :: (cutB c l).1, (cutB c l).2.1, (cutB c l).2.2)
theorem cutB_none {c : UInt8} : ∀ {l : List UInt8}, c ∉ l → cutB c l = (l, [], false)
  | [], _ => rfl
  | b :: l, h => by
    have h1 : b ≠ c := fun e => h (by rw [e]; exact List.mem_cons_self ..)
    have h2 := cutB_none (c := c) (l := l) (fun e => h (List.mem_cons_of_mem _ e))
    unfold cutB
    rw [if_neg h1, h2]
theorem cutB_some {c : UInt8} {r : List UInt8} : ∀ {p : List UInt8}, c ∉ p → cutB c (p ++ c :: r) = (p, r, true)
  | [], _ => by rw [List.nil_append]; unfold cutB; rw [if_pos rfl]
  | b :: p, h => by
    have h1 : b ≠ c := fun e => h (by rw [e]; exact List.mem_cons_self ..)
    have h2 := cutB_some (c := c) (r := r) (p := p) (fun e => h (List.mem_cons_of_mem _ e))
    rw [List.cons_append]
    unfold cutB
    rw [if_neg h1, h2]
theorem cutB_cases (c : UInt8) : ∀ l : List UInt8, (cutB c l = (l, [], false) ∧ c ∉ l) ∨ ∃ p r, l = p ++ c :: r ∧ c ∉ p ∧ cutB c l = (p, r, true)
  | [] => .inl ⟨rfl, by simp⟩
  | b :: l => by
    by_cases h : b = c
    · subst h
      exact .inr ⟨[], l, rfl, by simp, by unfold cutB; rw [if_pos rfl]⟩
    · rcases cutB_cases c l with ⟨h1, h2⟩ | ⟨p, r, h1, h2, h3⟩
      · exact .inl ⟨by unfold cutB; rw [if_neg h, h1], fun e => (List.mem_cons.1 e).elim (fun e => h e.symm) h2⟩
      · exact .inr ⟨b :: p, r, by rw [h1]; rfl, fun e => (List.mem_cons.1 e).elim (fun e => h e.symm) h2, by unfold cutB; rw [if_neg h, h3]⟩
theorem cutB_len (c : UInt8) (l : List UInt8) : (cutB c l).1.length ≤ l.length ∧ (cutB c l).2.1.length ≤ l.length := by
  rcases cutB_cases c l with ⟨h1, _⟩ | ⟨p, r, h1, _, h3⟩
  · rw [h1]; simp
  · rw [h3, h1]; simp; omega
/-- the pieces between the signs c -/
def pcs (c : UInt8) : List UInt8 → List (List UInt8)
  | [] => [[]]
  | b :: l => if b = c then [] :: pcs c l else (b :: (pcs c l).headD []) :: (pcs c l).tail
theorem pcs_ne (c : UInt8) : ∀ l : List UInt8, pcs c l ≠ []
  | [] => by simp [pcs]
  | b :: l => by unfold pcs; split <;> simp
theorem pcs_none {c : UInt8} : ∀ {l : List UInt8}, c ∉ l → pcs c l = [l]
  | [], _ => rfl
  | b :: l, h => by
    have h1 : b ≠ c := fun e => h (by rw [e]; exact List.mem_cons_self ..)
    have h2 := pcs_none (c := c) (l := l) (fun e => h (List.mem_cons_of_mem _ e))
    unfold pcs
    rw [if_neg h1, h2]
    rfl
theorem pcs_snoc (c : UInt8) : ∀ l : List UInt8, pcs c (l ++ [c]) = pcs c l ++ [[]]
  | [] => by simp [pcs]
  | b :: l => by
    have ih := pcs_snoc c l
    have hn := pcs_ne c l
    have e1 : pcs c (b :: (l ++ [c])) = if b = c then [] :: pcs c (l ++ [c]) else (b :: (pcs c (l ++ [c])).headD []) :: (pcs c (l ++ [c])).tail := rfl
    have e2 : pcs c (b :: l) = if b = c then [] :: pcs c l else (b :: (pcs c l).headD []) :: (pcs c l).tail := rfl
    rw [List.cons_append, e1, e2, ih]
    by_cases h : b = c
    · rw [if_pos h, if_pos h]; rfl
    · rw [if_neg h, if_neg h]
      cases hp : pcs c l with
      | nil => exact absurd hp hn
      | cons y ys => rfl
theorem pcs_end (c : UInt8) (l : List UInt8) : [] ∈ pcs c (l ++ [c]) := by rw [pcs_snoc]; simp
theorem pcs_len (c : UInt8) : ∀ l : List UInt8, ∀ x ∈ pcs c l, x.length ≤ l.length
  | [], x, h => by simp [pcs] at h; subst h; simp
  | b :: l, x, h => by
    have ih := pcs_len c l
    unfold pcs at h
    split at h
    · rcases List.mem_cons.1 h with rfl | h
      · simp
      · have := ih x h; simp; omega
    · rcases List.mem_cons.1 h with rfl | h
      · rw [List.length_cons, List.length_cons]
        cases hp : pcs c l with
        | nil => simp
        | cons y ys => have := ih y (by rw [hp]; exact List.mem_cons_self ..); simp; omega
      · have := ih x (List.mem_of_mem_tail h); simp; omega
/-- the library's pieces -/
theorem index_cons_ne {b c : UInt8} {l : List UInt8} (h : b ≠ c) : Lib.index (b :: l) [c] = if Lib.index l [c] == -1 then -1 else Lib.index l [c] + 1 := by
  have hp : ([c] : List UInt8).isPrefixOf (b :: l) = false := by simp [List.isPrefixOf, Ne.symm h]
  rw [Lib.index, hp]
  simp
theorem index_cons_eq (c : UInt8) (l : List UInt8) : Lib.index (c :: l) [c] = 0 := by
  rw [Lib.index]
  simp [List.isPrefixOf]
theorem splitK_nil (c : UInt8) (k : Nat) : Lib.splitK [c] 0 k [] = [[]] := by
  cases k with
  | zero => rfl
  | succ k => rw [Lib.splitK, if_pos (by simp [Lib.index])]
theorem splitK_ne {b c : UInt8} {l : List UInt8} (h : b ≠ c) (k : Nat) : Lib.splitK [c] 0 k (b :: l) = (b :: (Lib.splitK [c] 0 k l).headD []) :: (Lib.splitK [c] 0 k l).tail := by
  cases k with
  | zero => rfl
  | succ k =>
    have hix := index_cons_ne (l := l) h
    have hge := Lib.index_ge l [c]
    by_cases hm : Lib.index l [c] = -1
    · rw [hm] at hix
      rw [Lib.splitK, Lib.splitK, hix, hm]
      rfl
    · obtain ⟨j, hj⟩ : ∃ j : Nat, Lib.index l [c] = j := ⟨(Lib.index l [c]).toNat, by omega⟩
      have h2 : (Lib.index l [c] == -1) = false := by simpa using hm
      rw [h2, hj] at hix
      rw [hj] at h2
      have h3 : (((j : Int) + 1) == -1) = false := by simp; omega
      rw [Lib.splitK, Lib.splitK, hix, hj, h2]
      simp only [if_neg (by simp : ¬ (false = true))]
      rw [h3]
      simp only [if_neg (by simp : ¬ (false = true))]
      have e1 : ((j : Int) + 1).toNat = j + 1 := by omega
      rw [e1]
      simp
theorem split_pcs (c : UInt8) : ∀ l : List UInt8, Lib.splitK [c] 0 (Lib.count l [c]) l = pcs c l
  | [] => splitK_nil c _
  | b :: l => by
    have ih := split_pcs c l
    by_cases h : b = c
    · subst h
      rw [Lib.count_cons_eq, show 1 + Lib.count l [b] = Lib.count l [b] + 1 by omega, Lib.splitK, index_cons_eq, pcs, if_pos rfl, ← ih]
      simp
    · rw [Lib.count_cons_ne b c l h, splitK_ne h, ih, pcs, if_neg h]

/-- May the piece not stand in a domain? -/
def badB (x : List UInt8) : Bool := x.isEmpty || x.headD 0 == 45 || x.getLastD 0 == 45
/-- without one "." at its end -/
def trimD (l : List UInt8) : List UInt8 := if l.getLast? = some 46 then l.dropLast else l
/-- 1 to most bytes, or why not -/
def sizedL (most : Nat) (r : List UInt8 × Nat) : List UInt8 × Nat := if r.2 = 0 then (if r.1 = [] ∨ most < r.1.length then ([], 14) else r) else ([], r.2)
def hostL (s : List UInt8) : List UInt8 × Nat := (trimD (Pr.prepL 2 s).1, (Pr.prepL 2 s).2)
/-- are its pieces right? -/
def pieced (r : List UInt8 × Nat) : List UInt8 × Nat := if r.2 = 0 then (if (pcs 46 r.1).any badB then ([], 14) else r) else ([], r.2)
/-- A text as a domain, or why not. -/
def domL (s : List UInt8) : List UInt8 × Nat := pieced (sizedL 100 (hostL s))
/-- local part, domain, resource -/
abbrev J := List UInt8 × List UInt8 × List UInt8
def none_ : J := ([], [], [])
/-- all three, or the first one's error -/
def three (D N R : List UInt8 × Nat) : J × Nat := if D.2 ≠ 0 then (none_, D.2) else if N.2 ≠ 0 then (none_, N.2) else if R.2 ≠ 0 then (none_, R.2) else ((N.1, D.1, R.1), 0)
/-- a part, if it is there -/
def part (is : Bool) (k : Nat) (s : List UInt8) : List UInt8 × Nat := if is then sizedL 64 (Pr.prepL k s) else ([], 0)
def halfL (s : List UInt8) : List UInt8 × List UInt8 × Bool := if (cutB 64 s).2.2 then cutB 64 s else ([], s, false)
/-- A text as an address, or why not. -/
def parseL (s : List UInt8) : J × Nat := three (domL (halfL (cutB 47 s).1).2.1) (part (halfL (cutB 47 s).1).2.2 1 (halfL (cutB 47 s).1).1) (part (cutB 47 s).2.2 3 (cutB 47 s).2.1)
/-- An address as a text. -/
def textL (j : J) : List UInt8 := (if j.1 = [] then j.2.1 else j.1 ++ [64] ++ j.2.1) ++ (if j.2.2 = [] then [] else [47] ++ j.2.2)
/-- without a resource, or why not -/
def bareL (s : List UInt8) : List UInt8 × Nat := if (parseL s).2 = 0 then (if (parseL s).1.2.2 = [] then (textL (parseL s).1, 0) else ([], 14)) else ([], (parseL s).2)

theorem half_none {s : List UInt8} (h : 64 ∉ s) : halfL s = ([], s, false) := by
  unfold halfL
  rw [cutB_none h]
  rfl
theorem half_some {p r : List UInt8} (h : 64 ∉ p) : halfL (p ++ 64 :: r) = (p, r, true) := by
  unfold halfL
  rw [cutB_some h]
  rfl
theorem half_len (s : List UInt8) : (halfL s).1.length ≤ s.length ∧ (halfL s).2.1.length ≤ s.length := by
  have h := cutB_len 64 s
  unfold halfL
  split
  · exact h
  · simp
theorem sized_ok {m : Nat} {r : List UInt8 × Nat} {a : List UInt8} (h : sizedL m r = (a, 0)) : r = (a, 0) ∧ a ≠ [] ∧ a.length ≤ m := by
  unfold sizedL at h
  by_cases h0 : r.2 = 0
  · rw [if_pos h0] at h
    by_cases h1 : r.1 = [] ∨ m < r.1.length
    · rw [if_pos h1] at h; simp at h
    · rw [if_neg h1] at h
      subst h
      exact ⟨rfl, fun e => h1 (.inl e), by have : ¬ m < (a, 0).1.length := fun e => h1 (.inr e); simpa using this⟩
  · rw [if_neg h0] at h
    exact absurd (congrArg Prod.snd h) h0
theorem sized_of {m : Nat} {a : List UInt8} (h : a ≠ []) (h2 : a.length ≤ m) : sizedL m (a, 0) = (a, 0) := by
  unfold sizedL
  rw [if_pos rfl, if_neg (by rintro (h3 | h3); exact h h3; exact absurd h3 (by simpa using h2))]
theorem pieced_ok {r : List UInt8 × Nat} {a : List UInt8} (h : pieced r = (a, 0)) : r = (a, 0) ∧ (pcs 46 a).any badB = false := by
  unfold pieced at h
  by_cases h0 : r.2 = 0
  · rw [if_pos h0] at h
    cases h1 : (pcs 46 r.1).any badB with
    | true => rw [h1] at h; simp at h
    | false => rw [h1, if_neg (by simp)] at h; subst h; exact ⟨rfl, h1⟩
  · rw [if_neg h0] at h
    exact absurd (congrArg Prod.snd h) h0
theorem enc_has {c : Nat} {b : UInt8} (h : b ∈ enc c) (hb : b.toNat < 128) : c = b.toNat := by
  by_cases hs : sane c
  · rcases enc_cases hs with ⟨h1, e⟩ | ⟨h1, h2, e⟩ | ⟨h1, h2, e⟩ | ⟨h1, h2, e⟩ <;> rw [e] at h <;> simp only [List.mem_cons, List.not_mem_nil, or_false] at h
    · rw [h, toNat_of _ (by omega)]
    all_goals
      exfalso
      rcases h with h | h
      · rw [h, toNat_of _ (by omega)] at hb; omega
      · first
          | (rw [h, toNat_of _ (by omega)] at hb; omega)
          | (rcases h with h | h
             · rw [h, toNat_of _ (by omega)] at hb; omega
             · first
                 | (rw [h, toNat_of _ (by omega)] at hb; omega)
                 | (rcases h with h | h <;> (rw [h, toNat_of _ (by omega)] at hb; omega)))
  · rw [enc_bad hs] at h
    exfalso
    simp at h
    rcases h with h | h | h <;> rw [h] at hb <;> exact absurd hb (by decide)
theorem flat_has : ∀ {l : List Nat} {b : UInt8}, b ∈ flat l → b.toNat < 128 → b.toNat ∈ l
  | [], b, h, _ => by rw [flat_nil] at h; cases h
  | c :: l, b, h, hb => by
    rw [flat_cons] at h
    rcases List.mem_append.1 h with h | h
    · rw [enc_has h hb]; exact List.mem_cons_self ..
    · exact List.mem_cons_of_mem _ (flat_has h hb)
theorem prep_ok {k : Nat} {s a : List UInt8} (h : Pr.prepL k s = (a, 0)) : ∃ y : List Nat, a = flat y ∧ y.any (Pr.wrong k) = false ∧ Pr.wayB y = true ∧ (∀ c ∈ y, Pr.Fine c) ∧ ∀ c ∈ y, Pr.Stays (k != 3) c := by
  cases hv : ch s with
  | none => rw [Pr.prepL_bad (valid_none hv)] at h; simp at h
  | some l =>
    rw [Pr.prepL_ch hv] at h
    obtain ⟨h1, h2, rfl⟩ := Pr.prepC_ok h
    exact ⟨_, rfl, h1, h2, Pr.mapL_each fun c hc => Pr.one_fine _ (ch_good_all _ _ _ (Nat.le_refl _) hv c hc), Pr.mapL_each fun c _ => Pr.one_stays _ c⟩
theorem prep_no {k : Nat} {s a : List UInt8} (h : Pr.prepL k s = (a, 0)) {b : UInt8} (hb : b.toNat < 128) (hw : Pr.wrong k b.toNat = true) : b ∉ a := by
  obtain ⟨y, rfl, h1, _⟩ := prep_ok h
  intro hm
  have := List.any_eq_false.1 h1 _ (flat_has hm hb)
  rw [hw] at this
  exact this rfl
/-- without its last ".", it is kept still -/
theorem trim_kept {s h : List UInt8} (hh : Pr.prepL 2 s = (h, 0)) : Pr.prepL 2 (trimD h) = (trimD h, 0) := by
  unfold trimD
  by_cases hl : h.getLast? = some 46
  · rw [if_pos hl]
    obtain ⟨y, rfl, h1, h2, h3, h4⟩ := prep_ok hh
    rcases List.eq_nil_or_concat y with rfl | ⟨y', c, rfl⟩
    · rw [flat_nil] at hl; simp at hl
    rw [List.concat_eq_append] at *
    rw [flat_append, flat_one] at hl ⊢
    have hc : c = 46 := by
      have hm : (46 : UInt8) ∈ enc c := by
        have hne := enc_ne c
        rw [List.getLast?_append] at hl
        cases he : (enc c).getLast? with
        | none => exact absurd (List.getLast?_eq_none_iff.1 he) hne
        | some x =>
          rw [he] at hl
          injection hl with hl
          subst hl
          exact List.mem_of_getLast? he
      exact enc_has hm (by decide)
    subst hc
    have he : enc 46 = [46] := by rw [enc_sane (.inl (by omega))]; rfl
    rw [he, List.dropLast_concat]
    have hr : y'.any Pr.rl = false := by
      cases hr : (y' ++ [46]).any Pr.rl with
      | false => rw [List.any_append, Bool.or_eq_false_iff] at hr; exact hr.1
      | true =>
        exfalso
        unfold Pr.wayB at h2
        rw [hr] at h2
        simp at h2
        exact absurd h2.1.2 (by decide)
    rw [Pr.prepL_ch (Pr.ch_fine (fun c hc => h3 c (List.mem_append_left _ hc))), Pr.mapL_stays (fun c hc => h4 c (List.mem_append_left _ hc))]
    refine Pr.prepC_kept ?_ ?_
    · rw [List.any_append, Bool.or_eq_false_iff] at h1; exact h1.1
    · unfold Pr.wayB; rw [hr]; rfl
  · rw [if_neg hl]
    exact Pr.prepL_stays hh
theorem trim_pieces {d : List UInt8} (h : (pcs 46 d).any badB = false) : trimD d = d := by
  unfold trimD
  refine if_neg fun hl => ?_
  rcases List.eq_nil_or_concat d with rfl | ⟨d', c, rfl⟩
  · simp at hl
  · rw [List.concat_eq_append] at *
    simp at hl
    subst hl
    have := List.any_eq_false.1 h _ (pcs_end 46 d')
    exact this rfl
theorem dom_ok {s d : List UInt8} (h : domL s = (d, 0)) : Pr.prepL 2 d = (d, 0) ∧ d ≠ [] ∧ d.length ≤ 100 ∧ (pcs 46 d).any badB = false := by
  obtain ⟨h1, h2⟩ := pieced_ok h
  obtain ⟨h3, h4, h5⟩ := sized_ok h1
  unfold hostL at h3
  have e1 := congrArg Prod.fst h3
  have e2 := congrArg Prod.snd h3
  simp only at e1 e2
  have h6 : Pr.prepL 2 s = ((Pr.prepL 2 s).1, 0) := by rw [← e2]
  have h7 := trim_kept h6
  rw [e1] at h7
  exact ⟨h7, h4, h5, h2⟩
theorem dom_of {d : List UInt8} (h1 : Pr.prepL 2 d = (d, 0)) (h2 : d ≠ []) (h3 : d.length ≤ 100) (h4 : (pcs 46 d).any badB = false) : domL d = (d, 0) := by
  have e : hostL d = (d, 0) := by unfold hostL; rw [h1]; simp only; rw [trim_pieces h4]
  unfold domL
  rw [e, sized_of h2 h3]
  unfold pieced
  rw [if_pos rfl, h4]
  rfl
theorem dom_stays {s d : List UInt8} (h : domL s = (d, 0)) : domL d = (d, 0) := by
  obtain ⟨h1, h2, h3, h4⟩ := dom_ok h
  exact dom_of h1 h2 h3 h4
theorem dom_free {s d : List UInt8} (h : domL s = (d, 0)) : 47 ∉ d ∧ 64 ∉ d := by
  obtain ⟨h1, _⟩ := dom_ok h
  exact ⟨prep_no h1 (by decide) (by decide), prep_no h1 (by decide) (by decide)⟩
theorem three_ok {D N R : List UInt8 × Nat} {j : J} (h : three D N R = (j, 0)) : D = (j.2.1, 0) ∧ N = (j.1, 0) ∧ R = (j.2.2, 0) := by
  unfold three at h
  by_cases h1 : D.2 = 0
  · by_cases h2 : N.2 = 0
    · by_cases h3 : R.2 = 0
      · rw [if_neg (by simp [h1]), if_neg (by simp [h2]), if_neg (by simp [h3])] at h
        have := congrArg Prod.fst h
        simp only at this
        subst this
        exact ⟨Prod.ext rfl h1, Prod.ext rfl h2, Prod.ext rfl h3⟩
      · rw [if_neg (by simp [h1]), if_neg (by simp [h2]), if_pos h3] at h
        exact absurd (congrArg Prod.snd h) h3
    · rw [if_neg (by simp [h1]), if_pos h2] at h
      exact absurd (congrArg Prod.snd h) h2
  · rw [if_pos h1] at h
    exact absurd (congrArg Prod.snd h) h1
/-- What a right address's parts are. -/
structure Right (j : J) : Prop where
  dom : domL j.2.1 = (j.2.1, 0)
  dne : j.2.1 ≠ []
  loc : j.1 = [] ∨ (Pr.prepL 1 j.1 = (j.1, 0) ∧ j.1.length ≤ 64)
  res : j.2.2 = [] ∨ (Pr.prepL 3 j.2.2 = (j.2.2, 0) ∧ j.2.2.length ≤ 64)
theorem part_ok {is : Bool} {k : Nat} {s a : List UInt8} (h : part is k s = (a, 0)) : a = [] ∨ (Pr.prepL k a = (a, 0) ∧ a.length ≤ 64) := by
  unfold part at h
  cases is with
  | false => rw [if_neg (by simp)] at h; exact .inl (congrArg Prod.fst h).symm
  | true =>
    rw [if_pos rfl] at h
    obtain ⟨h1, _, h3⟩ := sized_ok h
    exact .inr ⟨Pr.prepL_stays h1, h3⟩
theorem parse_right {s : List UInt8} {j : J} (h : parseL s = (j, 0)) : Right j := by
  obtain ⟨h1, h2, h3⟩ := three_ok h
  exact ⟨dom_stays h1, (dom_ok h1).2.1, part_ok h2, part_ok h3⟩
/-- What is parsed is parsed again as it was. -/
theorem parse_text {j : J} (h : Right j) : parseL (textL j) = (j, 0) := by
  obtain ⟨l, d, r⟩ := j
  obtain ⟨h1, _, h2, h3⟩ := h
  simp only at h1 h2 h3
  obtain ⟨d1, d2⟩ := dom_free h1
  -- the front, and its halves
  have hf : ∃ f, (if l = [] then d else l ++ [64] ++ d) = f ∧ 47 ∉ f ∧ (halfL f).2.1 = d ∧ part (halfL f).2.2 1 (halfL f).1 = (l, 0) := by
    by_cases hl : l = []
    · subst hl
      exact ⟨d, if_pos rfl, d1, by rw [half_none d2], by rw [half_none d2]; rfl⟩
    · have h4 := (h2.resolve_left hl)
      have l1 : 64 ∉ l := prep_no h4.1 (by decide) (by decide)
      have l2 : 47 ∉ l := prep_no h4.1 (by decide) (by decide)
      refine ⟨l ++ 64 :: d, by rw [if_neg hl]; simp, ?_, by rw [half_some l1], ?_⟩
      · intro hm
        rcases List.mem_append.1 hm with hm | hm
        · exact l2 hm
        · rcases List.mem_cons.1 hm with hm | hm
          · exact absurd hm (by decide)
          · exact d1 hm
      · rw [half_some l1]
        unfold part
        rw [if_pos rfl, h4.1]
        exact sized_of hl h4.2
  obtain ⟨f, hf0, hf1, hf2, hf3⟩ := hf
  have ht : textL (l, d, r) = f ++ (if r = [] then [] else [47] ++ r) := by unfold textL; simp only; rw [hf0]
  by_cases hr : r = []
  · subst hr
    rw [if_pos rfl, List.append_nil] at ht
    unfold parseL
    rw [ht, cutB_none hf1]
    simp only
    rw [hf2, hf3, h1]
    rfl
  · have h4 := (h3.resolve_left hr)
    rw [if_neg hr, List.singleton_append] at ht
    unfold parseL
    rw [ht, cutB_some hf1]
    simp only
    rw [hf2, hf3, h1]
    unfold part
    rw [if_pos rfl, h4.1, sized_of hr h4.2]
    rfl
theorem parse_back {s : List UInt8} {j : J} (h : parseL s = (j, 0)) : parseL (textL j) = (j, 0) := parse_text (parse_right h)
theorem parse_len {s : List UInt8} {j : J} (h : parseL s = (j, 0)) : j.1.length ≤ 64 ∧ j.2.1.length ≤ 100 ∧ j.2.2.length ≤ 64 := by
  have hr := parse_right h
  refine ⟨?_, (dom_ok hr.dom).2.2.1, ?_⟩
  · rcases hr.loc with e | e
    · rw [e]; simp
    · exact e.2
  · rcases hr.res with e | e
    · rw [e]; simp
    · exact e.2
theorem bare_ok {s : List UInt8} {j : J} (h : parseL s = (j, 0)) (h2 : j.2.2 = []) : bareL s = (textL j, 0) := by
  unfold bareL
  rw [h, if_pos rfl, if_pos h2]
theorem bare_res {s : List UInt8} {j : J} (h : parseL s = (j, 0)) (h2 : j.2.2 ≠ []) : bareL s = ([], 14) := by
  unfold bareL
  rw [h, if_pos rfl, if_neg h2]
theorem bare_bad {s : List UInt8} (h : (parseL s).2 ≠ 0) : bareL s = ([], (parseL s).2) := by
  unfold bareL
  rw [if_neg h]
theorem bare_back {s : List UInt8} {j : J} (h : parseL s = (j, 0)) (h2 : j.2.2 = []) : bareL (textL j) = (textL j, 0) := bare_ok (parse_back h) h2

def ltL (a b : List UInt8) : Bool := Op.bytesLess a b
theorem lt_irr : ∀ a : List UInt8, ltL a a = false
  | [] => rfl
  | x :: a => by
    have := lt_irr a
    unfold ltL at this ⊢
    simp [Op.bytesLess, this]
theorem lt_tri : ∀ a b : List UInt8, (ltL a b = true ∧ ltL b a = false ∧ a ≠ b) ∨ (ltL a b = false ∧ ltL b a = true ∧ a ≠ b) ∨ (ltL a b = false ∧ ltL b a = false ∧ a = b)
  | [], [] => .inr (.inr ⟨rfl, rfl, rfl⟩)
  | [], _ :: _ => .inl ⟨rfl, rfl, by simp⟩
  | _ :: _, [] => .inr (.inl ⟨rfl, rfl, by simp⟩)
  | x :: a, y :: b => by
    have ih := lt_tri a b
    unfold ltL at ih ⊢
    by_cases h : x = y
    · subst h
      simpa [Op.bytesLess] using ih
    · have h2 : (x == y) = false := by simpa using h
      have h3 : (y == x) = false := by simpa using Ne.symm h
      rcases UInt8.lt_or_lt_of_ne h with h4 | h4
      · have h5 : ¬ y < x := UInt8.lt_asymm h4
        left
        simp [Op.bytesLess, h2, h3, h4, h5, h]
      · have h5 : ¬ x < y := UInt8.lt_asymm h4
        right; left
        simp [Op.bytesLess, h2, h3, h4, h5, h]
theorem lt_trans : ∀ a b c : List UInt8, ltL a b = true → ltL b c = true → ltL a c = true
  | _, [], c, h, _ => by unfold ltL at h; cases ‹List UInt8› <;> simp [Op.bytesLess] at h
  | _, _ :: _, [], _, h => by unfold ltL at h; simp [Op.bytesLess] at h
  | [], _ :: _, _ :: _, _, _ => rfl
  | x :: a, y :: b, z :: c, h1, h2 => by
    have ih := lt_trans a b c
    unfold ltL at ih h1 h2 ⊢
    simp only [Op.bytesLess, Bool.or_eq_true, Bool.and_eq_true, decide_eq_true_eq, beq_iff_eq] at h1 h2 ⊢
    rcases h1 with h1 | ⟨rfl, h1⟩
    · rcases h2 with h2 | ⟨rfl, h2⟩
      · exact .inl (UInt8.lt_trans h1 h2)
      · exact .inl h1
    · rcases h2 with h2 | ⟨rfl, h2⟩
      · exact .inl h2
      · exact .inr ⟨rfl, ih h1 h2⟩
theorem compare_lt : ∀ a b : List UInt8, Lib.compareBytes a b = if ltL a b then -1 else if a = b then 0 else 1
  | [], [] => rfl
  | [], _ :: _ => rfl
  | _ :: _, [] => rfl
  | x :: a, y :: b => by
    have ih := compare_lt a b
    unfold Lib.compareBytes
    unfold ltL at ih ⊢
    by_cases h : x < y
    · rw [if_pos h, if_pos (by simp [Op.bytesLess, h])]
    · by_cases h2 : y < x
      · rw [if_neg h, if_pos h2, if_neg, if_neg]
        · intro e
          injection e with e _
          subst e
          exact h h2
        · have : x ≠ y := fun e => by subst e; exact h h2
          simp [Op.bytesLess, h, this]
      · have e : x = y := UInt8.le_antisymm (UInt8.not_lt.1 h2) (UInt8.not_lt.1 h)
        subst e
        rw [if_neg h, if_neg h, ih]
        simp [Op.bytesLess]
/-- behind the first "@", if there is one -/
def dmL (s : List UInt8) : List UInt8 := (halfL s).2.1
def lessL (a b : List UInt8) : Bool := ltL (dmL a) (dmL b) || (dmL a == dmL b && ltL a b)
attribute [irreducible] ltL
end Jd
end Go.Proofs.YtbgaglcgennhiaaGreatDoor
