import Derived.Test.YtogjhpcjjmcjfaaGreatDoorI27
import Derived.Test.YtogjhpcjjmcjfaaGreatDoorI36
import Derived.Test.YtogjhpcjjmcjfaaGreatDoorI29
import Derived.Test.YtogjhpcjjmcjfaaGreatDoorI37
section
/- what is reached of it -/
namespace Go.Proofs.YtogjhpcjjmcjfaaGreatDoor.Ct
open Go.Proofs.YtogjhpcjjmcjfaaGreatDoor Tx Vc
/-- A contact: nine texts, its groups, its other properties. -/
structure Con where
  name : List UInt8
  family : List UInt8
  given : List UInt8
  nick : List UInt8
  jid : List UInt8
  email : List UInt8
  tel : List UInt8
  note : List UInt8
  uid : List UInt8
  groups : List (List UInt8)
  other : List Pr
/-- One more, in its place; none twice. -/
def ins (x : List UInt8) : List (List UInt8) → List (List UInt8)
  | [] => [x]
  | y :: t => if Jd.ltL y x then y :: ins x t else if y = x then y :: t else x :: y :: t
/-- Rising, each once, none "". -/
def groupsL (l : List (List UInt8)) : List (List UInt8) := l.foldl (fun out x => if x = [] then out else ins x out) []
/-- each is above the one ahead of it -/
def risingB : List (List UInt8) → Bool
  | [] => true
  | [_] => true
  | x :: y :: t => Jd.ltL x y && risingB (y :: t)
theorem rising_tail {x : List UInt8} {t : List (List UInt8)} (h : risingB (x :: t) = true) : risingB t = true := by
  cases t with
  | nil => rfl
  | cons y t => exact (Bool.and_eq_true_iff.1 h).2
theorem rising_lt : ∀ {t : List (List UInt8)} {x : List UInt8}, risingB (x :: t) = true → ∀ y ∈ t, Jd.ltL x y = true
  | [], _, _, y, hy => by cases hy
  | z :: t, x, h, y, hy => by
    obtain ⟨h1, h2⟩ := Bool.and_eq_true_iff.1 h
    rcases List.mem_cons.1 hy with rfl | hy
    · exact h1
    · exact Jd.lt_trans _ _ _ h1 (rising_lt h2 y hy)
/-- what stands behind an insertion -/
theorem ins_mem : ∀ {l : List (List UInt8)} {x y : List UInt8}, y ∈ ins x l ↔ y = x ∨ y ∈ l
  | [], x, y => by simp [ins]
  | z :: t, x, y => by
    rw [ins]
    split
    · rw [List.mem_cons, ins_mem, List.mem_cons]
      constructor
      · rintro (h | h | h)
        · exact .inr (.inl h)
        · exact .inl h
        · exact .inr (.inr h)
      · rintro (h | h | h)
        · exact .inr (.inl h)
        · exact .inl h
        · exact .inr (.inr h)
    · split
      · rename_i _ e
        subst e
        simp
      · simp
theorem ins_rising : ∀ {l : List (List UInt8)} {x : List UInt8}, risingB l = true → risingB (ins x l) = true
  | [], _, _ => rfl
  | y :: t, x, h => by
    rw [ins]
    split
    · rename_i hlt
      have h1 := ins_rising (x := x) (rising_tail h)
      cases hi : ins x t with
      | nil => rfl
      | cons z r =>
        rw [hi] at h1
        have hz : z ∈ ins x t := by rw [hi]; exact List.mem_cons_self
        refine Bool.and_eq_true_iff.2 ⟨?_, h1⟩
        rcases ins_mem.1 hz with rfl | hz
        · exact hlt
        · exact rising_lt h z hz
    · split
      · exact h
      · rename_i h1 h2
        refine Bool.and_eq_true_iff.2 ⟨?_, h⟩
        rcases Jd.lt_tri y x with ⟨h3, _⟩ | ⟨_, h3, _⟩ | ⟨_, _, h3⟩
        · exact absurd h3 h1
        · exact h3
        · exact absurd h3 h2
theorem groups_all (l : List (List UInt8)) : ∀ out, risingB out = true → (∀ g ∈ out, g ≠ []) → risingB (l.foldl (fun out x => if x = [] then out else ins x out) out) = true ∧ ∀ g, g ∈ l.foldl (fun out x => if x = [] then out else ins x out) out ↔ (g ∈ out ∨ (g ∈ l ∧ g ≠ [])) := by
  induction l with
  | nil => exact fun out h1 h2 => ⟨h1, fun g => by simp⟩
  | cons x t ih =>
    intro out h1 h2
    rw [List.foldl_cons]
    by_cases hx : x = []
    · rw [if_pos hx]
      obtain ⟨h3, h4⟩ := ih out h1 h2
      refine ⟨h3, fun g => ?_⟩
      rw [h4 g, List.mem_cons]
      constructor
      · rintro (h | ⟨h, h5⟩)
        · exact .inl h
        · exact .inr ⟨.inr h, h5⟩
      · rintro (h | ⟨h | h, h5⟩)
        · exact .inl h
        · exact absurd (h.trans hx) h5
        · exact .inr ⟨h, h5⟩
    · rw [if_neg hx]
      obtain ⟨h3, h4⟩ := ih (ins x out) (ins_rising h1) (fun g hg => by
        rcases ins_mem.1 hg with rfl | hg
        · exact hx
        · exact h2 g hg)
      refine ⟨h3, fun g => ?_⟩
      rw [h4 g, ins_mem, List.mem_cons]
      constructor
      · rintro ((h | h) | ⟨h, h5⟩)
        · exact .inr ⟨.inl h, by rw [h]; exact hx⟩
        · exact .inl h
        · exact .inr ⟨.inr h, h5⟩
      · rintro (h | ⟨h | h, h5⟩)
        · exact .inl (.inr h)
        · exact .inl (.inl h)
        · exact .inr ⟨h, h5⟩
/-- they are told rising; just those that are there, but "" -/
theorem groups_rising (l : List (List UInt8)) : risingB (groupsL l) = true ∧ ∀ g, g ∈ groupsL l ↔ (g ∈ l ∧ g ≠ []) := by
  obtain ⟨h1, h2⟩ := groups_all l [] rfl (fun g hg => by cases hg)
  refine ⟨h1, fun g => ?_⟩
  have := h2 g
  unfold groupsL
  rw [this]
  constructor
  · rintro (h | h)
    · cases h
    · exact h
  · exact .inr
theorem ins_len : ∀ (l : List (List UInt8)) (x : List UInt8), (ins x l).length ≤ l.length + 1
  | [], _ => Nat.le_refl _
  | y :: t, x => by
    rw [ins]
    have := ins_len t x
    split
    · simp only [List.length_cons]; omega
    · split
      · simp only [List.length_cons]; omega
      · simp only [List.length_cons]; omega
end Go.Proofs.YtogjhpcjjmcjfaaGreatDoor.Ct
end
section
/- what is reached of it -/
namespace Go.Proofs.YtogjhpcjjmcjfaaGreatDoor
open Rg Tx
namespace Jd
def nums (l : List UInt8) : List Nat := l.map (·.toNat)
def lowB (l : List UInt8) : Bool := l.all fun b => decide (32 ≤ b.toNat) && decide (b.toNat < 128)
theorem flat_nums : ∀ {l : List UInt8}, (∀ b ∈ l, b.toNat < 128) → flat (nums l) = l
  | [], _ => flat_nil
  | b :: l, h => by
    have hb := h b (List.mem_cons_self ..)
    have ih := flat_nums (l := l) (fun c hc => h c (List.mem_cons_of_mem _ hc))
    unfold nums at ih ⊢
    rw [List.map_cons, flat_cons, ih, enc_sane (.inl (by omega))]
    unfold encB
    rw [if_pos hb]
    simp
theorem lowB_at {l : List UInt8} (h : lowB l = true) : ∀ b ∈ l, 32 ≤ b.toNat ∧ b.toNat < 128 := by
  intro b hb
  have := List.all_eq_true.1 h b hb
  simpa using this
theorem low_ch {l : List UInt8} (h : lowB l = true) : ch l = some (nums l) := by
  have h1 := lowB_at h
  have h2 := Pr.ch_fine (l := nums l) (fun c hc => by
    obtain ⟨b, hb, rfl⟩ := List.mem_map.1 hc
    have := h1 b hb
    exact ⟨.inl (by omega), Pr.okc_of (by omega) (by omega)⟩)
  rw [flat_nums (fun b hb => (h1 b hb).2)] at h2
  exact h2
/-- a text of such signs, as it is kept -/
theorem low_keep {k : Nat} {l r : List UInt8} (h : lowB l = true) (hm : Pr.mapL (k != 3) (nums l) = nums r) (hr : lowB r = true) (hw : (nums r).any (Pr.wrong k) = false) (hy : Pr.wayB (nums r) = true) : Pr.prepL k l = (r, 0) := by
  rw [Pr.prepL_ch (low_ch h), hm, Pr.prepC_kept hw hy, flat_nums (fun b hb => (lowB_at hr b hb).2)]
/-- signs that stay, and may stand -/
def fitB (k : Nat) (b : UInt8) : Bool := decide (32 ≤ b.toNat) && decide (b.toNat < 128) && (Pr.one (k != 3) b.toNat == [b.toNat]) && !(Pr.wrong k b.toNat) && !(Pr.rl b.toNat)
theorem fit_at {k : Nat} {b : UInt8} (h : fitB k b = true) : 32 ≤ b.toNat ∧ b.toNat < 128 ∧ Pr.one (k != 3) b.toNat = [b.toNat] ∧ Pr.wrong k b.toNat = false ∧ Pr.rl b.toNat = false := by
  unfold fitB at h
  simp only [Bool.and_eq_true, decide_eq_true_eq, beq_iff_eq, Bool.not_eq_true'] at h
  exact ⟨h.1.1.1.1, h.1.1.1.2, h.1.1.2, h.1.2, h.2⟩
theorem fit_prep {k : Nat} {l : List UInt8} (h : ∀ b ∈ l, fitB k b = true) : Pr.prepL k l = (l, 0) := by
  refine low_keep (r := l) ?_ ?_ ?_ ?_ ?_
  · exact List.all_eq_true.2 fun b hb => by have := fit_at (h b hb); simp; omega
  · refine Pr.mapL_stays fun c hc => ?_
    obtain ⟨b, hb, rfl⟩ := List.mem_map.1 hc
    exact (fit_at (h b hb)).2.2.1
  · exact List.all_eq_true.2 fun b hb => by have := fit_at (h b hb); simp; omega
  · refine List.any_eq_false.2 fun c hc => ?_
    obtain ⟨b, hb, rfl⟩ := List.mem_map.1 hc
    rw [(fit_at (h b hb)).2.2.2.1]
    simp
  · have : (nums l).any Pr.rl = false := List.any_eq_false.2 fun c hc => by
      obtain ⟨b, hb, rfl⟩ := List.mem_map.1 hc
      rw [(fit_at (h b hb)).2.2.2.2]
      simp
    unfold Pr.wayB
    rw [this]
    rfl
theorem fit_mem {k : Nat} {l m : List UInt8} (hm : m.all (fitB k) = true) (h : ∀ b ∈ l, b ∈ m) : ∀ b ∈ l, fitB k b = true := fun b hb => List.all_eq_true.1 hm b (h b hb)

def six : List UInt8 := [97, 98, 99, 55, 56, 57]
/-- a word: "x", and at most twenty of six signs -/
structure Word (l : List UInt8) : Prop where
  len : l.length ≤ 21
  ne : ∃ t, l = 120 :: t
  mem : ∀ b ∈ l, b ∈ 120 :: six
theorem Word.fit {l : List UInt8} (h : Word l) (k : Nat) (hk : k = 1 ∨ k = 2 ∨ k = 3) : Pr.prepL k l = (l, 0) := by
  refine fit_prep (fit_mem (m := 120 :: six) ?_ h.mem)
  rcases hk with rfl | rfl | rfl <;> decide
theorem Word.free {l : List UInt8} (h : Word l) {c : UInt8} (hc : c ∉ (120 :: six : List UInt8)) : c ∉ l := fun hm => hc (h.mem c hm)
theorem Word.nn {l : List UInt8} (h : Word l) : l ≠ [] := by obtain ⟨t, rfl⟩ := h.ne; simp
theorem Word.pieces {l : List UInt8} (h : Word l) : (pcs 46 l).any badB = false := by
  rw [pcs_none (h.free (by decide))]
  have hl : l.getLastD 0 ∈ l := by
    rw [List.getLastD_eq_getLast?]
    rcases List.eq_nil_or_concat l with rfl | ⟨t, x, rfl⟩
    · exact absurd rfl h.nn
    · simp
  have h45 : (45 : UInt8) ∉ l := h.free (by decide)
  have h1 : (l.getLastD 0 == 45) = false := by
    cases e : (l.getLastD 0 == 45) with
    | false => rfl
    | true => rw [beq_iff_eq] at e; rw [e] at hl; exact absurd hl h45
  obtain ⟨t, rfl⟩ := h.ne
  simp only [List.any_cons, List.any_nil, Bool.or_false]
  unfold badB
  rw [h1]
  rfl
theorem Word.dom {l : List UInt8} (h : Word l) : domL l = (l, 0) := dom_of (h.fit 2 (.inr (.inl rfl))) h.nn (by have := h.len; omega) h.pieces
/-- what may stand behind a word, in a resource -/
def tails : List (List UInt8) := [[], [47], [64], [47, 64, 32, 47]]
theorem Word.res {l t : List UInt8} (h : Word l) (ht : t ∈ tails) : Pr.prepL 3 (l ++ t) = (l ++ t, 0) ∧ (l ++ t).length ≤ 64 ∧ l ++ t ≠ [] := by
  refine ⟨fit_prep (fit_mem (m := 47 :: 64 :: 32 :: 120 :: six) (by decide) fun b hb => ?_), ?_, fun e => h.nn (List.append_eq_nil_iff.1 e).1⟩
  · rcases List.mem_append.1 hb with hb | hb
    · exact List.mem_cons_of_mem _ (List.mem_cons_of_mem _ (List.mem_cons_of_mem _ (h.mem b hb)))
    · exact (show ∀ t ∈ tails, ∀ b ∈ t, b ∈ (47 :: 64 :: 32 :: 120 :: six : List UInt8) by decide) t ht b hb
  · have := h.len
    unfold tails at ht
    simp only [List.mem_cons, List.not_mem_nil, or_false] at ht
    rcases ht with rfl | rfl | rfl | rfl <;> simp <;> omega
theorem Word.right {l d r t : List UInt8} (hl : Word l) (hd : Word d) (hr : Word r) (ht : t ∈ tails) : Right (l, d, r ++ t) :=
  ⟨hd.dom, hd.nn, .inr ⟨hl.fit 1 (.inl rfl), by have := hl.len; show l.length ≤ 64; omega⟩, .inr ⟨(hr.res ht).1, (hr.res ht).2.1⟩⟩
end Jd
end Go.Proofs.YtogjhpcjjmcjfaaGreatDoor
end
section
/- what is reached of it -/
namespace Go.Proofs.YtogjhpcjjmcjfaaGreatDoor.Ct
open Go.Proofs.YtogjhpcjjmcjfaaGreatDoor Tx Vc
theorem inode_a : Jd.part true 1 [97] = ([97], 0) := by
  show Jd.sizedL 64 (Pr.prepL 1 [97]) = _
  rw [Jd.fit_prep (by decide)]
  decide
theorem idom_b : Jd.domL [98] = ([98], 0) := Jd.dom_of (Jd.fit_prep (by decide)) (by decide) (by decide) (by decide)
theorem iparse_eq {s : List UInt8} {c d : List UInt8 × List UInt8 × Bool} (hc : Jd.cutB 47 s = c) (hd : Jd.halfL c.1 = d) : Jd.parseL s = Jd.three (Jd.domL d.2.1) (Jd.part d.2.2 1 d.1) (Jd.part c.2.2 3 c.2.1) := by
  subst hc
  subst hd
  rfl
/-- "a@b" -/
theorem ibare_ab : Jd.bareL [97, 64, 98] = ([97, 64, 98], 0) := by
  have h : Jd.parseL [97, 64, 98] = (([97], [98], []), 0) := by
    rw [iparse_eq (s := [97, 64, 98]) (c := ([97, 64, 98], [], false)) (d := ([97], [98], true)) (by decide) (by decide)]
    simp only
    rw [idom_b, inode_a]
    rfl
  rw [Jd.bare_ok h rfl]
  rfl
end Go.Proofs.YtogjhpcjjmcjfaaGreatDoor.Ct
end
