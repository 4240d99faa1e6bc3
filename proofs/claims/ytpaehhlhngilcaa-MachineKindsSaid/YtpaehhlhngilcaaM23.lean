import Derived.Test.YtpaehhlhngilcaaM21
/- what is reached of it -/
namespace Go.Proofs.Ytpaehhlhngilcaa
open Rg Tx
namespace Jd
def nums (l : List UInt8) : List Nat := l.map (·.toNat)
def lowB (l : List UInt8) : Bool := l.all fun b => decide (32 ≤ b.toNat) && decide (b.toNat < 128)
theorem flat_nums : ∀ {l : List UInt8}, (∀ b ∈ l, b.toNat < 128) → flat (nums l) = l
  | [], _ => flat_nil
  | b :: l, h => by
    have hb := h b (List.mem_cons_self ..)
    have ih := flat_nums (l := l) (fun c hc => h c (List.mem_cons_of_mem _ hc))
    unfold nums at ih ⊢
    rw [List.map_cons, flat_cons, ih, enc_sane (.inl (by omega))]
    unfold encB
    rw [if_pos hb]
    simp
theorem lowB_at {l : List UInt8} (h : lowB l = true) : ∀ b ∈ l, 32 ≤ b.toNat ∧ b.toNat < 128 := by
  intro b hb
  have := List.all_eq_true.1 h b hb
  simpa using this
theorem low_ch {l : List UInt8} (h : lowB l = true) : ch l = some (nums l) := by
  have h1 := lowB_at h
  have h2 := Pr.ch_fine (l := nums l) (fun c hc => by
    obtain ⟨b, hb, rfl⟩ := List.mem_map.1 hc
    have := h1 b hb
    exact ⟨.inl (by omega), Pr.okc_of (by omega) (by omega)⟩)
  rw [flat_nums (fun b hb => (h1 b hb).2)] at h2
  exact h2
/-- a text of such signs, as it is kept -/
theorem low_keep {k : Nat} {l r : List UInt8} (h : lowB l = true) (hm : Pr.mapL (k != 3) (nums l) = nums r) (hr : lowB r = true) (hw : (nums r).any (Pr.wrong k) = false) (hy : Pr.wayB (nums r) = true) : Pr.prepL k l = (r, 0) := by
  rw [Pr.prepL_ch (low_ch h), hm, Pr.prepC_kept hw hy, flat_nums (fun b hb => (lowB_at hr b hb).2)]
/-- signs that stay, and may stand -/
def fitB (k : Nat) (b : UInt8) : Bool := decide (32 ≤ b.toNat) && decide (b.toNat < 128) && (Pr.one (k != 3) b.toNat == [b.toNat]) && !(Pr.wrong k b.toNat) && !(Pr.rl b.toNat)
theorem fit_at {k : Nat} {b : UInt8} (h : fitB k b = true) : 32 ≤ b.toNat ∧ b.toNat < 128 ∧ Pr.one (k != 3) b.toNat = [b.toNat] ∧ Pr.wrong k b.toNat = false ∧ Pr.rl b.toNat = false := by
  unfold fitB at h
  simp only [Bool.and_eq_true, decide_eq_true_eq, beq_iff_eq, Bool.not_eq_true'] at h
  exact ⟨h.1.1.1.1, h.1.1.1.2, h.1.1.2, h.1.2, h.2⟩
theorem fit_prep {k : Nat} {l : List UInt8} (h : ∀ b ∈ l, fitB k b = true) : Pr.prepL k l = (l, 0) := by
  refine low_keep (r := l) ?_ ?_ ?_ ?_ ?_
  · exact List.all_eq_true.2 fun b hb => by have := fit_at (h b hb); simp; omega
  · refine Pr.mapL_stays fun c hc => ?_
    obtain ⟨b, hb, rfl⟩ := List.mem_map.1 hc
    exact (fit_at (h b hb)).2.2.1
  · exact List.all_eq_true.2 fun b hb => by have := fit_at (h b hb); simp; omega
  · refine List.any_eq_false.2 fun c hc => ?_
    obtain ⟨b, hb, rfl⟩ := List.mem_map.1 hc
    rw [(fit_at (h b hb)).2.2.2.1]
    simp
  · have : (nums l).any Pr.rl = false := List.any_eq_false.2 fun c hc => by
      obtain ⟨b, hb, rfl⟩ := List.mem_map.1 hc
      rw [(fit_at (h b hb)).2.2.2.2]
      simp
    unfold Pr.wayB
    rw [this]
    rfl
theorem fit_mem {k : Nat} {l m : List UInt8} (hm : m.all (fitB k) = true) (h : ∀ b ∈ l, b ∈ m) : ∀ b ∈ l, fitB k b = true := fun b hb => List.all_eq_true.1 hm b (h b hb)

def six : List UInt8 := [97, 98, 99, 55, 56, 57]
/-- a word: "x", and at most twenty of six signs -/
structure Word (l : List UInt8) : Prop where
  len : l.length ≤ 21
  ne : ∃ t, l = 120 :: t
  mem : ∀ b ∈ l, b ∈ 120 :: six
theorem Word.fit {l : List UInt8} (h : Word l) (k : Nat) (hk : k = 1 ∨ k = 2 ∨ k = 3) : Pr.prepL k l = (l, 0) := by
  refine fit_prep (fit_mem (m := 120 :: six) ?_ h.mem)
  rcases hk with rfl | rfl | rfl <;> decide
theorem Word.free {l : List UInt8} (h : Word l) {c : UInt8} (hc : c ∉ (120 :: six : List UInt8)) : c ∉ l := fun hm => hc (h.mem c hm)
theorem Word.nn {l : List UInt8} (h : Word l) : l ≠ [] := by obtain ⟨t, rfl⟩ := h.ne; simp
theorem Word.pieces {l : List UInt8} (h : Word l) : (pcs 46 l).any badB = false := by
  rw [pcs_none (h.free (by decide))]
  have hl : l.getLastD 0 ∈ l := by
    rw [List.getLastD_eq_getLast?]
    rcases List.eq_nil_or_concat l with rfl | ⟨t, x, rfl⟩
    · exact absurd rfl h.nn
    · simp
  have h45 : (45 : UInt8) ∉ l := h.free (by decide)
  have h1 : (l.getLastD 0 == 45) = false := by
    cases e : (l.getLastD 0 == 45) with
    | false => rfl
    | true => rw [beq_iff_eq] at e; rw [e] at hl; exact absurd hl h45
  obtain ⟨t, rfl⟩ := h.ne
  simp only [List.any_cons, List.any_nil, Bool.or_false]
  unfold badB
  rw [h1]
  rfl
theorem Word.dom {l : List UInt8} (h : Word l) : domL l = (l, 0) := dom_of (h.fit 2 (.inr (.inl rfl))) h.nn (by have := h.len; omega) h.pieces
/-- what may stand behind a word, in a resource -/
def tails : List (List UInt8) := [[], [47], [64], [47, 64, 32, 47]]
theorem Word.res {l t : List UInt8} (h : Word l) (ht : t ∈ tails) : Pr.prepL 3 (l ++ t) = (l ++ t, 0) ∧ (l ++ t).length ≤ 64 ∧ l ++ t ≠ [] := by
  refine ⟨fit_prep (fit_mem (m := 47 :: 64 :: 32 :: 120 :: six) (by decide) fun b hb => ?_), ?_, fun e => h.nn (List.append_eq_nil_iff.1 e).1⟩
  · rcases List.mem_append.1 hb with hb | hb
    · exact List.mem_cons_of_mem _ (List.mem_cons_of_mem _ (List.mem_cons_of_mem _ (h.mem b hb)))
    · exact (show ∀ t ∈ tails, ∀ b ∈ t, b ∈ (47 :: 64 :: 32 :: 120 :: six : List UInt8) by decide) t ht b hb
  · have := h.len
    unfold tails at ht
    simp only [List.mem_cons, List.not_mem_nil, or_false] at ht
    rcases ht with rfl | rfl | rfl | rfl <;> simp <;> omega
theorem Word.right {l d r t : List UInt8} (hl : Word l) (hd : Word d) (hr : Word r) (ht : t ∈ tails) : Right (l, d, r ++ t) :=
  ⟨hd.dom, hd.nn, .inr ⟨hl.fit 1 (.inl rfl), by have := hl.len; show l.length ≤ 64; omega⟩, .inr ⟨(hr.res ht).1, (hr.res ht).2.1⟩⟩
end Jd
end Go.Proofs.Ytpaehhlhngilcaa
