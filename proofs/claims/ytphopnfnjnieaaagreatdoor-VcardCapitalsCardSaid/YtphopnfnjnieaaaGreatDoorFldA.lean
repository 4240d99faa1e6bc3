/-
  PLAIN LISTS OF BYTES: a line folded anywhere between its characters. Nothing of any program.
-/
import Derived.Test.YtphopnfnjnieaaaGreatDoorFld
import Derived.Test.YtphopnfnjnieaaaGreatDoorEncR
namespace Go.Proofs.YtphopnfnjnieaaaGreatDoor.Tx

theorem linesA_conts : ∀ (rs acc : List (List UInt8)) (x : List UInt8), (∀ r ∈ rs, cont r = true) → linesA (acc ++ [x]) rs = some (acc ++ [x ++ rs.flatMap List.tail])
  | [], acc, x, _ => by rw [linesA_nil]; simp
  | r :: rs, acc, x, h => by
    rw [linesA_more _ (h r (by simp)) (by simp), addLast_snoc, linesA_conts rs acc _ (fun r hr => h r (by simp [hr]))]
    simp
/-- R are told rows, cur is the open one: they are one line, of which done is told -/
def AStand (R : List (List UInt8)) (cur done : List UInt8) : Prop :=
  (∀ r ∈ R, clean r ∧ valid r = true) ∧ clean cur ∧ valid cur = true ∧ jn (R ++ [cur]) = done ∧ ∃ f t, R ++ [cur] = f :: t ∧ cont f = false ∧ ∀ r ∈ t, cont r = true
theorem AStand.start : AStand [] [] [] := ⟨fun r h => (by cases h), fun c h => (by cases h), valid_some ch_nil, rfl, [], [], rfl, rfl, fun r h => (by cases h)⟩
theorem AStand.cut {R : List (List UInt8)} {cur done : List UInt8} (h : AStand R cur done) {b : UInt8} (hb : b = 32 ∨ b = 9) : AStand (R ++ [cur]) [b] done := by
  obtain ⟨h1, h2, h3, h4, f, t, h5, h6, h7⟩ := h
  refine ⟨fun r hr => ?_, ?_, ?_, ?_, f, t ++ [[b]], by rw [h5]; simp, h6, fun r hr => ?_⟩
  · rcases List.mem_append.1 hr with hr | hr
    · exact h1 r hr
    · rw [List.mem_singleton] at hr; subst hr; exact ⟨h2, h3⟩
  · intro c hc
    rw [List.mem_singleton] at hc
    subst hc
    rcases hb with rfl | rfl <;> decide
  · rcases hb with rfl | rfl <;> decide +kernel
  · rw [jn_snoc (by simp), h4]
    simp
  · rcases List.mem_append.1 hr with hr | hr
    · exact h7 r hr
    · rw [List.mem_singleton] at hr
      subst hr
      rcases hb with rfl | rfl <;> rfl
theorem AStand.push {R : List (List UInt8)} {cur done e : List UInt8} (h : AStand R cur done) (he : clean e) (hv : valid e = true) (hc : cur ≠ [] ∨ cont e = false) : AStand R (cur ++ e) (done ++ e) := by
  obtain ⟨h1, h2, h3, h4, f, t, h5, h6, h7⟩ := h
  refine ⟨h1, fun c hc => ?_, (valid_append h3 hv).1, ?_, ?_⟩
  · rcases List.mem_append.1 hc with hc | hc
    · exact h2 c hc
    · exact he c hc
  · cases R with
    | nil =>
      rw [List.nil_append] at h4
      rw [← h4]
      simp [jn]
    | cons a R =>
      have hct : cont cur = true := by
        rw [List.cons_append] at h5
        obtain ⟨_, rfl⟩ := List.cons.inj h5
        exact h7 cur (by simp)
      cases cur with
      | nil => cases hct
      | cons c u =>
        rw [jn_snoc (by simp)] at h4 ⊢
        rw [← h4]
        simp
  · cases R with
    | nil =>
      rw [List.nil_append] at h5
      obtain ⟨rfl, rfl⟩ := List.cons.inj h5
      refine ⟨cur ++ e, [], rfl, ?_, fun r h => (by cases h)⟩
      cases cur with
      | nil => exact hc.resolve_left (fun h => h rfl)
      | cons c u => exact h6
    | cons a R =>
      rw [List.cons_append] at h5
      obtain ⟨rfl, rfl⟩ := List.cons.inj h5
      refine ⟨a, R ++ [cur ++ e], by simp, h6, fun r hr => ?_⟩
      rcases List.mem_append.1 hr with hr | hr
      · exact h7 r (by simp [hr])
      · rw [List.mem_singleton] at hr
        subst hr
        have hct := h7 cur (by simp)
        cases cur with
        | nil => cases hct
        | cons c u => exact hct
theorem AStand.done {R : List (List UInt8)} {cur done : List UInt8} (h : AStand R cur done) : Tx.unfold (ends R ++ cur ++ [13, 10]) = some [done] ∧ valid (ends R ++ cur ++ [13, 10]) = true := by
  obtain ⟨h1, h2, h3, h4, f, t, h5, h6, h7⟩ := h
  have e : ends R ++ cur ++ [13, 10] = ends (R ++ [cur]) := by rw [ends_append, ends_cons, ends_nil]; simp
  have hall : ∀ r ∈ R ++ [cur], clean r ∧ valid r = true := fun r hr => by
    rcases List.mem_append.1 hr with hr | hr
    · exact h1 r hr
    · rw [List.mem_singleton] at hr; subst hr; exact ⟨h2, h3⟩
  rw [e]
  refine ⟨?_, ends_valid _ (fun r hr => (hall r hr).2)⟩
  unfold Tx.unfold
  rw [rowsA_ends _ (fun r hr => (hall r hr).1), h5]
  show linesA [] (f :: t) = _
  rw [linesA_new [] t h6, linesA_conts t [] f h7]
  rw [h5] at h4
  rw [← h4]
  rfl
/-- a character of a line, written -/
theorem enc_line {c : Nat} (h1 : sane c) (h2 : okc c = true) (h3 : 32 ≤ c) : clean (enc c) ∧ valid (enc c) = true := by
  refine ⟨fun x hx => ?_, valid_some (ch_enc h1 h2)⟩
  rcases enc_cases h1 with ⟨a, e⟩ | ⟨a, b, e⟩ | ⟨a, b, e⟩ | ⟨a, b, e⟩
  all_goals
    rw [e] at hx
    have key : ∀ k, k < 256 → 32 ≤ k → x = UInt8.ofNat k → x ≠ 10 ∧ x ≠ 13 := fun k hk hk2 hxk => by
      subst hxk
      have := toNat_of k hk
      exact ⟨fun e => by rw [e] at this; simp at this; omega, fun e => by rw [e] at this; simp at this; omega⟩
    simp only [List.mem_cons, List.not_mem_nil, or_false] at hx
  · exact key c (by omega) h3 hx
  · rcases hx with hx | hx
    · exact key _ (by omega) (by omega) hx
    · exact key _ (by omega) (by omega) hx
  · rcases hx with hx | hx | hx
    · exact key _ (by omega) (by omega) hx
    · exact key _ (by omega) (by omega) hx
    · exact key _ (by omega) (by omega) hx
  · rcases hx with hx | hx | hx | hx
    · exact key _ (by omega) (by omega) hx
    · exact key _ (by omega) (by omega) hx
    · exact key _ (by omega) (by omega) hx
    · exact key _ (by omega) (by omega) hx
/-- the characters of a line -/
theorem line_chars {l : List UInt8} {most : Int} (h : line l most = true) : ∃ cs, ch l = some cs ∧ flat cs = l ∧ ∀ c ∈ cs, sane c ∧ okc c = true ∧ 32 ≤ c := by
  cases hc : ch l with
  | none => rw [line_none hc] at h; cases h
  | some cs =>
    rw [line_some hc, Bool.and_eq_true, beq_iff_eq, low_def] at h
    refine ⟨cs, rfl, ch_flat_back _ l cs (Nat.le_refl _) hc, fun c hm => ?_⟩
    obtain ⟨h1, h2⟩ := ch_good_all _ l cs (Nat.le_refl _) hc c hm
    refine ⟨h1, h2, ?_⟩
    rcases Nat.lt_or_ge c 32 with h3 | h3
    · have : c ∈ cs.filter (fun c => decide (c < 32)) := List.mem_filter.2 ⟨hm, decide_eq_true h3⟩
      rw [List.eq_nil_of_length_eq_zero h.1] at this
      cases this
    · exact h3
theorem flat_take_next {cs : List Nat} {i c : Nat} (h : cs[i]? = some c) : flat (cs.take (i + 1)) = flat (cs.take i) ++ enc c := by
  rw [List.take_add_one, h, Option.toList_some, flat_append, flat_one]
end Go.Proofs.YtphopnfnjnieaaaGreatDoor.Tx
