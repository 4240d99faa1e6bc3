/-
  ADDRESSES OF SIGNS OF ONE BYTE, over plain lists: what is kept of them. Nothing of any program.
-/
import Derived.Test.YtjclfpeccdlaoaaGreatDoorJid
namespace Go.Proofs.YtjclfpeccdlaoaaGreatDoor
open Rg Tx
namespace Jd

def nums (l : List UInt8) : List Nat := l.map (·.toNat)
def lowB (l : List UInt8) : Bool := l.all fun b => decide (32 ≤ b.toNat) && decide (b.toNat < 128)
theorem flat_nums : ∀ {l : List UInt8}, (∀ b ∈ l, b.toNat < 128) → flat (nums l) = l
  | [], _ => flat_nil
  | b :: l, h => by
    have hb := h b (List.mem_cons_self ..)
    have ih := flat_nums (l := l) (fun c hc => h c (List.mem_cons_of_mem _ hc))
    unfold nums at ih ⊢
    rw [List.map_cons, flat_cons, ih, enc_sane (.inl (by omega))]
    unfold encB
    rw [if_pos hb]
    simp
theorem lowB_at {l : List UInt8} (h : lowB l = true) : ∀ b ∈ l, 32 ≤ b.toNat ∧ b.toNat < 128 := by
  intro b hb
  have := List.all_eq_true.1 h b hb
  simpa using this
theorem low_ch {l : List UInt8} (h : lowB l = true) : ch l = some (nums l) := by
  have h1 := lowB_at h
  have h2 := Pr.ch_fine (l := nums l) (fun c hc => by
    obtain ⟨b, hb, rfl⟩ := List.mem_map.1 hc
    have := h1 b hb
    exact ⟨.inl (by omega), Pr.okc_of (by omega) (by omega)⟩)
  rw [flat_nums (fun b hb => (h1 b hb).2)] at h2
  exact h2
/-- a text of such signs, as it is kept -/
theorem low_keep {k : Nat} {l r : List UInt8} (h : lowB l = true) (hm : Pr.mapL (k != 3) (nums l) = nums r) (hr : lowB r = true) (hw : (nums r).any (Pr.wrong k) = false) (hy : Pr.wayB (nums r) = true) : Pr.prepL k l = (r, 0) := by
  rw [Pr.prepL_ch (low_ch h), hm, Pr.prepC_kept hw hy, flat_nums (fun b hb => (lowB_at hr b hb).2)]
theorem low_char {k : Nat} {l r : List UInt8} (h : lowB l = true) (hm : Pr.mapL (k != 3) (nums l) = nums r) (hw : (nums r).any (Pr.wrong k) = true) : Pr.prepL k l = ([], 15) := by
  rw [Pr.prepL_ch (low_ch h), hm, Pr.prepC_char hw]
/-- signs that stay, and may stand -/
def fitB (k : Nat) (b : UInt8) : Bool := decide (32 ≤ b.toNat) && decide (b.toNat < 128) && (Pr.one (k != 3) b.toNat == [b.toNat]) && !(Pr.wrong k b.toNat) && !(Pr.rl b.toNat)
theorem fit_at {k : Nat} {b : UInt8} (h : fitB k b = true) : 32 ≤ b.toNat ∧ b.toNat < 128 ∧ Pr.one (k != 3) b.toNat = [b.toNat] ∧ Pr.wrong k b.toNat = false ∧ Pr.rl b.toNat = false := by
  unfold fitB at h
  simp only [Bool.and_eq_true, decide_eq_true_eq, beq_iff_eq, Bool.not_eq_true'] at h
  exact ⟨h.1.1.1.1, h.1.1.1.2, h.1.1.2, h.1.2, h.2⟩
theorem fit_prep {k : Nat} {l : List UInt8} (h : ∀ b ∈ l, fitB k b = true) : Pr.prepL k l = (l, 0) := by
  refine low_keep (r := l) ?_ ?_ ?_ ?_ ?_
  · exact List.all_eq_true.2 fun b hb => by have := fit_at (h b hb); simp; omega
  · refine Pr.mapL_stays fun c hc => ?_
    obtain ⟨b, hb, rfl⟩ := List.mem_map.1 hc
    exact (fit_at (h b hb)).2.2.1
  · exact List.all_eq_true.2 fun b hb => by have := fit_at (h b hb); simp; omega
  · refine List.any_eq_false.2 fun c hc => ?_
    obtain ⟨b, hb, rfl⟩ := List.mem_map.1 hc
    rw [(fit_at (h b hb)).2.2.2.1]
    simp
  · have : (nums l).any Pr.rl = false := List.any_eq_false.2 fun c hc => by
      obtain ⟨b, hb, rfl⟩ := List.mem_map.1 hc
      rw [(fit_at (h b hb)).2.2.2.2]
      simp
    unfold Pr.wayB
    rw [this]
    rfl
theorem fit_mem {k : Nat} {l m : List UInt8} (hm : m.all (fitB k) = true) (h : ∀ b ∈ l, b ∈ m) : ∀ b ∈ l, fitB k b = true := fun b hb => List.all_eq_true.1 hm b (h b hb)

theorem parse_eq {s : List UInt8} {c d : List UInt8 × List UInt8 × Bool} (hc : cutB 47 s = c) (hd : halfL c.1 = d) : parseL s = three (domL d.2.1) (part d.2.2 1 d.1) (part c.2.2 3 c.2.1) := by
  subst hc
  subst hd
  rfl
theorem dom_eval {s h d : List UInt8} (h1 : Pr.prepL 2 s = (h, 0)) (h2 : trimD h = d) : domL s = pieced (sizedL 100 (d, 0)) := by
  unfold domL hostL
  rw [h1]
  simp only
  rw [h2]
theorem dom_char {s : List UInt8} {n : Nat} (h1 : Pr.prepL 2 s = ([], n)) (h : n ≠ 0) : domL s = ([], n) := by
  unfold domL hostL
  rw [h1]
  have e : sizedL 100 (trimD ([] : List UInt8), n) = ([], n) := by unfold sizedL; rw [if_neg h]
  show pieced (sizedL 100 (trimD ([] : List UInt8), n)) = _
  rw [e]
  unfold pieced
  rw [if_neg h]
/-- the error alone, part by part -/
theorem three_e1 {D N R : List UInt8 × Nat} (h : D.2 ≠ 0) : (three D N R).2 = D.2 := by unfold three; rw [if_pos h]
theorem three_e2 {D N R : List UInt8 × Nat} (h : D.2 = 0) (h2 : N.2 ≠ 0) : (three D N R).2 = N.2 := by unfold three; rw [if_neg (by simp [h]), if_pos h2]
theorem three_e3 {D N R : List UInt8 × Nat} (h : D.2 = 0) (h2 : N.2 = 0) : (three D N R).2 = R.2 := by
  unfold three
  rw [if_neg (by simp [h]), if_neg (by simp [h2])]
  by_cases h3 : R.2 = 0
  · rw [if_neg (by simp [h3])]; exact h3.symm
  · rw [if_pos h3]
theorem dom_a : domL [97] = ([97], 0) := dom_of (fit_prep (by decide)) (by decide) (by decide) (by decide)
theorem dom_b : domL [98] = ([98], 0) := dom_of (fit_prep (by decide)) (by decide) (by decide) (by decide)
theorem dom_nil : domL [] = ([], 14) := (dom_eval (prep_nil 2) rfl).trans rfl
theorem dom_AB : domL [65, 46, 66, 46] = ([97, 46, 98], 0) := (dom_eval (low_keep (l := [65, 46, 66, 46]) (r := [97, 46, 98, 46]) (by decide) (by decide) (by decide) (by decide) (by decide)) (show trimD _ = [97, 46, 98] by decide)).trans (by decide)
theorem dom_B : domL [66] = ([98], 0) := (dom_eval (low_keep (l := [66]) (r := [98]) (by decide) (by decide) (by decide) (by decide) (by decide)) (show trimD _ = [98] by decide)).trans (by decide)
theorem node_a : part true 1 [97] = ([97], 0) := by
  show sizedL 64 (Pr.prepL 1 [97]) = _
  rw [fit_prep (by decide)]
  decide
theorem node_A : part true 1 [65] = ([97], 0) := by
  show sizedL 64 (Pr.prepL 1 [65]) = _
  rw [low_keep (l := [65]) (r := [97]) (by decide) (by decide) (by decide) (by decide) (by decide)]
  decide
theorem part_nil (k : Nat) : part true k [] = ([], 14) := by
  show sizedL 64 (Pr.prepL k []) = _
  rw [prep_nil]
  decide
theorem res_C : part true 3 [67] = ([67], 0) := by
  show sizedL 64 (Pr.prepL 3 [67]) = _
  rw [fit_prep (by decide)]
  decide
/-- "A@B" -/
theorem bare_AB : bareL [65, 64, 66] = ([97, 64, 98], 0) := by
  have h : parseL [65, 64, 66] = (([97], [98], []), 0) := by
    rw [parse_eq (s := [65, 64, 66]) (c := ([65, 64, 66], [], false)) (d := ([65], [66], true)) (by decide) (by decide)]
    simp only
    rw [dom_B, node_A]
    rfl
  rw [bare_ok h rfl]
  rfl
/-- "a@b/C" -/
theorem parse_abC : parseL [97, 64, 98, 47, 67] = (([97], [98], [67]), 0) := by
  rw [parse_eq (s := [97, 64, 98, 47, 67]) (c := ([97, 64, 98], [67], true)) (d := ([97], [98], true)) (by decide) (by decide)]
  simp only
  rw [dom_b, node_a, res_C]
  rfl
theorem less_ab : lessL [97, 64, 98] [98, 64, 98] = true := by
  have h1 : dmL [97, 64, 98] = [98] := by decide
  have h2 : dmL [98, 64, 98] = [98] := by decide
  unfold lessL
  rw [h1, h2, lt_irr]
  have : ltL [97, 64, 98] [98, 64, 98] = true := by unfold ltL; decide
  rw [this]
  rfl
/-! ### the twelve -/
def bads : List (List UInt8) := [[], [64, 97], [97, 64], [97, 47], [47, 97], [97, 64, 64, 98], [97, 64, 45, 98], [97, 64, 98, 45], [97, 64, 98, 46, 46, 99], [97, 64, 46, 98], [46], [97, 64, 98, 47]]
def badE : List Nat := [14, 14, 14, 14, 14, 15, 14, 14, 14, 14, 14, 14]
theorem bad_all : ∀ i, i < 12 → (parseL (bads.getD i [])).2 = badE.getD i 0 := by
  intro i hi
  match i, hi with
  | 0, _ => show (parseL []).2 = 14; rw [parse_eq (s := []) (c := ([], [], false)) (d := ([], [], false)) (by decide) (by decide), three_e1 (by simp only; rw [dom_nil]; decide)]; simp only; rw [dom_nil]
  | 1, _ => show (parseL [64, 97]).2 = 14; rw [parse_eq (s := [64, 97]) (c := ([64, 97], [], false)) (d := ([], [97], true)) (by decide) (by decide), three_e2 (by simp only; rw [dom_a]) (by simp only; rw [part_nil]; decide)]; simp only; rw [part_nil]
  | 2, _ => show (parseL [97, 64]).2 = 14; rw [parse_eq (s := [97, 64]) (c := ([97, 64], [], false)) (d := ([97], [], true)) (by decide) (by decide), three_e1 (by simp only; rw [dom_nil]; decide)]; simp only; rw [dom_nil]
  | 3, _ => show (parseL [97, 47]).2 = 14; rw [parse_eq (s := [97, 47]) (c := ([97], [], true)) (d := ([], [97], false)) (by decide) (by decide), three_e3 (by simp only; rw [dom_a]) (by rfl)]; simp only; rw [part_nil]
  | 4, _ => show (parseL [47, 97]).2 = 14; rw [parse_eq (s := [47, 97]) (c := ([], [97], true)) (d := ([], [], false)) (by decide) (by decide), three_e1 (by simp only; rw [dom_nil]; decide)]; simp only; rw [dom_nil]
  | 5, _ =>
    have h : domL [64, 98] = ([], 15) := dom_char (low_char (l := [64, 98]) (r := [64, 98]) (by decide) (by decide) (by decide)) (by decide)
    show (parseL [97, 64, 64, 98]).2 = 15; rw [parse_eq (s := [97, 64, 64, 98]) (c := ([97, 64, 64, 98], [], false)) (d := ([97], [64, 98], true)) (by decide) (by decide), three_e1 (by simp only; rw [h]; decide)]; simp only; rw [h]
  | 6, _ =>
    have h : domL [45, 98] = ([], 14) := (dom_eval (fit_prep (l := [45, 98]) (by decide)) (show trimD _ = [45, 98] by decide)).trans (by decide)
    show (parseL [97, 64, 45, 98]).2 = 14; rw [parse_eq (s := [97, 64, 45, 98]) (c := ([97, 64, 45, 98], [], false)) (d := ([97], [45, 98], true)) (by decide) (by decide), three_e1 (by simp only; rw [h]; decide)]; simp only; rw [h]
  | 7, _ =>
    have h : domL [98, 45] = ([], 14) := (dom_eval (fit_prep (l := [98, 45]) (by decide)) (show trimD _ = [98, 45] by decide)).trans (by decide)
    show (parseL [97, 64, 98, 45]).2 = 14; rw [parse_eq (s := [97, 64, 98, 45]) (c := ([97, 64, 98, 45], [], false)) (d := ([97], [98, 45], true)) (by decide) (by decide), three_e1 (by simp only; rw [h]; decide)]; simp only; rw [h]
  | 8, _ =>
    have h : domL [98, 46, 46, 99] = ([], 14) := (dom_eval (fit_prep (l := [98, 46, 46, 99]) (by decide)) (show trimD _ = [98, 46, 46, 99] by decide)).trans (by decide)
    show (parseL [97, 64, 98, 46, 46, 99]).2 = 14; rw [parse_eq (s := [97, 64, 98, 46, 46, 99]) (c := ([97, 64, 98, 46, 46, 99], [], false)) (d := ([97], [98, 46, 46, 99], true)) (by decide) (by decide), three_e1 (by simp only; rw [h]; decide)]; simp only; rw [h]
  | 9, _ =>
    have h : domL [46, 98] = ([], 14) := (dom_eval (fit_prep (l := [46, 98]) (by decide)) (show trimD _ = [46, 98] by decide)).trans (by decide)
    show (parseL [97, 64, 46, 98]).2 = 14; rw [parse_eq (s := [97, 64, 46, 98]) (c := ([97, 64, 46, 98], [], false)) (d := ([97], [46, 98], true)) (by decide) (by decide), three_e1 (by simp only; rw [h]; decide)]; simp only; rw [h]
  | 10, _ =>
    have h : domL [46] = ([], 14) := (dom_eval (fit_prep (l := [46]) (by decide)) (show trimD _ = [] by decide)).trans (by decide)
    show (parseL [46]).2 = 14; rw [parse_eq (s := [46]) (c := ([46], [], false)) (d := ([], [46], false)) (by decide) (by decide), three_e1 (by simp only; rw [h]; decide)]; simp only; rw [h]
  | 11, _ => show (parseL [97, 64, 98, 47]).2 = 14; rw [parse_eq (s := [97, 64, 98, 47]) (c := ([97, 64, 98], [], true)) (d := ([97], [98], true)) (by decide) (by decide), three_e3 (by simp only; rw [dom_b]) (by simp only; rw [node_a])]; simp only; rw [part_nil]
/-! ### so many -/
def rep (n : Nat) : List UInt8 := List.replicate n 97
theorem rep_len (n : Nat) : (rep n).length = n := by simp [rep]
theorem rep_mem {n : Nat} : ∀ b ∈ rep n, b ∈ ([97] : List UInt8) := fun b hb => by rw [List.eq_of_mem_replicate hb]; simp
theorem rep_free {n : Nat} {c : UInt8} (h : c ≠ 97) : c ∉ rep n := fun hm => h (List.eq_of_mem_replicate hm)
theorem rep_prep (k : Nat) (hk : k = 1 ∨ k = 2 ∨ k = 3) (n : Nat) : Pr.prepL k (rep n) = (rep n, 0) := by
  refine fit_prep (fit_mem (m := [97]) ?_ rep_mem)
  rcases hk with rfl | rfl | rfl <;> decide
theorem rep_dom {m : Nat} (hm : 1 ≤ m) : (domL (rep m)).2 = if m ≤ 100 then 0 else 14 := by
  have hne : rep m ≠ [] := fun e => by have := rep_len m; rw [e] at this; simp at this; omega
  have hp : pcs 46 (rep m) = [rep m] := pcs_none (rep_free (by decide))
  have hb : badB (rep m) = false := by
    unfold badB
    cases m with
    | zero => omega
    | succ m =>
      have h1 : (rep (m + 1)).headD 0 = 97 := rfl
      have h2 : (rep (m + 1)).getLastD 0 = 97 := by
        unfold rep
        rw [List.getLastD_eq_getLast?, List.getLast?_replicate, if_neg (by omega)]
        rfl
      rw [h1, h2]
      rfl
  have ht : trimD (rep m) = rep m := trim_pieces (by rw [hp]; simp [hb])
  rw [dom_eval (rep_prep 2 (.inr (.inl rfl)) m) ht]
  by_cases h : m ≤ 100
  · rw [if_pos h, sized_of hne (by rw [rep_len]; exact h)]
    unfold pieced
    rw [if_pos rfl, hp]
    simp [hb]
  · rw [if_neg h]
    have : sizedL 100 (rep m, 0) = ([], 14) := by
      unfold sizedL
      rw [if_pos rfl, if_pos (.inr (show 100 < (rep m).length by rw [rep_len]; omega))]
    rw [this]
    rfl
theorem rep_part {k n : Nat} (hk : k = 1 ∨ k = 2 ∨ k = 3) (hn : 1 ≤ n) : (part true k (rep n)).2 = if n ≤ 64 then 0 else 14 := by
  have hne : rep n ≠ [] := fun e => by have := rep_len n; rw [e] at this; simp at this; omega
  show (sizedL 64 (Pr.prepL k (rep n))).2 = _
  rw [rep_prep k hk n]
  by_cases h : n ≤ 64
  · rw [if_pos h, sized_of hne (by rw [rep_len]; exact h)]
  · rw [if_neg h]
    unfold sizedL
    rw [if_pos rfl, if_pos (.inr (show 64 < (rep n).length by rw [rep_len]; omega))]
theorem rep_parse {n m k : Nat} (hn : 1 ≤ n) (hm : 1 ≤ m) (hk : 1 ≤ k) : (parseL (rep n ++ [64] ++ rep m ++ [47] ++ rep k)).2 = if n ≤ 64 ∧ m ≤ 100 ∧ k ≤ 64 then 0 else 14 := by
  have e : rep n ++ [64] ++ rep m ++ [47] ++ rep k = (rep n ++ 64 :: rep m) ++ 47 :: rep k := by simp
  have h1 : cutB 47 (rep n ++ [64] ++ rep m ++ [47] ++ rep k) = (rep n ++ 64 :: rep m, rep k, true) := by
    rw [e]
    refine cutB_some fun hmem => ?_
    rcases List.mem_append.1 hmem with hmem | hmem
    · exact rep_free (by decide) hmem
    · rcases List.mem_cons.1 hmem with hmem | hmem
      · exact absurd hmem (by decide)
      · exact rep_free (by decide) hmem
  have h2 : halfL (rep n ++ 64 :: rep m) = (rep n, rep m, true) := half_some (rep_free (by decide))
  rw [parse_eq h1 h2]
  simp only
  have hD := rep_dom hm
  have hN := rep_part (k := 1) (.inl rfl) hn
  have hR := rep_part (k := 3) (.inr (.inr rfl)) hk
  by_cases a : m ≤ 100
  · rw [if_pos a] at hD
    by_cases b : n ≤ 64
    · rw [if_pos b] at hN
      rw [three_e3 hD hN, hR]
      by_cases c : k ≤ 64
      · rw [if_pos c, if_pos ⟨b, a, c⟩]
      · rw [if_neg c, if_neg (fun h => c h.2.2)]
    · rw [if_neg b] at hN
      rw [three_e2 hD (by rw [hN]; decide), hN, if_neg (fun h => b h.1)]
  · rw [if_neg a] at hD
    rw [three_e1 (by rw [hD]; decide), hD, if_neg (fun h => a h.2.1)]
/-! ### words -/
def six : List UInt8 := [97, 98, 99, 55, 56, 57]
/-- a word: "x", and at most twenty of six signs -/
structure Word (l : List UInt8) : Prop where
  len : l.length ≤ 21
  ne : ∃ t, l = 120 :: t
  mem : ∀ b ∈ l, b ∈ 120 :: six
theorem Word.fit {l : List UInt8} (h : Word l) (k : Nat) (hk : k = 1 ∨ k = 2 ∨ k = 3) : Pr.prepL k l = (l, 0) := by
  refine fit_prep (fit_mem (m := 120 :: six) ?_ h.mem)
  rcases hk with rfl | rfl | rfl <;> decide
theorem Word.free {l : List UInt8} (h : Word l) {c : UInt8} (hc : c ∉ (120 :: six : List UInt8)) : c ∉ l := fun hm => hc (h.mem c hm)
theorem Word.nn {l : List UInt8} (h : Word l) : l ≠ [] := by obtain ⟨t, rfl⟩ := h.ne; simp
theorem Word.pieces {l : List UInt8} (h : Word l) : (pcs 46 l).any badB = false := by
  rw [pcs_none (h.free (by decide))]
  have hl : l.getLastD 0 ∈ l := by
    rw [List.getLastD_eq_getLast?]
    rcases List.eq_nil_or_concat l with rfl | ⟨t, x, rfl⟩
    · exact absurd rfl h.nn
    · simp
  have h45 : (45 : UInt8) ∉ l := h.free (by decide)
  have h1 : (l.getLastD 0 == 45) = false := by
    cases e : (l.getLastD 0 == 45) with
    | false => rfl
    | true => rw [beq_iff_eq] at e; rw [e] at hl; exact absurd hl h45
  obtain ⟨t, rfl⟩ := h.ne
  simp only [List.any_cons, List.any_nil, Bool.or_false]
  unfold badB
  rw [h1]
  rfl
theorem Word.dom {l : List UInt8} (h : Word l) : domL l = (l, 0) := dom_of (h.fit 2 (.inr (.inl rfl))) h.nn (by have := h.len; omega) h.pieces
theorem Word.domDot {l : List UInt8} (h : Word l) : domL (l ++ [46]) = (l, 0) := by
  have h1 : Pr.prepL 2 (l ++ [46]) = (l ++ [46], 0) := by
    refine fit_prep (fit_mem (m := 46 :: 120 :: six) (by decide) fun b hb => ?_)
    rcases List.mem_append.1 hb with hb | hb
    · exact List.mem_cons_of_mem _ (h.mem b hb)
    · rw [List.mem_singleton.1 hb]; exact List.mem_cons_self ..
  have h2 : trimD (l ++ [46]) = l := by
    unfold trimD
    rw [if_pos (by simp), List.dropLast_concat]
  rw [dom_eval h1 h2, sized_of h.nn (by have := h.len; omega)]
  unfold pieced
  rw [if_pos rfl, h.pieces]
  rfl
/-- what may stand behind a word, in a resource -/
def tails : List (List UInt8) := [[], [47], [64], [47, 64, 32, 47]]
theorem Word.res {l t : List UInt8} (h : Word l) (ht : t ∈ tails) : Pr.prepL 3 (l ++ t) = (l ++ t, 0) ∧ (l ++ t).length ≤ 64 ∧ l ++ t ≠ [] := by
  refine ⟨fit_prep (fit_mem (m := 47 :: 64 :: 32 :: 120 :: six) (by decide) fun b hb => ?_), ?_, fun e => h.nn (List.append_eq_nil_iff.1 e).1⟩
  · rcases List.mem_append.1 hb with hb | hb
    · exact List.mem_cons_of_mem _ (List.mem_cons_of_mem _ (List.mem_cons_of_mem _ (h.mem b hb)))
    · exact (show ∀ t ∈ tails, ∀ b ∈ t, b ∈ (47 :: 64 :: 32 :: 120 :: six : List UInt8) by decide) t ht b hb
  · have := h.len
    unfold tails at ht
    simp only [List.mem_cons, List.not_mem_nil, or_false] at ht
    rcases ht with rfl | rfl | rfl | rfl <;> simp <;> omega
theorem Word.right {l d r t : List UInt8} (hl : Word l) (hd : Word d) (hr : Word r) (ht : t ∈ tails) : Right (l, d, r ++ t) :=
  ⟨hd.dom, hd.nn, .inr ⟨hl.fit 1 (.inl rfl), by have := hl.len; show l.length ≤ 64; omega⟩, .inr ⟨(hr.res ht).1, (hr.res ht).2.1⟩⟩
theorem Word.right0 {d r t : List UInt8} (hd : Word d) (hr : Word r) (ht : t ∈ tails) : Right ([], d, r ++ t) :=
  ⟨hd.dom, hd.nn, .inl rfl, .inr ⟨(hr.res ht).1, (hr.res ht).2.1⟩⟩
theorem Word.right1 {l d : List UInt8} (hl : Word l) (hd : Word d) : Right (l, d, []) :=
  ⟨hd.dom, hd.nn, .inr ⟨hl.fit 1 (.inl rfl), by have := hl.len; show l.length ≤ 64; omega⟩, .inl rfl⟩
theorem word_all {l d r t : List UInt8} (hl : Word l) (hd : Word d) (hr : Word r) (ht : t ∈ tails) :
    parseL (l ++ [64] ++ d ++ [47] ++ (r ++ t)) = ((l, d, r ++ t), 0) ∧ parseL (d ++ [47] ++ (r ++ t)) = (([], d, r ++ t), 0) ∧ parseL (d ++ [46]) = (([], d, []), 0) ∧
    bareL (l ++ [64] ++ d ++ [47] ++ (r ++ t)) = ([], 14) ∧ bareL (l ++ [64] ++ d) = (l ++ [64] ++ d, 0) := by
  have hn := (hr.res ht).2.2
  have t1 : textL (l, d, r ++ t) = l ++ [64] ++ d ++ [47] ++ (r ++ t) := by
    have e : textL (l, d, r ++ t) = (if l = [] then d else l ++ [64] ++ d) ++ (if r ++ t = [] then [] else [47] ++ (r ++ t)) := rfl
    rw [e, if_neg hl.nn, if_neg hn, List.append_assoc (l ++ [64] ++ d)]
  have t2 : textL ([], d, r ++ t) = d ++ [47] ++ (r ++ t) := by
    have e : textL ([], d, r ++ t) = d ++ (if r ++ t = [] then [] else [47] ++ (r ++ t)) := rfl
    rw [e, if_neg hn, List.append_assoc d]
  have t3 : textL (l, d, []) = l ++ [64] ++ d := by
    have e : textL (l, d, []) = (if l = [] then d else l ++ [64] ++ d) ++ [] := rfl
    rw [e, if_neg hl.nn, List.append_nil]
  have p1 := parse_text (hl.right hd hr ht)
  have p2 := parse_text (hd.right0 hr ht)
  have p3 := parse_text (hl.right1 hd)
  rw [t1] at p1
  rw [t2] at p2
  rw [t3] at p3
  refine ⟨p1, p2, ?_, bare_res p1 hn, ?_⟩
  · have h47 : (47 : UInt8) ∉ d ++ [46] := fun hm => (List.mem_append.1 hm).elim (hd.free (by decide)) (fun h => absurd (List.mem_singleton.1 h) (by decide))
    have h64 : (64 : UInt8) ∉ d ++ [46] := fun hm => (List.mem_append.1 hm).elim (hd.free (by decide)) (fun h => absurd (List.mem_singleton.1 h) (by decide))
    rw [parse_eq (cutB_none h47) (half_none h64)]
    simp only
    rw [hd.domDot]
    rfl
  · have := bare_ok p3 rfl
    rw [t3] at this
    exact this
end Jd
end Go.Proofs.YtjclfpeccdlaoaaGreatDoor
