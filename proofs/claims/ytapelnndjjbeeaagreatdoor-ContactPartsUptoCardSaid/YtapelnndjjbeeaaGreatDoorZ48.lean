import Derived.Test.YtapelnndjjbeeaaGreatDoorZ31
import Derived.Test.YtapelnndjjbeeaaGreatDoorZ12
import Derived.Test.YtapelnndjjbeeaaGreatDoorZ47
section
/- what is reached of it -/
namespace Go.Proofs.YtapelnndjjbeeaaGreatDoor.Ct
open Go.Proofs.YtapelnndjjbeeaaGreatDoor Tx Vc
theorem line_more {t : List UInt8} {n m : Int} (h : line t n = true) (hm : n ≤ m) : line t m = true := by
  obtain ⟨cs, h1, _, _⟩ := line_chars h
  rw [line_some h1] at h ⊢
  obtain ⟨h2, h3⟩ := Bool.and_eq_true_iff.1 h
  have h3 := of_decide_eq_true h3
  exact Bool.and_eq_true_iff.2 ⟨h2, decide_eq_true (by omega)⟩
theorem none_ok : (writeV [[]]).2 = 0 := by decide +kernel
/-- right, part by part -/
theorem right_of {c : Con} (h1 : c.name ≠ []) (h2 : textsB c = true) (h3 : noteB c.note = true) (h4 : bareB c.jid = true) (h5 : rightG c.groups = true) (h6 : (writeV [c.other]).2 = 0) : rightC c = true := by
  unfold rightC
  simp only [Bool.and_eq_true, decide_eq_true_eq]
  exact ⟨⟨⟨⟨⟨h1, h2⟩, h3⟩, h4⟩, h5⟩, h6⟩
def pFN : Pr := ([], nFN, [], [110])
theorem take_fn (c : Con) : takeC c pFN = (0, { c with name := [110] }) := by
  unfold takeC
  rw [if_neg (show pFN.2.1 ≠ nN by decide), if_neg (show pFN.2.1 ≠ nCAT by decide)]
  rw [show plain pFN.2.2.2 = some [110] by decide]
  rfl
/-- two known properties of different kinds -/
theorem two_of {p q : Pr} {c1 c2 : Con} (hp : knownB p = true) (hq : knownB q = true) (hne : q.2.1 ≠ p.2.1) (h1 : takeC noneC p = (0, c1)) (h2 : takeC c1 q = (0, c2)) (hr : rightC c2 = true) : ofL [p, q] = (c2, 0) := by
  have k1 : knownS [] p = true := by unfold knownS; rw [hp]; rfl
  have k2 : knownS ([] ++ [p.2.1]) q = true := by
    unfold knownS
    rw [hq, List.nil_append]
    simp only [List.contains_eq_mem, List.mem_singleton]
    rw [decide_eq_false hne]
    rfl
  have hr2 : runK (noneC, []) ([p] ++ [q]) = (0, (c2, [] ++ [p.2.1] ++ [q.2.1])) := by
    rw [run_append _ _ _ _ (run_known k1 h1), run_known k2 h2]
  unfold ofL
  rw [show [p, q] = [p] ++ [q] from rfl]
  simp only [hr2]
  rw [if_pos trivial, if_pos hr]
theorem two_bad {p q : Pr} {c1 c2 : Con} {e : Nat} (hp : knownB p = true) (hq : knownB q = true) (hne : q.2.1 ≠ p.2.1) (h1 : takeC noneC p = (0, c1)) (h2 : takeC c1 q = (e, c2)) (he : e ≠ 0) : ofL [p, q] = (noneC, e) := by
  have k1 : knownS [] p = true := by unfold knownS; rw [hp]; rfl
  have k2 : knownS ([] ++ [p.2.1]) q = true := by
    unfold knownS
    rw [hq, List.nil_append]
    simp only [List.contains_eq_mem, List.mem_singleton]
    rw [decide_eq_false hne]
    rfl
  have hs : stepK (c1, [] ++ [p.2.1]) q = (e, (c1, [] ++ [p.2.1])) := by
    unfold stepK
    rw [if_pos k2, if_neg (by rw [h2]; exact he), h2]
  have hr2 : (runK (noneC, []) ([p] ++ [q])).1 = e := by
    rw [run_append _ _ _ _ (run_known k1 h1), runK, if_neg (by rw [hs]; exact he), hs]
  unfold ofL
  rw [show [p, q] = [p] ++ [q] from rfl, if_neg (by rw [hr2]; exact he), hr2]
theorem small_right {a b : List UInt8} {g : List (List UInt8)} (ha : line a 100 = true) (hb : line b 100 = true) (hg : rightG g = true) : rightC { noneC with name := [110], family := a, given := b, groups := g } = true := by
  refine right_of (by simp) ?_ (show noteB [] = true by decide +kernel) (show bareB [] = true by decide +kernel) hg none_ok
  unfold textsB
  simp only [ha, hb]
  decide +kernel
/-- so many letters, one by one -/
def lettersL (n : Nat) : List (List UInt8) := (List.range n).map fun i => [UInt8.ofNat (97 + i)]
theorem known_n (v : List UInt8) : knownB ([], nN, [], v) = true := rfl
/-- two names, and m parts more -/
theorem parts_of {a b : List UInt8} (ha : line a 30 = true) (hb : line b 30 = true) (m : Nat) : ofL [pFN, ([], nN, [], sepd 59 ((a :: b :: List.replicate m []).map val))] = if m = 3 then ({ noneC with name := [110], family := a, given := b }, 0) else (noneC, 12) := by
  have hm : manyL 59 (sepd 59 ((a :: b :: List.replicate m []).map val)) = some (a :: b :: List.replicate m []) := many_back (.inr rfl) (by simp) (fun x hx => by
    rcases List.mem_cons.1 hx with rfl | hx
    · exact line_no13 ha
    · rcases List.mem_cons.1 hx with rfl | hx
      · exact line_no13 hb
      · rw [List.eq_of_mem_replicate hx]; simp)
  by_cases h3 : m = 3
  · rw [if_pos h3]
    subst h3
    have ht : takeC { noneC with name := [110] } ([], nN, [], sepd 59 ((a :: b :: List.replicate 3 []).map val)) = (0, { noneC with name := [110], family := a, given := b }) := by
      unfold takeC
      rw [if_pos rfl]
      simp only [hm]
      rfl
    exact two_of (by decide) (known_n _) (show nN ≠ nFN by decide) (take_fn _) ht (small_right (g := []) (line_more ha (by decide)) (line_more hb (by decide)) (by decide +kernel))
  · rw [if_neg h3]
    have ht : takeC { noneC with name := [110] } ([], nN, [], sepd 59 ((a :: b :: List.replicate m []).map val)) = (12, { noneC with name := [110] }) := by
      unfold takeC
      rw [if_pos rfl]
      simp only [hm]
      split
      · rename_i e; cases e
      · rename_i e
        have := congrArg (fun o => (o.getD []).length) e
        simp only [Option.getD_some, List.length_cons, List.length_replicate, List.length_nil] at this
        omega
      · rfl
    exact two_bad (by decide) (known_n _) (show nN ≠ nFN by decide) (take_fn _) ht (by decide)
def fiveL (k : Nat) : List (List UInt8) := (List.range 5).map fun i => if i = k then [120] else []
theorem five_of : ∀ k : Nat, k < 5 → ofL [pFN, ([], nN, [], sepd 59 (fiveL k))] = if k < 2 then ({ noneC with name := [110], family := (fiveL k).getD 0 [], given := (fiveL k).getD 1 [] }, 0) else (noneC, 12) := by
  intro k hk
  have hc : k = 0 ∨ k = 1 ∨ k = 2 ∨ k = 3 ∨ k = 4 := by omega
  by_cases h2 : k < 2
  · rw [if_pos h2]
    refine two_of (by decide) (known_n _) (show nN ≠ nFN by decide) (take_fn _) (c2 := { noneC with name := [110], family := (fiveL k).getD 0 [], given := (fiveL k).getD 1 [] }) ?_ ?_
    · rcases hc with rfl | rfl | rfl | rfl | rfl
      · rfl
      · rfl
      · omega
      · omega
      · omega
    · refine small_right (g := []) ?_ ?_ (by decide +kernel)
      · rcases hc with rfl | rfl | rfl | rfl | rfl
        · decide +kernel
        · decide +kernel
        · omega
        · omega
        · omega
      · rcases hc with rfl | rfl | rfl | rfl | rfl
        · decide +kernel
        · decide +kernel
        · omega
        · omega
        · omega
  · rw [if_neg h2]
    refine two_bad (by decide) (known_n _) (show nN ≠ nFN by decide) (take_fn _) (c2 := { noneC with name := [110] }) ?_ (by decide)
    rcases hc with rfl | rfl | rfl | rfl | rfl
    · omega
    · omega
    · rfl
    · rfl
    · rfl
theorem escape_of : ofL [pFN, ([], nN, [], [92, 120, 59, 59])] = (noneC, 18) := two_bad (by decide) (known_n _) (show nN ≠ nFN by decide) (take_fn _) (c2 := { noneC with name := [110] }) rfl (by decide)

end Go.Proofs.YtapelnndjjbeeaaGreatDoor.Ct
end
section
/- what is reached of it -/
namespace Go.Proofs.YtapelnndjjbeeaaGreatDoor
open Rg Tx
namespace Jd
def nums (l : List UInt8) : List Nat := l.map (·.toNat)
def lowB (l : List UInt8) : Bool := l.all fun b => decide (32 ≤ b.toNat) && decide (b.toNat < 128)
theorem flat_nums : ∀ {l : List UInt8}, (∀ b ∈ l, b.toNat < 128) → flat (nums l) = l
  | [], _ => flat_nil
  | b :: l, h => by
    have hb := h b (List.mem_cons_self ..)
    have ih := flat_nums (l := l) (fun c hc => h c (List.mem_cons_of_mem _ hc))
    unfold nums at ih ⊢
    rw [List.map_cons, flat_cons, ih, enc_sane (.inl (by omega))]
    unfold encB
    rw [if_pos hb]
    simp
theorem lowB_at {l : List UInt8} (h : lowB l = true) : ∀ b ∈ l, 32 ≤ b.toNat ∧ b.toNat < 128 := by
  intro b hb
  have := List.all_eq_true.1 h b hb
  simpa using this
theorem low_ch {l : List UInt8} (h : lowB l = true) : ch l = some (nums l) := by
  have h1 := lowB_at h
  have h2 := Pr.ch_fine (l := nums l) (fun c hc => by
    obtain ⟨b, hb, rfl⟩ := List.mem_map.1 hc
    have := h1 b hb
    exact ⟨.inl (by omega), Pr.okc_of (by omega) (by omega)⟩)
  rw [flat_nums (fun b hb => (h1 b hb).2)] at h2
  exact h2
/-- a text of such signs, as it is kept -/
theorem low_keep {k : Nat} {l r : List UInt8} (h : lowB l = true) (hm : Pr.mapL (k != 3) (nums l) = nums r) (hr : lowB r = true) (hw : (nums r).any (Pr.wrong k) = false) (hy : Pr.wayB (nums r) = true) : Pr.prepL k l = (r, 0) := by
  rw [Pr.prepL_ch (low_ch h), hm, Pr.prepC_kept hw hy, flat_nums (fun b hb => (lowB_at hr b hb).2)]
/-- signs that stay, and may stand -/
def fitB (k : Nat) (b : UInt8) : Bool := decide (32 ≤ b.toNat) && decide (b.toNat < 128) && (Pr.one (k != 3) b.toNat == [b.toNat]) && !(Pr.wrong k b.toNat) && !(Pr.rl b.toNat)
theorem fit_at {k : Nat} {b : UInt8} (h : fitB k b = true) : 32 ≤ b.toNat ∧ b.toNat < 128 ∧ Pr.one (k != 3) b.toNat = [b.toNat] ∧ Pr.wrong k b.toNat = false ∧ Pr.rl b.toNat = false := by
  unfold fitB at h
  simp only [Bool.and_eq_true, decide_eq_true_eq, beq_iff_eq, Bool.not_eq_true'] at h
  exact ⟨h.1.1.1.1, h.1.1.1.2, h.1.1.2, h.1.2, h.2⟩
theorem fit_prep {k : Nat} {l : List UInt8} (h : ∀ b ∈ l, fitB k b = true) : Pr.prepL k l = (l, 0) := by
  refine low_keep (r := l) ?_ ?_ ?_ ?_ ?_
  · exact List.all_eq_true.2 fun b hb => by have := fit_at (h b hb); simp; omega
  · refine Pr.mapL_stays fun c hc => ?_
    obtain ⟨b, hb, rfl⟩ := List.mem_map.1 hc
    exact (fit_at (h b hb)).2.2.1
  · exact List.all_eq_true.2 fun b hb => by have := fit_at (h b hb); simp; omega
  · refine List.any_eq_false.2 fun c hc => ?_
    obtain ⟨b, hb, rfl⟩ := List.mem_map.1 hc
    rw [(fit_at (h b hb)).2.2.2.1]
    simp
  · have : (nums l).any Pr.rl = false := List.any_eq_false.2 fun c hc => by
      obtain ⟨b, hb, rfl⟩ := List.mem_map.1 hc
      rw [(fit_at (h b hb)).2.2.2.2]
      simp
    unfold Pr.wayB
    rw [this]
    rfl
theorem fit_mem {k : Nat} {l m : List UInt8} (hm : m.all (fitB k) = true) (h : ∀ b ∈ l, b ∈ m) : ∀ b ∈ l, fitB k b = true := fun b hb => List.all_eq_true.1 hm b (h b hb)

theorem parse_eq {s : List UInt8} {c d : List UInt8 × List UInt8 × Bool} (hc : cutB 47 s = c) (hd : halfL c.1 = d) : parseL s = three (domL d.2.1) (part d.2.2 1 d.1) (part c.2.2 3 c.2.1) := by
  subst hc
  subst hd
  rfl
theorem dom_eval {s h d : List UInt8} (h1 : Pr.prepL 2 s = (h, 0)) (h2 : trimD h = d) : domL s = pieced (sizedL 100 (d, 0)) := by
  unfold domL hostL
  rw [h1]
  simp only
  rw [h2]
theorem node_a : part true 1 [97] = ([97], 0) := by
  show sizedL 64 (Pr.prepL 1 [97]) = _
  rw [fit_prep (by decide)]
  decide
theorem node_A : part true 1 [65] = ([97], 0) := by
  show sizedL 64 (Pr.prepL 1 [65]) = _
  rw [low_keep (l := [65]) (r := [97]) (by decide) (by decide) (by decide) (by decide) (by decide)]
  decide
def six : List UInt8 := [97, 98, 99, 55, 56, 57]
/-- a word: "x", and at most twenty of six signs -/
structure Word (l : List UInt8) : Prop where
  len : l.length ≤ 21
  ne : ∃ t, l = 120 :: t
  mem : ∀ b ∈ l, b ∈ 120 :: six
theorem Word.fit {l : List UInt8} (h : Word l) (k : Nat) (hk : k = 1 ∨ k = 2 ∨ k = 3) : Pr.prepL k l = (l, 0) := by
  refine fit_prep (fit_mem (m := 120 :: six) ?_ h.mem)
  rcases hk with rfl | rfl | rfl <;> decide
theorem Word.free {l : List UInt8} (h : Word l) {c : UInt8} (hc : c ∉ (120 :: six : List UInt8)) : c ∉ l := fun hm => hc (h.mem c hm)
theorem Word.nn {l : List UInt8} (h : Word l) : l ≠ [] := by obtain ⟨t, rfl⟩ := h.ne; simp
theorem Word.pieces {l : List UInt8} (h : Word l) : (pcs 46 l).any badB = false := by
  rw [pcs_none (h.free (by decide))]
  have hl : l.getLastD 0 ∈ l := by
    rw [List.getLastD_eq_getLast?]
    rcases List.eq_nil_or_concat l with rfl | ⟨t, x, rfl⟩
    · exact absurd rfl h.nn
    · simp
  have h45 : (45 : UInt8) ∉ l := h.free (by decide)
  have h1 : (l.getLastD 0 == 45) = false := by
    cases e : (l.getLastD 0 == 45) with
    | false => rfl
    | true => rw [beq_iff_eq] at e; rw [e] at hl; exact absurd hl h45
  obtain ⟨t, rfl⟩ := h.ne
  simp only [List.any_cons, List.any_nil, Bool.or_false]
  unfold badB
  rw [h1]
  rfl
theorem Word.dom {l : List UInt8} (h : Word l) : domL l = (l, 0) := dom_of (h.fit 2 (.inr (.inl rfl))) h.nn (by have := h.len; omega) h.pieces
/-- what may stand behind a word, in a resource -/
def tails : List (List UInt8) := [[], [47], [64], [47, 64, 32, 47]]
theorem Word.res {l t : List UInt8} (h : Word l) (ht : t ∈ tails) : Pr.prepL 3 (l ++ t) = (l ++ t, 0) ∧ (l ++ t).length ≤ 64 ∧ l ++ t ≠ [] := by
  refine ⟨fit_prep (fit_mem (m := 47 :: 64 :: 32 :: 120 :: six) (by decide) fun b hb => ?_), ?_, fun e => h.nn (List.append_eq_nil_iff.1 e).1⟩
  · rcases List.mem_append.1 hb with hb | hb
    · exact List.mem_cons_of_mem _ (List.mem_cons_of_mem _ (List.mem_cons_of_mem _ (h.mem b hb)))
    · exact (show ∀ t ∈ tails, ∀ b ∈ t, b ∈ (47 :: 64 :: 32 :: 120 :: six : List UInt8) by decide) t ht b hb
  · have := h.len
    unfold tails at ht
    simp only [List.mem_cons, List.not_mem_nil, or_false] at ht
    rcases ht with rfl | rfl | rfl | rfl <;> simp <;> omega
theorem Word.right {l d r t : List UInt8} (hl : Word l) (hd : Word d) (hr : Word r) (ht : t ∈ tails) : Right (l, d, r ++ t) :=
  ⟨hd.dom, hd.nn, .inr ⟨hl.fit 1 (.inl rfl), by have := hl.len; show l.length ≤ 64; omega⟩, .inr ⟨(hr.res ht).1, (hr.res ht).2.1⟩⟩
end Jd
end Go.Proofs.YtapelnndjjbeeaaGreatDoor
end
section
/- what is reached of it -/
namespace Go.Proofs.YtapelnndjjbeeaaGreatDoor.Ct
open Go.Proofs.YtapelnndjjbeeaaGreatDoor Tx Vc
theorem dom_H : Jd.domL [72] = ([104], 0) := (Jd.dom_eval (Jd.low_keep (l := [72]) (r := [104]) (by decide) (by decide) (by decide) (by decide) (by decide)) (show Jd.trimD _ = [104] by decide)).trans (by decide)
theorem dom_h : Jd.domL [104] = ([104], 0) := Jd.dom_of (Jd.fit_prep (by decide)) (by decide) (by decide) (by decide)
/-- "A@H" -/
theorem bare_AH : Jd.bareL [65, 64, 72] = ([97, 64, 104], 0) := by
  have h : Jd.parseL [65, 64, 72] = (([97], [104], []), 0) := by
    rw [Jd.parse_eq (s := [65, 64, 72]) (c := ([65, 64, 72], [], false)) (d := ([65], [72], true)) (by decide) (by decide)]
    simp only
    rw [dom_H, Jd.node_A]
    rfl
  rw [Jd.bare_ok h rfl]
  rfl
/-- "a@h" -/
theorem bare_ah : Jd.bareL [97, 64, 104] = ([97, 64, 104], 0) := by
  have h : Jd.parseL [97, 64, 104] = (([97], [104], []), 0) := by
    rw [Jd.parse_eq (s := [97, 64, 104]) (c := ([97, 64, 104], [], false)) (d := ([97], [104], true)) (by decide) (by decide)]
    simp only
    rw [dom_h, Jd.node_a]
    rfl
  rw [Jd.bare_ok h rfl]
  rfl
end Go.Proofs.YtapelnndjjbeeaaGreatDoor.Ct
end
section
/- what is reached of it -/
namespace Go.Proofs.YtapelnndjjbeeaaGreatDoor
open Go.RowKit Vc Ct
def awL : List Pr := [([], nFN, [], [97, 92, 44, 98]), ([], nIMPP, [], [120, 109, 112, 112, 58, 65, 64, 72]), ([], [88], [], [121])]
def awC : Con := { noneC with name := [97, 44, 98], jid := [97, 64, 104], other := [([], [88], [], [121])] }
theorem aw_right : rightC awC = true := by
  have hb : bareB awC.jid = true := by
    show bareB [97, 64, 104] = true
    unfold bareB
    rw [bare_ah]
    rfl
  have h1 : textsB awC = true := by decide +kernel
  have h2 : noteB awC.note = true := by decide +kernel
  have h3 : rightG awC.groups = true := by decide +kernel
  have h4 : (writeV [awC.other]).2 = 0 := by decide +kernel
  unfold rightC
  rw [h1, h2, hb, h3, h4]
  rfl
theorem aw_of : ofL awL = (awC, 0) := by
  have h1 : runK (noneC, []) [([], nFN, [], [97, 92, 44, 98])] = (0, ({ noneC with name := [97, 44, 98] }, [] ++ [nFN])) := by
    refine run_known (p := ([], nFN, [], [97, 92, 44, 98])) (by decide) ?_
    unfold takeC
    rw [if_neg (show nFN ≠ nN by decide), if_neg (show nFN ≠ nCAT by decide), show Tx.plain [97, 92, 44, 98] = some [97, 44, 98] by decide]
    rfl
  have h2 : runK ({ noneC with name := [97, 44, 98] }, [] ++ [nFN]) [([], nIMPP, [], [120, 109, 112, 112, 58, 65, 64, 72])] = (0, ({ noneC with name := [97, 44, 98], jid := [97, 64, 104] }, [] ++ [nFN] ++ [nIMPP])) := by
    refine run_known (p := ([], nIMPP, [], [120, 109, 112, 112, 58, 65, 64, 72])) (by decide) ?_
    unfold takeC
    rw [if_neg (show nIMPP ≠ nN by decide), if_neg (show nIMPP ≠ nCAT by decide), show Tx.plain [120, 109, 112, 112, 58, 65, 64, 72] = some [120, 109, 112, 112, 58, 65, 64, 72] by decide]
    simp only
    rw [if_pos trivial, show List.drop 5 [120, 109, 112, 112, 58, 65, 64, 72] = ([65, 64, 72] : List UInt8) from rfl, bare_AH]
    rfl
  have h3 : runK ({ noneC with name := [97, 44, 98], jid := [97, 64, 104] }, [] ++ [nFN] ++ [nIMPP]) [([], [88], [], [121])] = (0, (awC, [] ++ [nFN] ++ [nIMPP])) := run_other _ _ _ (fun p hp => by rw [List.mem_singleton] at hp; subst hp; decide)
  have h : runK (noneC, []) awL = (0, (awC, [] ++ [nFN] ++ [nIMPP])) := by
    show runK (noneC, []) ([([], nFN, [], [97, 92, 44, 98])] ++ ([([], nIMPP, [], [120, 109, 112, 112, 58, 65, 64, 72])] ++ [([], [88], [], [121])])) = _
    rw [run_append _ _ _ _ h1, run_append _ _ _ _ h2, h3]
  unfold ofL
  rw [h]
  simp only
  rw [if_pos trivial, aw_right, if_pos rfl]
def litC : List (List UInt8 × List UInt8) → List Value
  | [] => []
  | x :: t => .string ⟨#[]⟩ :: .string (bts x.1) :: .slice none 0 0 :: .string (bts x.2) :: litC t
def litP (l : List (List UInt8 × List UInt8)) : List Pr := l.map fun x => ([], x.1, [], x.2)
theorem litC_get : ∀ {l : List (List UInt8 × List UInt8)} {i j : Nat} {x : List UInt8 × List UInt8}, l[i]? = some x → j < 4 → (litC l)[i * 4 + j]? = ([.string ⟨#[]⟩, .string (bts x.1), .slice none 0 0, .string (bts x.2)] : List Value)[j]?
  | [], i, j, x, h, _ => by simp at h
  | y :: t, 0, j, x, h, hj => by
    obtain rfl : y = x := by simpa using h
    match j, hj with
    | 0, _ => rfl
    | 1, _ => rfl
    | 2, _ => rfl
    | 3, _ => rfl
  | y :: t, i + 1, j, x, h, hj => by
    have ih := litC_get (l := t) (i := i) (j := j) (x := x) (by simpa using h) hj
    rw [← ih, show (i + 1) * 4 + j = i * 4 + j + 4 by omega]
    rfl
theorem seen_lit {w : World} {g : Nat} {l : List (List UInt8 × List UInt8)} (h : Bk w g 41 (litC l).toArray) (c : Nat) : SeenP w (.slice (some ⟨g, 0, none⟩) l.length c) (litP l) := by
  have hl : (litP l).length = l.length := List.length_map ..
  refine ⟨some ⟨g, 0, none⟩, c, by rw [hl], fun h0 => ⟨⟨g, 0, none⟩, rfl, h.lt, fun i x hi => ⟨.slice none 0 0, ?_, ?_⟩⟩⟩
  · unfold litP at hi
    rw [List.getElem?_map] at hi
    obtain ⟨y, hy, rfl⟩ := Option.map_eq_some_iff.1 hi
    have hc : ∀ j, j < 4 → w.cell? ⟨g, i * 4 + j, none⟩ = ([.string ⟨#[]⟩, .string (bts y.1), .slice none 0 0, .string (bts y.2)] : List Value)[j]? := fun j hj => by
      rw [h.cell, List.getElem?_toArray]
      exact litC_get hy hj
    rw [add_at, Nat.zero_add]
    exact ⟨hc 0 (by decide), hc 1 (by decide), hc 2 (by decide), hc 3 (by decide)⟩
  · unfold litP at hi
    rw [List.getElem?_map] at hi
    obtain ⟨y, hy, rfl⟩ := Option.map_eq_some_iff.1 hi
    exact ⟨none, 0, rfl, fun h => absurd h (Nat.not_lt_zero _)⟩
/-- Of, at properties that the call laid out: the contact in its own cells. -/
theorem of_lit {w W1 : World} {l : List (List UInt8 × List UInt8)} (hO : OkwV w) (hW : W1 = w.alloc (.cells (litC l).toArray 41)) (c : Nat) (hc : costC (litP l) ≤ 90000) {d : Con} {n : Nat} (hd : ofL (litP l) = (d, n)) :
    Calls Tryz.prog 17 #[.slice (some ⟨w.heap.size, 0, none⟩) l.length c] W1 fun e w' => (∃ g o, e = .returned (.tuple #[agC d g o, .int .i64 n]) ∧ ReadT w'.heap.size w' g (sts d.groups) ∧ SeenP w' o d.other) ∧ Below w.heap.size w w' := by
  subst hW
  have b1 : Below w.heap.size w (w.alloc (.cells (litC l).toArray 41)) := (Below.refl _ _).alloc (Nat.le_refl _) _
  have h := of_cany (.slice (some ⟨w.heap.size, 0, none⟩) l.length c) (litP l) (w.alloc (.cells (litC l).toArray 41)) (hO.below b1) (seen_lit (Bk.new _ _ _) c) hc
  refine h.mono fun e w' ⟨⟨cv, h1, h2⟩, h3⟩ => ⟨?_, b1.trans (h3.mono b1.size)⟩
  rw [of_way, hd] at h1 h2
  obtain ⟨g, o, rfl, h4, h5⟩ := h2
  exact ⟨g, o, h1, h4, h5⟩
set_option maxHeartbeats 4000000 in
set_option maxRecDepth 100000 in
theorem cawake_any (W : World) (hO : OkwV W) : Calls Tryz.prog 16 #[] W fun e w' => e = .returned (.bool true) ∧ Below W.heap.size W w' := by
  obtain ⟨W1, hW1⟩ : ∃ W1, W.alloc (.cells #[.string ⟨#[]⟩, .string ⟨#[70, 78]⟩, .slice none 0 0, .string ⟨#[97, 92, 44, 98]⟩, .string ⟨#[]⟩, .string ⟨#[73, 77, 80, 80]⟩, .slice none 0 0, .string ⟨#[120, 109, 112, 112, 58, 65, 64, 72]⟩, .string ⟨#[]⟩, .string ⟨#[88]⟩, .slice none 0 0, .string ⟨#[121]⟩] 41) = W1 := ⟨_, rfl⟩
  have HOF := Lib.hid (of_lit (l := [(nFN, [97, 92, 44, 98]), (nIMPP, [120, 109, 112, 112, 58, 65, 64, 72]), ([88], [121])]) hO hW1.symm 3 (by decide) aw_of)
  have HR := Lib.hid (fun gv o w (h : Below W.heap.size W w) (hg : ReadT w.heap.size w gv (sts awC.groups)) (ho : ReadP w o awC.other) => right_cany awC gv o w (hO.below h) hg ho ⟨by decide, ⟨by decide, by decide⟩, by decide⟩)
  rw [aw_right] at HR
  obtain ⟨P, hP⟩ : ∃ P, W.heap.size = P := ⟨_, rfl⟩
  rw [hP] at HOF
  clear hO
  go_enter Tryz.func16, Tryz.ntmps16
  go_wp2_with fail
  refine HOF.out.mono ?_
  rintro e w1 ⟨⟨g, o, rfl, hg, ho⟩, b1⟩
  have HG := Lib.hid hg
  have HO := Lib.hid ho
  obtain ⟨GA, gn, gcap, rfl⟩ : ∃ A n cap, g = .slice A n cap := by obtain ⟨A, cap, e, _⟩ := hg; exact ⟨A, _, cap, e⟩
  obtain ⟨OA, ocap, rfl⟩ : ∃ A cap, o = .slice A 1 cap := by obtain ⟨A, cap, e, _⟩ := ho; exact ⟨A, cap, e⟩
  have hag : agC awC (.slice GA gn gcap) (.slice OA 1 ocap) = .agg #[.string ⟨#[97, 44, 98]⟩, .string ⟨#[]⟩, .string ⟨#[]⟩, .string ⟨#[]⟩, .string ⟨#[97, 64, 104]⟩, .string ⟨#[]⟩, .string ⟨#[]⟩, .string ⟨#[]⟩, .string ⟨#[]⟩, .slice GA gn gcap, .slice OA 1 ocap] := rfl
  rw [hag]
  have HAG := Lib.hid hag
  have B1 : Hid (Below W.heap.size W w1) := by rw [hP]; exact b1
  clear hg ho hag b1
  go_upto_region 2 with fail
  obtain ⟨w2, hw2⟩ : ∃ w2, w1.alloc (.cells #[.string ⟨#[97, 44, 98]⟩, .string ⟨#[]⟩, .string ⟨#[]⟩, .string ⟨#[]⟩, .string ⟨#[97, 64, 104]⟩, .string ⟨#[]⟩, .string ⟨#[]⟩, .string ⟨#[]⟩, .string ⟨#[]⟩, .slice GA gn gcap, .slice OA 1 ocap] 25) = w2 := ⟨_, rfl⟩
  have b2 : Below w1.heap.size w1 w2 := by rw [← hw2]; exact (Below.refl _ _).alloc (Nat.le_refl _) _
  have B2 : Hid (Below W.heap.size W w2) := B1.out.trans (b2.mono B1.out.size)
  obtain ⟨Q, hQ⟩ : ∃ Q, w1.heap.size = Q := ⟨_, rfl⟩
  have k2 : Bk w2 Q 25 #[.string ⟨#[97, 44, 98]⟩, .string ⟨#[]⟩, .string ⟨#[]⟩, .string ⟨#[]⟩, .string ⟨#[97, 64, 104]⟩, .string ⟨#[]⟩, .string ⟨#[]⟩, .string ⟨#[]⟩, .string ⟨#[]⟩, .slice GA gn gcap, .slice OA 1 ocap] := by rw [← hw2, ← hQ]; exact Bk.new _ _ _
  have HRR := HR.out _ _ w2 B2.out (HG.out.upon b2) (HO.out.below b2).reads
  rw [HAG.out] at HRR
  have HRX := Lib.hid HRR
  have q0 := k2.cell 0
  have q1 := k2.cell 1
  have q2 := k2.cell 2
  have q3 := k2.cell 3
  have q4 := k2.cell 4
  have q5 := k2.cell 5
  have q6 := k2.cell 6
  have q7 := k2.cell 7
  have q8 := k2.cell 8
  have q9 := k2.cell 9
  have q10 := k2.cell 10
  rw [hw2, hQ]
  clear hw2 hQ b2 k2 HRR
  go_wp2_with fail
  refine HRX.out.mono ?_
  rintro e w3 ⟨rfl, b3⟩
  go_wp2_with fail
  go_ret
  exact ⟨rfl, by first | exact B2.out.trans (b3.mono B2.out.size) | (rw [← hP]; exact B2.out.trans (b3.mono B2.out.size))⟩
end Go.Proofs.YtapelnndjjbeeaaGreatDoor
end
