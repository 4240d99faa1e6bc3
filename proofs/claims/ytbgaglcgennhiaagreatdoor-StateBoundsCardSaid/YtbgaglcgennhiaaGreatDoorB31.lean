import Derived.Test.YtbgaglcgennhiaaGreatDoorB30
import Derived.Test.YtbgaglcgennhiaaGreatDoorB29
import Derived.Test.YtbgaglcgennhiaaGreatDoorB17
import Derived.Test.YtbgaglcgennhiaaGreatDoorB23
section
/- what is reached of it -/
namespace Go.Proofs.YtbgaglcgennhiaaGreatDoor.Ct
open Go.Proofs.YtbgaglcgennhiaaGreatDoor Tx Vc
theorem flat_cons1 (c : Nat) (cs : List Nat) : flat (c :: cs) = enc c ++ flat cs := by rw [show c :: cs = [c] ++ cs from rfl, flat_append, flat_one]
theorem line_valid {t : List UInt8} {n : Int} (h : line t n = true) : valid t = true := by
  obtain ⟨cs, h1, _, _⟩ := line_chars h
  exact valid_some h1
theorem flat_len : ∀ cs : List Nat, (flat cs).length ≤ 4 * cs.length
  | [] => by simp [flat]
  | c :: cs => by
    have h1 := flat_len cs
    have h2 := (enc_len (n := c)).2
    rw [flat_cons1, List.length_append, List.length_cons]
    omega
/-- one more group, at its place -/
theorem ins_at : ∀ {l : List (List UInt8)} {x : List UInt8} {k : Nat}, (∀ i y, i < k → l[i]? = some y → Jd.ltL y x = true) → (∀ y, l[k]? = some y → Jd.ltL y x = false) → k ≤ l.length → ins x l = if l[k]? = some x then l else l.take k ++ x :: l.drop k
  | [], x, k, _, _, hk => by
    obtain rfl : k = 0 := by simpa using hk
    rfl
  | y :: t, x, 0, _, h2, _ => by
    have h3 : Jd.ltL y x = false := h2 y rfl
    rw [ins, if_neg (by rw [h3]; decide)]
    by_cases e : y = x
    · rw [if_pos e, if_pos (by rw [e]; rfl)]
    · rw [if_neg e, if_neg (show ¬ (y :: t)[0]? = some x from fun h => e (Option.some.inj h))]
      rfl
  | y :: t, x, k + 1, h1, h2, hk => by
    have h3 : Jd.ltL y x = true := h1 0 y (Nat.succ_pos _) rfl
    rw [ins, if_pos h3, ins_at (l := t) (x := x) (k := k) (fun i z hi hz => h1 (i + 1) z (by omega) hz) (fun z hz => h2 z hz) (by simpa using hk)]
    by_cases e : t[k]? = some x
    · rw [if_pos e, if_pos (show (y :: t)[k + 1]? = some x from e)]
    · rw [if_neg e, if_neg (show ¬ (y :: t)[k + 1]? = some x from e)]
      rfl
end Go.Proofs.YtbgaglcgennhiaaGreatDoor.Ct
end
section
/- what is reached of it -/
namespace Go.Proofs.YtbgaglcgennhiaaGreatDoor
open Go.RowKit Vc Ct
def conCells (c : Con) (g o : Value) : Array Value := #[.string (bts c.name), .string (bts c.family), .string (bts c.given), .string (bts c.nick), .string (bts c.jid), .string (bts c.email), .string (bts c.tel), .string (bts c.note), .string (bts c.uid), g, o]
abbrev agC (c : Con) (g o : Value) : Value := .agg (conCells c g o)
/-- Attributes, properties that can be read, each at a place of its own. -/
def SeenA (w : World) (u : Value) (l : List Att) : Prop := ∃ A cap, u = .slice A l.length cap ∧ (0 < l.length → ∃ b o : Nat, A = some ⟨b, o, none⟩ ∧ b < w.heap.size ∧ ∀ i a, l[i]? = some a → w.cell? ⟨b, o + i * 2, none⟩ = some (.string (bts a.1)) ∧ w.cell? ⟨b, o + i * 2 + 1, none⟩ = some (.string (bts a.2)))
theorem SeenA.reads {w : World} {u : Value} {l : List Att} (h : SeenA w u l) : ReadA w u l := by
  obtain ⟨A, cap, rfl, h2⟩ := h
  refine ⟨A, cap, rfl, fun h0 => ?_⟩
  obtain ⟨b, o, rfl, hl, hc⟩ := h2 h0
  refine ⟨_, rfl, hl, fun i a hi => ?_⟩
  rw [add_at]
  exact hc i a hi
theorem SeenA.below {w w' : World} {u : Value} {l : List Att} (h : SeenA w u l) (hb : Below w.heap.size w w') : SeenA w' u l := by
  obtain ⟨A, cap, rfl, h2⟩ := h
  refine ⟨A, cap, rfl, fun h0 => ?_⟩
  obtain ⟨b, o, rfl, hl, hc⟩ := h2 h0
  refine ⟨b, o, rfl, Nat.lt_of_lt_of_le hl hb.size, fun i a hi => ?_⟩
  rw [hb.cell (p := ⟨b, o + i * 2, none⟩) hl, hb.cell (p := ⟨b, o + i * 2 + 1, none⟩) hl]
  exact hc i a hi
def SeenP (w : World) (v : Value) (ps : List Pr) : Prop := ∃ A cap, v = .slice A ps.length cap ∧ (0 < ps.length → ∃ ad : Addr, A = some ad ∧ ad.block < w.heap.size ∧ ∀ i x, ps[i]? = some x → ∃ u, AtP w (ad.add (i * 4)) x u ∧ SeenA w u x.2.2.1)
theorem SeenP.reads {w : World} {v : Value} {ps : List Pr} (h : SeenP w v ps) : ReadP w v ps := by
  obtain ⟨A, cap, rfl, h2⟩ := h
  refine ⟨A, cap, rfl, fun h0 => ?_⟩
  obtain ⟨ad, rfl, hl, hc⟩ := h2 h0
  refine ⟨ad, rfl, hl, fun i x hi => ?_⟩
  obtain ⟨u, h3, h4⟩ := hc i x hi
  exact ⟨u, h3, h4.reads⟩
theorem SeenP.below {w w' : World} {v : Value} {ps : List Pr} (h : SeenP w v ps) (hb : Below w.heap.size w w') : SeenP w' v ps := by
  obtain ⟨A, cap, rfl, h2⟩ := h
  refine ⟨A, cap, rfl, fun h0 => ?_⟩
  obtain ⟨ad, rfl, hl, hc⟩ := h2 h0
  refine ⟨ad, rfl, Nat.lt_of_lt_of_le hl hb.size, fun i x hi => ?_⟩
  obtain ⟨u, h3, h4⟩ := hc i x hi
  exact ⟨u, h3.of (hb.block _ (by rw [addBlock]; exact hl)), h4.below hb⟩
theorem SeenP.nil (w : World) : SeenP w (.slice none 0 0) [] := ⟨none, 0, rfl, fun h => absurd h (Nat.not_lt_zero _)⟩
/-- A contact that can be read. -/
def SeenC (w : World) (v : Value) (c : Con) : Prop := ∃ g o, v = agC c g o ∧ ReadT w.heap.size w g (sts c.groups) ∧ SeenP w o c.other
theorem ReadT.upon {w w' : World} {v : Value} {x : List ByteArray} (h : ReadT w.heap.size w v x) (hb : Below w.heap.size w w') : ReadT w'.heap.size w' v x := (h.below hb).more hb.size
theorem SeenC.below {w w' : World} {v : Value} {c : Con} (h : SeenC w v c) (hb : Below w.heap.size w w') : SeenC w' v c := by
  obtain ⟨g, o, rfl, h1, h2⟩ := h
  exact ⟨g, o, rfl, h1.upon hb, h2.below hb⟩
end Go.Proofs.YtbgaglcgennhiaaGreatDoor
end
section
/- what is reached of it -/
namespace Go.Proofs.YtbgaglcgennhiaaGreatDoor.Ct
open Go.Proofs.YtbgaglcgennhiaaGreatDoor Tx Vc
theorem rising_uniq : ∀ {a b : List (List UInt8)}, risingB a = true → risingB b = true → (∀ g, g ∈ a ↔ g ∈ b) → a = b
  | [], [], _, _, _ => rfl
  | [], y :: t, _, _, h => by have := (h y).2 List.mem_cons_self; cases this
  | x :: s, [], _, _, h => by have := (h x).1 List.mem_cons_self; cases this
  | x :: s, y :: t, h1, h2, h => by
    have hx := (h x).1 List.mem_cons_self
    have hy := (h y).2 List.mem_cons_self
    have e : x = y := by
      rcases List.mem_cons.1 hx with hx | hx
      · exact hx
      rcases List.mem_cons.1 hy with hy | hy
      · exact hy.symm
      have k1 := rising_lt h2 x hx
      have k2 := rising_lt h1 y hy
      have := Jd.lt_trans _ _ _ k1 k2
      rw [Jd.lt_irr] at this
      cases this
    subst e
    congr 1
    refine rising_uniq (rising_tail h1) (rising_tail h2) fun g => ?_
    have hg := h g
    constructor
    · intro k
      rcases List.mem_cons.1 (hg.1 (List.mem_cons_of_mem _ k)) with k2 | k2
      · subst k2
        have := rising_lt h1 _ k
        rw [Jd.lt_irr] at this
        cases this
      · exact k2
    · intro k
      rcases List.mem_cons.1 (hg.2 (List.mem_cons_of_mem _ k)) with k2 | k2
      · subst k2
        have := rising_lt h2 _ k
        rw [Jd.lt_irr] at this
        cases this
      · exact k2
/-- a list that rises, of just those -/
theorem groups_is {l m : List (List UInt8)} (h1 : risingB m = true) (h2 : ∀ g, g ∈ m ↔ (g ∈ l ∧ g ≠ [])) : m = groupsL l := by
  obtain ⟨k1, k2⟩ := groups_rising l
  exact rising_uniq h1 k1 fun g => (h2 g).trans (k2 g).symm

end Go.Proofs.YtbgaglcgennhiaaGreatDoor.Ct
end
section
/- what is reached of it -/
namespace Go.Proofs.YtbgaglcgennhiaaGreatDoor.Ct
open Go.Proofs.YtbgaglcgennhiaaGreatDoor Tx Vc
theorem line_more {t : List UInt8} {n m : Int} (h : line t n = true) (hm : n ≤ m) : line t m = true := by
  obtain ⟨cs, h1, _, _⟩ := line_chars h
  rw [line_some h1] at h ⊢
  obtain ⟨h2, h3⟩ := Bool.and_eq_true_iff.1 h
  have h3 := of_decide_eq_true h3
  exact Bool.and_eq_true_iff.2 ⟨h2, decide_eq_true (by omega)⟩
theorem line_nil (n : Int) (h : 0 ≤ n) : line [] n = true := by
  have : ch [] = some [] := ch_nil
  rw [line_some this, low_nil]
  simp [h]
theorem none_ok : (writeV [[]]).2 = 0 := by decide +kernel
/-- right, part by part -/
theorem right_of {c : Con} (h1 : c.name ≠ []) (h2 : textsB c = true) (h3 : noteB c.note = true) (h4 : bareB c.jid = true) (h5 : rightG c.groups = true) (h6 : (writeV [c.other]).2 = 0) : rightC c = true := by
  unfold rightC
  simp only [Bool.and_eq_true, decide_eq_true_eq]
  exact ⟨⟨⟨⟨⟨h1, h2⟩, h3⟩, h4⟩, h5⟩, h6⟩
theorem groups_ok {l : List (List UInt8)} {n : Int} (hl : l.length ≤ 8) (h : ∀ g ∈ l, line g n = true) (hn : n ≤ 100) : rightG (groupsL l) = true := by
  obtain ⟨h1, h2⟩ := groups_rising l
  unfold rightG
  simp only [Bool.and_eq_true, decide_eq_true_eq, List.all_eq_true]
  exact ⟨⟨Nat.le_trans (groups_len l) hl, fun g hg => ⟨((h2 g).1 hg).2, line_more (h g ((h2 g).1 hg).1) hn⟩⟩, h1⟩
/-- so many letters, one by one -/
def lettersL (n : Nat) : List (List UInt8) := (List.range n).map fun i => [UInt8.ofNat (97 + i)]
end Go.Proofs.YtbgaglcgennhiaaGreatDoor.Ct
end
section
/- what is reached of it -/
namespace Go.Proofs.YtbgaglcgennhiaaGreatDoor
open Rg Tx
namespace Jd
def nums (l : List UInt8) : List Nat := l.map (·.toNat)
def lowB (l : List UInt8) : Bool := l.all fun b => decide (32 ≤ b.toNat) && decide (b.toNat < 128)
theorem flat_nums : ∀ {l : List UInt8}, (∀ b ∈ l, b.toNat < 128) → flat (nums l) = l
  | [], _ => flat_nil
  | b :: l, h => by
    have hb := h b (List.mem_cons_self ..)
    have ih := flat_nums (l := l) (fun c hc => h c (List.mem_cons_of_mem _ hc))
    unfold nums at ih ⊢
    rw [List.map_cons, flat_cons, ih, enc_sane (.inl (by omega))]
    unfold encB
    rw [if_pos hb]
    simp
theorem lowB_at {l : List UInt8} (h : lowB l = true) : ∀ b ∈ l, 32 ≤ b.toNat ∧ b.toNat < 128 := by
  intro b hb
  have := List.all_eq_true.1 h b hb
  simpa using this
theorem low_ch {l : List UInt8} (h : lowB l = true) : ch l = some (nums l) := by
  have h1 := lowB_at h
  have h2 := Pr.ch_fine (l := nums l) (fun c hc => by
    obtain ⟨b, hb, rfl⟩ := List.mem_map.1 hc
    have := h1 b hb
    exact ⟨.inl (by omega), Pr.okc_of (by omega) (by omega)⟩)
  rw [flat_nums (fun b hb => (h1 b hb).2)] at h2
  exact h2
/-- a text of such signs, as it is kept -/
theorem low_keep {k : Nat} {l r : List UInt8} (h : lowB l = true) (hm : Pr.mapL (k != 3) (nums l) = nums r) (hr : lowB r = true) (hw : (nums r).any (Pr.wrong k) = false) (hy : Pr.wayB (nums r) = true) : Pr.prepL k l = (r, 0) := by
  rw [Pr.prepL_ch (low_ch h), hm, Pr.prepC_kept hw hy, flat_nums (fun b hb => (lowB_at hr b hb).2)]
/-- signs that stay, and may stand -/
def fitB (k : Nat) (b : UInt8) : Bool := decide (32 ≤ b.toNat) && decide (b.toNat < 128) && (Pr.one (k != 3) b.toNat == [b.toNat]) && !(Pr.wrong k b.toNat) && !(Pr.rl b.toNat)
theorem fit_at {k : Nat} {b : UInt8} (h : fitB k b = true) : 32 ≤ b.toNat ∧ b.toNat < 128 ∧ Pr.one (k != 3) b.toNat = [b.toNat] ∧ Pr.wrong k b.toNat = false ∧ Pr.rl b.toNat = false := by
  unfold fitB at h
  simp only [Bool.and_eq_true, decide_eq_true_eq, beq_iff_eq, Bool.not_eq_true'] at h
  exact ⟨h.1.1.1.1, h.1.1.1.2, h.1.1.2, h.1.2, h.2⟩
theorem fit_prep {k : Nat} {l : List UInt8} (h : ∀ b ∈ l, fitB k b = true) : Pr.prepL k l = (l, 0) := by
  refine low_keep (r := l) ?_ ?_ ?_ ?_ ?_
  · exact List.all_eq_true.2 fun b hb => by have := fit_at (h b hb); simp; omega
  · refine Pr.mapL_stays fun c hc => ?_
    obtain ⟨b, hb, rfl⟩ := List.mem_map.1 hc
    exact (fit_at (h b hb)).2.2.1
  · exact List.all_eq_true.2 fun b hb => by have := fit_at (h b hb); simp; omega
  · refine List.any_eq_false.2 fun c hc => ?_
    obtain ⟨b, hb, rfl⟩ := List.mem_map.1 hc
    rw [(fit_at (h b hb)).2.2.2.1]
    simp
  · have : (nums l).any Pr.rl = false := List.any_eq_false.2 fun c hc => by
      obtain ⟨b, hb, rfl⟩ := List.mem_map.1 hc
      rw [(fit_at (h b hb)).2.2.2.2]
      simp
    unfold Pr.wayB
    rw [this]
    rfl
theorem fit_mem {k : Nat} {l m : List UInt8} (hm : m.all (fitB k) = true) (h : ∀ b ∈ l, b ∈ m) : ∀ b ∈ l, fitB k b = true := fun b hb => List.all_eq_true.1 hm b (h b hb)

theorem parse_eq {s : List UInt8} {c d : List UInt8 × List UInt8 × Bool} (hc : cutB 47 s = c) (hd : halfL c.1 = d) : parseL s = three (domL d.2.1) (part d.2.2 1 d.1) (part c.2.2 3 c.2.1) := by
  subst hc
  subst hd
  rfl
theorem node_a : part true 1 [97] = ([97], 0) := by
  show sizedL 64 (Pr.prepL 1 [97]) = _
  rw [fit_prep (by decide)]
  decide
def six : List UInt8 := [97, 98, 99, 55, 56, 57]
/-- a word: "x", and at most twenty of six signs -/
structure Word (l : List UInt8) : Prop where
  len : l.length ≤ 21
  ne : ∃ t, l = 120 :: t
  mem : ∀ b ∈ l, b ∈ 120 :: six
theorem Word.fit {l : List UInt8} (h : Word l) (k : Nat) (hk : k = 1 ∨ k = 2 ∨ k = 3) : Pr.prepL k l = (l, 0) := by
  refine fit_prep (fit_mem (m := 120 :: six) ?_ h.mem)
  rcases hk with rfl | rfl | rfl <;> decide
theorem Word.free {l : List UInt8} (h : Word l) {c : UInt8} (hc : c ∉ (120 :: six : List UInt8)) : c ∉ l := fun hm => hc (h.mem c hm)
theorem Word.nn {l : List UInt8} (h : Word l) : l ≠ [] := by obtain ⟨t, rfl⟩ := h.ne; simp
theorem Word.pieces {l : List UInt8} (h : Word l) : (pcs 46 l).any badB = false := by
  rw [pcs_none (h.free (by decide))]
  have hl : l.getLastD 0 ∈ l := by
    rw [List.getLastD_eq_getLast?]
    rcases List.eq_nil_or_concat l with rfl | ⟨t, x, rfl⟩
    · exact absurd rfl h.nn
    · simp
  have h45 : (45 : UInt8) ∉ l := h.free (by decide)
  have h1 : (l.getLastD 0 == 45) = false := by
    cases e : (l.getLastD 0 == 45) with
    | false => rfl
    | true => rw [beq_iff_eq] at e; rw [e] at hl; exact absurd hl h45
  obtain ⟨t, rfl⟩ := h.ne
  simp only [List.any_cons, List.any_nil, Bool.or_false]
  unfold badB
  rw [h1]
  rfl
theorem Word.dom {l : List UInt8} (h : Word l) : domL l = (l, 0) := dom_of (h.fit 2 (.inr (.inl rfl))) h.nn (by have := h.len; omega) h.pieces
/-- what may stand behind a word, in a resource -/
def tails : List (List UInt8) := [[], [47], [64], [47, 64, 32, 47]]
theorem Word.res {l t : List UInt8} (h : Word l) (ht : t ∈ tails) : Pr.prepL 3 (l ++ t) = (l ++ t, 0) ∧ (l ++ t).length ≤ 64 ∧ l ++ t ≠ [] := by
  refine ⟨fit_prep (fit_mem (m := 47 :: 64 :: 32 :: 120 :: six) (by decide) fun b hb => ?_), ?_, fun e => h.nn (List.append_eq_nil_iff.1 e).1⟩
  · rcases List.mem_append.1 hb with hb | hb
    · exact List.mem_cons_of_mem _ (List.mem_cons_of_mem _ (List.mem_cons_of_mem _ (h.mem b hb)))
    · exact (show ∀ t ∈ tails, ∀ b ∈ t, b ∈ (47 :: 64 :: 32 :: 120 :: six : List UInt8) by decide) t ht b hb
  · have := h.len
    unfold tails at ht
    simp only [List.mem_cons, List.not_mem_nil, or_false] at ht
    rcases ht with rfl | rfl | rfl | rfl <;> simp <;> omega
theorem Word.right {l d r t : List UInt8} (hl : Word l) (hd : Word d) (hr : Word r) (ht : t ∈ tails) : Right (l, d, r ++ t) :=
  ⟨hd.dom, hd.nn, .inr ⟨hl.fit 1 (.inl rfl), by have := hl.len; show l.length ≤ 64; omega⟩, .inr ⟨(hr.res ht).1, (hr.res ht).2.1⟩⟩
end Jd
end Go.Proofs.YtbgaglcgennhiaaGreatDoor
end
section
/- what is reached of it -/
namespace Go.Proofs.YtbgaglcgennhiaaGreatDoor.Ct
open Go.Proofs.YtbgaglcgennhiaaGreatDoor Tx Vc
theorem dom_h : Jd.domL [104] = ([104], 0) := Jd.dom_of (Jd.fit_prep (by decide)) (by decide) (by decide) (by decide)
/-- "a@h" -/
theorem bare_ah : Jd.bareL [97, 64, 104] = ([97, 64, 104], 0) := by
  have h : Jd.parseL [97, 64, 104] = (([97], [104], []), 0) := by
    rw [Jd.parse_eq (s := [97, 64, 104]) (c := ([97, 64, 104], [], false)) (d := ([97], [104], true)) (by decide) (by decide)]
    simp only
    rw [dom_h, Jd.node_a]
    rfl
  rw [Jd.bare_ok h rfl]
  rfl
end Go.Proofs.YtbgaglcgennhiaaGreatDoor.Ct
end
