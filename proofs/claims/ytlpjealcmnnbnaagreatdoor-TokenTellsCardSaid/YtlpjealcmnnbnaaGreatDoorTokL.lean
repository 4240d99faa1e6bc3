/-
  TOKENS over plain lists: what a token is made of, that it hangs on nothing behind it; where tokens begin; two texts, one behind the other; what is escaped comes back.
-/
import Derived.Test.YtlpjealcmnnbnaaGreatDoorTok
namespace Go.Proofs.YtlpjealcmnnbnaaGreatDoor.Tk
open Go.Lib Tx

theorem valid_cut : ∀ (n : Nat) (a c : List UInt8) (b : UInt8), a.length ≤ n → b.toNat < 128 → valid (a ++ b :: c) = true → valid a = true ∧ valid (b :: c) = true
  | _, [], c, b, _, _, h => ⟨valid_some ch_nil, h⟩
  | 0, _ :: _, _, _, h, _, _ => by simp at h
  | n + 1, x :: a, c, b, hn, hb, h => by
    obtain ⟨p, r, e, hlt, vp, vr, hp⟩ := piece (l := (x :: a) ++ b :: c) (by simp) h
    have hpne : 1 ≤ p.length := by
      rw [e, List.length_append] at hlt
      omega
    have hple : p.length ≤ (x :: a).length := by
      rcases hp with ⟨b', rfl, _⟩ | hp
      · simp
      · rcases Nat.lt_or_ge (x :: a).length p.length with hl | hl
        · exfalso
          have h1 : ((x :: a) ++ b :: c)[(x :: a).length]? = some b := by simp
          rw [e, List.getElem?_append_left hl] at h1
          have := hp b (List.mem_of_getElem? h1)
          omega
        · exact hl
    obtain ⟨a2, ha2⟩ : ∃ a2, x :: a = p ++ a2 := by
      refine ⟨(x :: a).drop p.length, ?_⟩
      have h1 := congrArg (List.take p.length) e
      rw [List.take_append_of_le_length hple, List.take_left'  rfl] at h1
      conv => lhs; rw [← List.take_append_drop p.length (x :: a)]
      rw [h1]
    rw [ha2, List.append_assoc] at e
    have hr := (List.append_cancel_left e).symm
    rw [hr] at vr
    have hl2 : a2.length ≤ n := by
      have := congrArg List.length ha2
      rw [List.length_append] at this
      simp at this hn
      omega
    obtain ⟨h1, h2⟩ := valid_cut n a2 c b hl2 hb vr
    rw [ha2]
    exact ⟨(valid_append vp h1).1, h2⟩
theorem valid_tail {b : UInt8} {c : List UInt8} (hb : b.toNat < 128) (h : valid (b :: c) = true) : valid c = true := by
  obtain ⟨p, r, e, hlt, vp, vr, hp⟩ := piece (l := b :: c) (by simp) h
  rcases hp with ⟨b', rfl, _⟩ | hp
  · injection e with e1 e2
    rw [e2]
    exact vr
  · cases p with
    | nil => rw [List.nil_append] at e; rw [e] at hlt; omega
    | cons x p =>
      injection e with e1 e2
      have := hp x (by simp)
      rw [← e1] at this
      omega

/-! ### runs -/
def Stops (p : UInt8 → Bool) (v : List UInt8) : Prop := v = [] ∨ ∃ c t, v = c :: t ∧ p c = false
theorem Stops.cons {p : UInt8 → Bool} {c : UInt8} (t : List UInt8) (h : p c = false) : Stops p (c :: t) := .inr ⟨c, t, rfl, h⟩
theorem stops_drop (p : UInt8 → Bool) : ∀ l : List UInt8, Stops p (l.dropWhile p)
  | [] => .inl rfl
  | c :: t => by
    rw [List.dropWhile_cons]
    split
    · exact stops_drop p t
    · rename_i h
      exact .cons t (Bool.eq_false_iff.2 h)
theorem tw_app {p : UInt8 → Bool} : ∀ {u v : List UInt8}, (∀ x ∈ u, p x = true) → Stops p v → (u ++ v).takeWhile p = u ∧ (u ++ v).dropWhile p = v
  | [], v, _, hv => by
    rw [List.nil_append]
    rcases hv with rfl | ⟨c, t, rfl, h⟩
    · exact ⟨rfl, rfl⟩
    · rw [List.takeWhile_cons, List.dropWhile_cons, h]
      exact ⟨rfl, rfl⟩
  | c :: u, v, hu, hv => by
    have h1 := hu c (by simp)
    have h2 := tw_app (p := p) (u := u) (v := v) (fun x hx => hu x (by simp [hx])) hv
    rw [List.cons_append, List.takeWhile_cons, List.dropWhile_cons, h1]
    exact ⟨by simp [h2.1], by simp [h2.2]⟩
theorem all_while (p : UInt8 → Bool) (l : List UInt8) : ∀ x ∈ l.takeWhile p, p x = true := fun _ h => mem_while h
theorem bl_facts {c : UInt8} (h : bl c = true) : wi c = false ∧ beg c = false ∧ c ≠ 60 := by
  have : c = 9 ∨ c = 10 ∨ c = 13 ∨ c = 32 := by
    unfold bl at h
    simp only [Bool.or_eq_true, beq_iff_eq] at h
    rcases h with ((h | h) | h) | h
    · exact .inl h
    · exact .inr (.inl h)
    · exact .inr (.inr (.inl h))
    · exact .inr (.inr (.inr h))
  rcases this with rfl | rfl | rfl | rfl <;> decide
theorem beg_facts {c : UInt8} (h : beg c = true) : bl c = false ∧ wi c = true := by
  refine ⟨?_, by unfold wi; rw [h]; rfl⟩
  cases hb : bl c with
  | false => rfl
  | true => rw [(bl_facts hb).2.1] at h; cases h
theorem wi_60 {c : UInt8} (h : wi c = true) : c ≠ 60 := fun e => by subst e; exact absurd h (by decide)
/-- a name: its first byte, all of it -/
theorem name_some {l n m : List UInt8} (h : nameL l = (n, m)) (hn : n ≠ []) : (∃ c t, n = c :: t ∧ beg c = true) ∧ (∀ x ∈ n, wi x = true) ∧ Stops wi m ∧ l = n ++ m := by
  cases l with
  | nil => cases h; exact absurd rfl hn
  | cons c t =>
    unfold nameL at h
    simp only at h
    split at h
    · rename_i hb
      cases h
      refine ⟨⟨c, t.takeWhile wi, ?_, hb⟩, all_while _ _, stops_drop _ _, (take_drop_while _ _).symm⟩
      rw [List.takeWhile_cons, (beg_facts hb).2]
      rfl
    · cases h; exact absurd rfl hn
theorem name_mk {n m : List UInt8} (h1 : ∃ c t, n = c :: t ∧ beg c = true) (h2 : ∀ x ∈ n, wi x = true) (h3 : Stops wi m) : nameL (n ++ m) = (n, m) := by
  obtain ⟨c, t, rfl, hb⟩ := h1
  have := tw_app h2 h3
  rw [List.cons_append] at this ⊢
  unfold nameL
  simp only
  rw [if_pos hb, this.1, this.2]
theorem stops_gap {b m : List UInt8} (hb : ∀ x ∈ b, bl x = true) (hm : Stops wi m) : Stops wi (b ++ m) := by
  cases b with
  | nil => exact hm
  | cons c b => exact .cons _ (bl_facts (hb c (by simp))).1
theorem val_mk {q : UInt8} {v x : List UInt8} (r : List UInt8) (hq : q = 34 ∨ q = 39) (hv : q ∉ v) (hx : backO v = some x) : valL (q :: (v ++ q :: r)) = some (x, r) := by
  have h := tw_app (p := fun c => c != q) (u := v) (v := q :: r) (fun c hc => by
    have : c ≠ q := fun e => hv (e ▸ hc)
    simpa using this) (.cons r (by simp))
  rw [val_cons, if_pos hq, h.1, h.2]
  simp only
  rw [hx]
  rfl
theorem attrB_mk {n b2 b3 v x : List UInt8} {q : UInt8} (r : List UInt8) (h1 : ∃ c t, n = c :: t ∧ beg c = true) (h2 : ∀ x ∈ n, wi x = true) (hb2 : ∀ x ∈ b2, bl x = true) (hb3 : ∀ x ∈ b3, bl x = true) (hq : q = 34 ∨ q = 39) (hv : q ∉ v) (hx : backO v = some x) :
    attrB (n ++ (b2 ++ 61 :: (b3 ++ q :: (v ++ q :: r)))) = some ((n, x), r) := by
  have hn := name_mk (m := b2 ++ 61 :: (b3 ++ q :: (v ++ q :: r))) h1 h2 (stops_gap hb2 (.cons _ (by decide)))
  have e2 := tw_app (p := bl) (u := b2) (v := 61 :: (b3 ++ q :: (v ++ q :: r))) hb2 (.cons _ (by decide))
  have e3 := tw_app (p := bl) (u := b3) (v := q :: (v ++ q :: r)) hb3 (.cons _ (by rcases hq with rfl | rfl <;> decide))
  have hne : n ≠ [] := by obtain ⟨c, t, rfl, _⟩ := h1; simp
  unfold attrB
  rw [hn]
  simp only
  rw [if_neg hne, e2.2]
  simp only
  rw [e3.2, val_mk r hq hv hx]
  rfl
theorem attrL_mk {b n b2 b3 v x : List UInt8} {q : UInt8} (r : List UInt8) (hb0 : b ≠ []) (hb : ∀ x ∈ b, bl x = true) (h1 : ∃ c t, n = c :: t ∧ beg c = true) (h2 : ∀ x ∈ n, wi x = true) (hb2 : ∀ x ∈ b2, bl x = true) (hb3 : ∀ x ∈ b3, bl x = true) (hq : q = 34 ∨ q = 39) (hv : q ∉ v) (hx : backO v = some x) :
    attrL (b ++ (n ++ (b2 ++ 61 :: (b3 ++ q :: (v ++ q :: r))))) = some ((n, x), r) := by
  have e := tw_app (p := bl) (u := b) (v := n ++ (b2 ++ 61 :: (b3 ++ q :: (v ++ q :: r)))) hb (by obtain ⟨c, t, rfl, h⟩ := h1; exact .cons _ (beg_facts h).1)
  unfold attrL
  rw [e.1, e.2, if_neg hb0]
  exact attrB_mk r h1 h2 hb2 hb3 hq hv hx
/-! ### no "<" within -/
theorem numF_60 (base : Nat) (hb : base ≤ 99) : ∀ (l : List UInt8) (v : Nat), 60 ∈ l → numF base v l = none
  | [], _, h => by cases h
  | c :: t, v, h => by
    unfold numF
    by_cases hc : base ≤ dg c.toNat
    · rw [if_pos hc]
    · rw [if_neg hc]
      rcases List.mem_cons.1 h with rfl | h
      · exact absurd (show base ≤ dg (60 : UInt8).toNat from hb) hc
      · exact numF_60 base hb t _ h
theorem num_60 {base most : Nat} (hb : base ≤ 99) {l : List UInt8} (h : 60 ∈ l) : keep (num base most l) = none := by
  unfold num
  split
  · rfl
  · rw [numF_60 base hb l 0 h]; rfl
theorem ent_60 {n : List UInt8} {v : Nat} (h : ent n = some v) : 60 ∉ n := fun hm => by
  unfold ent at h
  split at h
  · rename_i e; rw [e] at hm; exact absurd hm (by decide)
  split at h
  · rename_i e; rw [e] at hm; exact absurd hm (by decide)
  split at h
  · rename_i e; rw [e] at hm; exact absurd hm (by decide)
  split at h
  · rename_i e; rw [e] at hm; exact absurd hm (by decide)
  split at h
  · rename_i e; rw [e] at hm; exact absurd hm (by decide)
  split at h
  · rename_i t _
    rw [num_60 (by omega) (by simpa using hm)] at h
    cases h
  · rename_i t _ _
    rw [num_60 (by omega) (by simpa using hm)] at h
    cases h
  · cases h
theorem cutS_cat : ∀ {l n r : List UInt8}, cutS l = some (n, r) → l = n ++ 59 :: r
  | [], n, r, h => by cases h
  | c :: t, n, r, h => by
    unfold cutS at h
    split at h
    · rename_i e
      cases h
      rw [e]; rfl
    · cases e : cutS t with
      | none => rw [e] at h; cases h
      | some p =>
        rw [e] at h
        obtain ⟨n', r'⟩ := p
        cases h
        rw [cutS_cat e]
        rfl
theorem back_60 : ∀ (k : Nat) (l x : List UInt8), l.length ≤ k → back l = some x → 60 ∉ l
  | _, [], _, _, _ => by simp
  | 0, _ :: _, _, h, _ => by simp at h
  | k + 1, c :: t, x, hk, h => by
    by_cases h1 : c = 60
    · subst h1; rw [back_lt] at h; cases h
    by_cases h2 : c = 38
    · subst h2
      cases e : cutS t with
      | none => rw [back_amp_none e] at h; cases h
      | some p =>
        obtain ⟨n, r⟩ := p
        cases e2 : ent n with
        | none => rw [back_amp_bad e e2] at h; cases h
        | some v =>
          rw [back_amp_some e e2] at h
          cases e3 : back r with
          | none => rw [e3] at h; cases h
          | some y =>
            have hr := cutS_len e
            have ih := back_60 k r y (by simp at hk; omega) e3
            have hn := ent_60 e2
            rw [cutS_cat e]
            simp only [List.mem_cons, List.mem_append, not_or]
            exact ⟨by decide, hn, by decide, ih⟩
    · rw [back_plain t h1 h2] at h
      cases e3 : back t with
      | none => rw [e3] at h; cases h
      | some y =>
        have ih := back_60 k t y (by simpa using hk) e3
        simp only [List.mem_cons, not_or]
        exact ⟨fun e => h1 e.symm, ih⟩
theorem backO_some {l x : List UInt8} (h : backO l = some x) : valid l = true ∧ back l = some x ∧ 60 ∉ l := by
  unfold backO at h
  split at h
  · rename_i hv; exact ⟨hv, h, back_60 _ l x (Nat.le_refl _) h⟩
  · cases h
/-! ### pieces -/
theorem attr_piece {l r : List UInt8} {a : Att} (h : attrL l = some (a, r)) : ∃ p, l = p ++ r ∧ 60 ∉ p ∧ ∀ r', attrL (p ++ r') = some (a, r') := by
  obtain ⟨h0, hB⟩ := attrL_some h
  obtain ⟨hn, r1, e1, e2, ea⟩ := attrB_cat hB
  obtain ⟨q, v, hq, e3, hqv, hx⟩ := val_cat e2
  obtain ⟨n, m, hnm⟩ : ∃ n m, nameL (l.dropWhile bl) = (n, m) := ⟨_, _, rfl⟩
  rw [hnm] at hn e1 ea
  simp only at hn e1 ea
  obtain ⟨n1, n2, n3, n4⟩ := name_some hnm hn
  have c1 := take_drop_while bl l
  have c2 := take_drop_while bl m
  have c3 := take_drop_while bl r1
  rw [e1] at c2
  rw [e3] at c3
  have a0 := all_while bl l
  have a2 := all_while bl m
  have a3 := all_while bl r1
  obtain ⟨b, hb⟩ : ∃ b, l.takeWhile bl = b := ⟨_, rfl⟩
  obtain ⟨b2, hb2⟩ : ∃ b, m.takeWhile bl = b := ⟨_, rfl⟩
  obtain ⟨b3, hb3⟩ : ∃ b, r1.takeWhile bl = b := ⟨_, rfl⟩
  rw [hb] at c1 a0 h0
  rw [hb2] at c2 a2
  rw [hb3] at c3 a3
  obtain ⟨a1, a2'⟩ := a
  simp only at ea e2 hx
  subst ea
  refine ⟨b ++ (a1 ++ (b2 ++ 61 :: (b3 ++ q :: (v ++ [q])))), ?_, ?_, fun r' => ?_⟩
  · rw [← c1, n4, ← c2, ← c3]
    simp
  · simp only [List.mem_append, List.mem_cons, not_or]
    have hq60 : (60 : UInt8) ≠ q := by rcases hq with rfl | rfl <;> decide
    exact ⟨fun h => (bl_facts (a0 _ h)).2.2 rfl, fun h => wi_60 (n2 _ h) rfl, fun h => (bl_facts (a2 _ h)).2.2 rfl, by decide, fun h => (bl_facts (a3 _ h)).2.2 rfl, hq60, (backO_some hx).2.2, by simpa using hq60⟩
  · have := attrL_mk (b := b) (n := a1) (b2 := b2) (b3 := b3) (v := v) (x := a2') (q := q) r' h0 a0 n1 n2 a2 a3 hq hqv hx
    simpa using this
theorem nextA_piece {as : List Att} {l r : List UInt8} {a : Att} (h : nextA as l = some (a, r)) : ∃ p, l = p ++ r ∧ 60 ∉ p ∧ ∀ r', nextA as (p ++ r') = some (a, r') := by
  obtain ⟨h1, h2⟩ := own_some h
  obtain ⟨p, e, h3, h4⟩ := attr_piece h1
  refine ⟨p, e, h3, fun r' => ?_⟩
  unfold nextA
  rw [h4]
  unfold own
  simp only at h2 ⊢
  rw [h2]
  rfl
theorem manyF_piece : ∀ (f : Nat) (as : List Att) (l : List UInt8), ∃ p, l = p ++ (manyF nextA f as l).2 ∧ 60 ∉ p ∧ ∀ m, (∀ xs, nextA xs m = none) → many nextA as (p ++ m) = ((manyF nextA f as l).1, m)
  | 0, as, l => ⟨[], rfl, by simp, fun m hm => many_stop (hm as)⟩
  | f + 1, as, l => by
    unfold manyF
    cases e : nextA as l with
    | none => exact ⟨[], rfl, by simp, fun m hm => many_stop (hm as)⟩
    | some x =>
      obtain ⟨a, r⟩ := x
      obtain ⟨p, e1, h1, h2⟩ := nextA_piece e
      obtain ⟨p2, e2, h3, h4⟩ := manyF_piece f (as ++ [a]) r
      refine ⟨p ++ p2, ?_, ?_, fun m hm => ?_⟩
      · simp only
        rw [List.append_assoc, ← e2]
        exact e1
      · rw [List.mem_append, not_or]; exact ⟨h1, h3⟩
      · rw [List.append_assoc, many_step shrinksA (h2 (p2 ++ m))]
        exact h4 m hm
theorem no_attr {b : List UInt8} (hb : ∀ x ∈ b, bl x = true) {c : UInt8} (hc : c = 47 ∨ c = 62) (t : List UInt8) (xs : List Att) : nextA xs (b ++ c :: t) = none := by
  have e := tw_app (p := bl) (u := b) (v := c :: t) hb (.cons _ (by rcases hc with rfl | rfl <;> decide))
  refine nextA_none (attrL_no ?_)
  rw [e.2]
  rcases hc with rfl | rfl <;> rfl
/-- what a token is made of -/
theorem open_piece {l r : List UInt8} {t : Tok} (h : openL l = some (t, r)) : t.1 = 1 ∧ ∃ p, l = p ++ 62 :: r ∧ 60 ∉ p ∧ (∀ x, p ++ [62] ≠ 47 :: x) ∧ ∀ r', openL (p ++ 62 :: r') = some (t, r') := by
  unfold openL at h
  split at h
  · cases h
  · rename_i hn
    obtain ⟨n, m, hnm⟩ : ∃ n m, nameL l = (n, m) := ⟨_, _, rfl⟩
    rw [hnm] at h hn
    simp only at h hn
    obtain ⟨n1, n2, n3, n4⟩ := name_some hnm hn
    obtain ⟨p, e1, h1, h2⟩ := manyF_piece (m.length + 1) [] m
    have hmany : many nextA [] m = manyF nextA (m.length + 1) [] m := rfl
    rw [← hmany] at e1 h2
    obtain ⟨as, l2, hal⟩ : ∃ as l2, many nextA [] m = (as, l2) := ⟨_, _, rfl⟩
    rw [hal] at h e1 h2
    simp only at e1 h2
    have c2 := take_drop_while bl l2
    have a2 := all_while bl l2
    obtain ⟨b, hb⟩ : ∃ b, l2.takeWhile bl = b := ⟨_, rfl⟩
    rw [hb] at c2 a2
    have hst : ∀ {c : UInt8} {y : List UInt8}, (c = 47 ∨ c = 62) → l2.dropWhile bl = c :: y → Stops wi (p ++ (b ++ c :: y)) := fun {c y} hc e => by rw [← e, c2, ← e1]; exact n3
    have hfst : ∀ {p : List UInt8}, ∀ x, n ++ p ≠ 47 :: x := fun {p} x e => by
      obtain ⟨c, t, rfl, hb⟩ := n1
      injection e with e _
      rw [e] at hb
      exact absurd hb (by decide)
    have hst2 : ∀ {c : UInt8} {y y' : List UInt8}, Stops wi (p ++ (b ++ c :: y)) → Stops wi (p ++ (b ++ c :: y')) := fun {c y y'} hs => by
      rcases hs with e | ⟨c', t', e, hc'⟩
      · simp at e
      · cases p with
        | cons d p => injection e with e _; exact .cons _ (e ▸ hc')
        | nil => cases b with
          | cons d b => injection e with e _; exact .cons _ (e ▸ hc')
          | nil => injection e with e _; exact .cons _ (e ▸ hc')
    rcases ends_some h with ⟨e, rfl⟩ | ⟨e, rfl⟩
    · simp only at e
      rw [e] at c2
      refine ⟨rfl, n ++ (p ++ (b ++ [47])), by rw [n4, e1, ← c2]; simp, ?_, by intro x; rw [List.append_assoc]; exact hfst x, fun r' => ?_⟩
      · simp only [List.mem_append, not_or, List.mem_singleton]
        exact ⟨fun h => wi_60 (n2 _ h) rfl, h1, fun h => (bl_facts (a2 _ h)).2.2 rfl, by decide⟩
      · have e4 : n ++ (p ++ (b ++ [47])) ++ 62 :: r' = n ++ (p ++ (b ++ 47 :: 62 :: r')) := by simp
        have e5 := tw_app (p := bl) (u := b) (v := 47 :: 62 :: r') a2 (.cons _ (by decide))
        rw [e4]
        unfold openL
        rw [name_mk n1 n2 (hst2 (hst (.inl rfl) e))]
        simp only
        rw [if_neg hn, h2 _ (no_attr a2 (.inl rfl) _)]
        unfold ends
        simp only
        rw [e5.2]
        rfl
    · simp only at e
      rw [e] at c2
      refine ⟨rfl, n ++ (p ++ b), by rw [n4, e1, ← c2]; simp, ?_, by intro x; rw [List.append_assoc]; exact hfst x, fun r' => ?_⟩
      · simp only [List.mem_append, not_or]
        exact ⟨fun h => wi_60 (n2 _ h) rfl, h1, fun h => (bl_facts (a2 _ h)).2.2 rfl⟩
      · have e4 : n ++ (p ++ b) ++ 62 :: r' = n ++ (p ++ (b ++ 62 :: r')) := by simp
        have e5 := tw_app (p := bl) (u := b) (v := 62 :: r') a2 (.cons _ (by decide))
        rw [e4]
        unfold openL
        rw [name_mk n1 n2 (hst2 (hst (.inr rfl) e))]
        simp only
        rw [if_neg hn, h2 _ (no_attr a2 (.inr rfl) _)]
        unfold ends
        simp only
        rw [e5.2]
        rfl
theorem close_mk {n b : List UInt8} (r : List UInt8) (h1 : ∃ c t, n = c :: t ∧ beg c = true) (h2 : ∀ x ∈ n, wi x = true) (hb : ∀ x ∈ b, bl x = true) : closeL (n ++ (b ++ 62 :: r)) = some ((2, n, [], [], false), r) := by
  have e5 := tw_app (p := bl) (u := b) (v := 62 :: r) hb (.cons _ (by decide))
  have hne : n ≠ [] := by obtain ⟨c, t, rfl, _⟩ := h1; simp
  unfold closeL
  rw [name_mk h1 h2 (stops_gap hb (.cons _ (by decide)))]
  simp only
  rw [if_neg hne, e5.2]
  rfl
theorem close_piece {l r : List UInt8} {t : Tok} (h : closeL l = some (t, r)) : t.1 = 2 ∧ ∃ p, l = p ++ 62 :: r ∧ 60 ∉ p ∧ ∀ r', closeL (p ++ 62 :: r') = some (t, r') := by
  unfold closeL at h
  split at h
  · cases h
  · rename_i hn
    obtain ⟨n, m, hnm⟩ : ∃ n m, nameL l = (n, m) := ⟨_, _, rfl⟩
    rw [hnm] at h hn
    simp only at h hn
    obtain ⟨n1, n2, n3, n4⟩ := name_some hnm hn
    have c2 := take_drop_while bl m
    have a2 := all_while bl m
    obtain ⟨b, hb⟩ : ∃ b, m.takeWhile bl = b := ⟨_, rfl⟩
    rw [hb] at c2 a2
    split at h
    · rename_i r1 e
      cases h
      rw [e] at c2
      refine ⟨rfl, n ++ b, by rw [n4, ← c2]; simp, ?_, fun r' => ?_⟩
      · simp only [List.mem_append, not_or]
        exact ⟨fun h => wi_60 (n2 _ h) rfl, fun h => (bl_facts (a2 _ h)).2.2 rfl⟩
      · rw [List.append_assoc]
        exact close_mk r' n1 n2 a2
    · cases h
theorem text_mk {u x : List UInt8} (r : List UInt8) (hu : u ≠ []) (h60 : 60 ∉ u) (hx : backO u = some x) (hr : r = [] ∨ ∃ y, r = 60 :: y) : tokL (u ++ r) = some ((3, [], x, [], false), r) := by
  have e := tw_app (p := fun c => c != 60) (u := u) (v := r) (fun c hc => by
    have : c ≠ 60 := fun e => h60 (e ▸ hc)
    simpa using this) (by
    rcases hr with rfl | ⟨y, rfl⟩
    · exact .inl rfl
    · exact .cons y rfl)
  rw [tok_text (fun y ey => by
    cases u with
    | nil => exact hu rfl
    | cons c u => injection ey with ey _; exact h60 (by rw [ey]; simp))]
  unfold textL
  rw [e.1, e.2, if_neg hu, hx]
  rfl
theorem tok_piece {l r : List UInt8} {t : Tok} (h : tokL l = some (t, r)) : ∃ c p, l = c :: p ++ r ∧ 60 ∉ p ∧ (c = 60 ↔ t.1 ≠ 3) ∧ (t.1 = 3 → r = [] ∨ ∃ y, r = 60 :: y) ∧ (t.1 ≠ 3 → ∃ p', p = p' ++ [62]) ∧ ∀ r', (t.1 = 3 → r' = [] ∨ ∃ y, r' = 60 :: y) → tokL (c :: p ++ r') = some (t, r') := by
  rcases cases_tok l with ⟨x, rfl⟩ | ⟨x, rfl, hx⟩ | hx
  · rw [tok_close] at h
    obtain ⟨h1, p, e, h2, h3⟩ := close_piece h
    refine ⟨60, 47 :: (p ++ [62]), by rw [e]; simp, ?_, ?_, fun h => ?_, fun _ => ⟨47 :: p, rfl⟩, fun r' _ => ?_⟩
    · simp only [List.mem_cons, List.mem_append, not_or]
      exact ⟨by decide, h2, by decide⟩
    · rw [h1]; decide
    · rw [h1] at h; cases h
    · have := h3 r'
      simpa [tok_close] using this
  · rw [tok_open hx] at h
    obtain ⟨h1, p, e, h2, h4, h3⟩ := open_piece h
    refine ⟨60, p ++ [62], by rw [e]; simp, ?_, ?_, fun h => ?_, fun _ => ⟨p, rfl⟩, fun r' _ => ?_⟩
    · simp only [List.mem_append, not_or, List.mem_singleton]
      exact ⟨h2, by decide⟩
    · rw [h1]; decide
    · rw [h1] at h; cases h
    · have := h3 r'
      have e2 : 60 :: (p ++ [62]) ++ r' = 60 :: (p ++ 62 :: r') := by simp
      rw [e2, tok_open]
      · exact this
      · intro y ey
        cases p with
        | nil => cases ey
        | cons d p =>
          injection ey with ey _
          exact h4 (p ++ [62]) (by rw [ey]; rfl)
  · rw [tok_text hx] at h
    obtain ⟨h1, rfl, x, h2, rfl⟩ := text_some h
    have c1 := take_drop_while (· != 60) l
    have h60 := (backO_some h2).2.2
    have hst := stops_drop (· != 60) l
    have hst2 : l.dropWhile (· != 60) = [] ∨ ∃ y, l.dropWhile (· != 60) = 60 :: y := by
      rcases hst with e | ⟨c, t, e, hc⟩
      · exact .inl e
      · exact .inr ⟨t, by rw [e]; simp at hc; rw [hc]⟩
    cases hu : l.takeWhile (· != 60) with
    | nil => exact absurd hu h1
    | cons c u =>
      rw [hu] at c1 h60 h2
      refine ⟨c, u, c1.symm, fun h => h60 (by simp [h]), ?_, fun _ => hst2, fun h => absurd rfl h, fun r' hr => text_mk r' (by simp) h60 h2 (hr rfl)⟩
      constructor
      · intro e; rw [e] at h60; simp at h60
      · intro e; exact absurd rfl e
end Go.Proofs.YtlpjealcmnnbnaaGreatDoor.Tk
