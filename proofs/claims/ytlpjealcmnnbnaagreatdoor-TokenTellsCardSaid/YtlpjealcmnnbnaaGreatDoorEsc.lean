/-
  ESCAPES over plain lists of bytes, as the document's words have them: a text escaped, and back; what is escaped comes back. Nothing of any program.
-/
import Derived.Test.YtlpjealcmnnbnaaGreatDoorEnc
namespace Go.Proofs.YtlpjealcmnnbnaaGreatDoor.Tx
open Go.Lib

/-- A byte, escaped. -/
def escB (b : UInt8) : List UInt8 :=
  if b = 38 then [38, 97, 109, 112, 59] else if b = 60 then [38, 108, 116, 59] else if b = 62 then [38, 103, 116, 59]
  else if b = 34 then [38, 113, 117, 111, 116, 59] else if b = 39 then [38, 97, 112, 111, 115, 59]
  else if b = 9 then [38, 35, 57, 59] else if b = 10 then [38, 35, 49, 48, 59] else if b = 13 then [38, 35, 49, 51, 59] else [b]
/-- A text, escaped. -/
def esc : List UInt8 → List UInt8
  | [] => []
  | c :: t => escB c ++ esc t
theorem esc_nil : esc [] = [] := rfl
theorem esc_cons (c : UInt8) (t : List UInt8) : esc (c :: t) = escB c ++ esc t := rfl
theorem esc_append : ∀ a b : List UInt8, esc (a ++ b) = esc a ++ esc b
  | [], b => rfl
  | c :: a, b => by rw [List.cons_append, esc_cons, esc_cons, esc_append a b, List.append_assoc]
theorem escB_len (b : UInt8) : (escB b).length ≤ 6 := by
  unfold escB
  repeat' split
  all_goals simp
theorem esc_len : ∀ l : List UInt8, (esc l).length ≤ 6 * l.length
  | [] => Nat.le_refl _
  | c :: t => by rw [esc_cons, List.length_append, List.length_cons]; have := escB_len c; have := esc_len t; omega

/-- A digit's number; 99: none. -/
def dg (c : Nat) : Nat := if 48 ≤ c ∧ c ≤ 57 then c - 48 else if 97 ≤ c ∧ c ≤ 102 then c - 87 else if 65 ≤ c ∧ c ≤ 70 then c - 55 else 99
/-- Digits' number. -/
def numF (base : Nat) : Nat → List UInt8 → Option Nat
  | v, [] => some v
  | v, c :: t => if base ≤ dg c.toNat then none else numF base (v * base + dg c.toNat) t
def num (base most : Nat) (l : List UInt8) : Option Nat := if l = [] ∨ most < l.length then none else numF base 0 l
/-- May the character of this number stand in a text? -/
def good (v : Nat) : Bool := decide (sane v) && okc v
def keep (o : Option Nat) : Option Nat := match o with
  | some v => if good v then some v else none
  | none => none
/-- What stands for a name between "&" and ";". -/
def ent (l : List UInt8) : Option Nat :=
  if l = [97, 109, 112] then some 38 else if l = [108, 116] then some 60 else if l = [103, 116] then some 62
  else if l = [113, 117, 111, 116] then some 34 else if l = [97, 112, 111, 115] then some 39
  else match l with
    | 35 :: 120 :: t => keep (num 16 6 t)
    | 35 :: t => keep (num 10 7 t)
    | _ => none
/-- What is ahead of the first ";", and what is behind it. -/
def cutS : List UInt8 → Option (List UInt8 × List UInt8)
  | [] => none
  | c :: t => if c = 59 then some ([], t) else (cutS t).map fun p => (c :: p.1, p.2)
theorem cutS_len : ∀ {l n r : List UInt8}, cutS l = some (n, r) → r.length < l.length
  | [], n, r, h => by cases h
  | c :: t, n, r, h => by
    unfold cutS at h
    split at h
    · cases h; simp
    · cases e : cutS t with
      | none => rw [e] at h; cases h
      | some p =>
        rw [e] at h
        obtain ⟨n', r'⟩ := p
        cases h
        have := cutS_len e
        simp; omega
/-- An escaped text as it was. -/
def backF : Nat → List UInt8 → Option (List UInt8)
  | 0, l => if l = [] then some [] else none
  | _ + 1, [] => some []
  | f + 1, c :: t => if c = 60 then none else if c = 38 then
      match cutS t with
      | none => none
      | some p => match ent p.1 with
        | none => none
        | some v => (backF f p.2).map (enc v ++ ·)
    else (backF f t).map (c :: ·)
def back (l : List UInt8) : Option (List UInt8) := backF l.length l
theorem backF_enough : ∀ (f g : Nat) (l : List UInt8), l.length ≤ f → l.length ≤ g → backF f l = backF g l
  | 0, 0, l, _, _ => rfl
  | 0, g + 1, [], _, _ => rfl
  | f + 1, 0, [], _, _ => rfl
  | f + 1, g + 1, [], _, _ => rfl
  | 0, _, _ :: _, h, _ => by simp at h
  | _ + 1, 0, _ :: _, _, h => by simp at h
  | f + 1, g + 1, c :: t, hf, hg => by
    unfold backF
    by_cases h1 : c = 60
    · rw [if_pos h1, if_pos h1]
    · rw [if_neg h1, if_neg h1]
      by_cases h2 : c = 38
      · rw [if_pos h2, if_pos h2]
        cases e : cutS t with
        | none => rfl
        | some p =>
          obtain ⟨n, r⟩ := p
          have := cutS_len e
          simp only [List.length_cons] at hf hg
          simp only
          rw [backF_enough f g r (by omega) (by omega)]
      · rw [if_neg h2, if_neg h2, backF_enough f g t (by simpa using hf) (by simpa using hg)]
theorem back_nil : back [] = some [] := rfl
theorem back_lt (t : List UInt8) : back (60 :: t) = none := rfl
theorem back_plain {c : UInt8} (t : List UInt8) (h1 : c ≠ 60) (h2 : c ≠ 38) : back (c :: t) = (back t).map (c :: ·) := by
  unfold back
  rw [List.length_cons]
  show (if c = 60 then none else if c = 38 then _ else _) = _
  rw [if_neg h1, if_neg h2]
theorem back_amp (t : List UInt8) : back (38 :: t) = match cutS t with
      | none => none
      | some p => match ent p.1 with
        | none => none
        | some v => (back p.2).map (enc v ++ ·) := by
  unfold back
  rw [List.length_cons]
  show (if (38 : UInt8) = 60 then none else if (38 : UInt8) = 38 then _ else _) = _
  rw [if_neg (by decide), if_pos rfl]
  cases e : cutS t with
  | none => rfl
  | some p =>
    obtain ⟨n, r⟩ := p
    have := cutS_len e
    simp only
    rw [backF_enough t.length r.length r (by omega) (Nat.le_refl _)]
theorem back_amp_none {t : List UInt8} (h : cutS t = none) : back (38 :: t) = none := by rw [back_amp, h]
theorem back_amp_bad {t n r : List UInt8} (h : cutS t = some (n, r)) (h2 : ent n = none) : back (38 :: t) = none := by rw [back_amp, h]; simp only; rw [h2]
theorem back_amp_some {t n r : List UInt8} {v : Nat} (h : cutS t = some (n, r)) (h2 : ent n = some v) : back (38 :: t) = (back r).map (enc v ++ ·) := by rw [back_amp, h]; simp only; rw [h2]
theorem back_plains : ∀ (p t : List UInt8), (∀ c ∈ p, c ≠ 60 ∧ c ≠ 38) → back (p ++ t) = (back t).map (p ++ ·)
  | [], t, _ => by rw [List.nil_append]; cases back t <;> rfl
  | c :: p, t, h => by
    rw [List.cons_append, back_plain _ (h c (by simp)).1 (h c (by simp)).2, back_plains p t (fun d hd => h d (by simp [hd]))]
    cases back t <;> rfl
/-! ### ahead of the first ";" -/
theorem cutS_at : ∀ (l : List UInt8) (e : Nat), (∀ j, j < e → l.getD j 0 ≠ 59) → l[e]? = some 59 → cutS l = some (l.take e, l.drop (e + 1))
  | [], e, _, h => by simp at h
  | c :: t, 0, _, h => by
    have : c = 59 := by simpa using h
    subst this
    rfl
  | c :: t, e + 1, hj, h => by
    have h0 : c ≠ 59 := by have := hj 0 (by omega); simpa using this
    unfold cutS
    rw [if_neg h0, cutS_at t e (fun j hj' => by have := hj (j + 1) (by omega); simpa using this) (by simpa using h)]
    rfl
theorem cutS_not : ∀ (l : List UInt8), (∀ j, j < l.length → l.getD j 0 ≠ 59) → cutS l = none
  | [], _ => rfl
  | c :: t, hj => by
    have h0 : c ≠ 59 := by have := hj 0 (by simp); simpa using this
    unfold cutS
    rw [if_neg h0, cutS_not t (fun j hj' => by have := hj (j + 1) (by simp; omega); simpa using this)]
    rfl
theorem cutS_mem : ∀ (l : List UInt8), 59 ∉ l → cutS l = none
  | [], _ => rfl
  | c :: t, hj => by
    unfold cutS
    rw [if_neg (fun h => hj (by simp [h])), cutS_mem t (fun h => hj (by simp [h]))]
    rfl
theorem cutS_mem_at : ∀ (n r : List UInt8), 59 ∉ n → cutS (n ++ 59 :: r) = some (n, r)
  | [], _, _ => rfl
  | c :: t, r, hj => by
    rw [List.cons_append]
    unfold cutS
    rw [if_neg (fun h => hj (by simp [h])), cutS_mem_at t r (fun h => hj (by simp [h]))]
    rfl
/-! ### two texts, one behind the other -/
theorem cutS_app : ∀ {a n r : List UInt8} (b : List UInt8), cutS a = some (n, r) → cutS (a ++ b) = some (n, r ++ b)
  | [], n, r, b, h => by cases h
  | c :: t, n, r, b, h => by
    rw [List.cons_append]
    unfold cutS at h ⊢
    by_cases h0 : c = 59
    · rw [if_pos h0] at h ⊢; cases h; rfl
    · rw [if_neg h0] at h ⊢
      cases e : cutS t with
      | none => rw [e] at h; cases h
      | some p =>
        rw [e] at h
        obtain ⟨n', r'⟩ := p
        cases h
        rw [cutS_app b e]
        rfl
theorem back_app : ∀ (k : Nat) (a b x : List UInt8), a.length ≤ k → back a = some x → back (a ++ b) = (back b).map (x ++ ·)
  | k, [], b, x, _, h => by
    obtain rfl : [] = x := Option.some.inj h
    rw [List.nil_append]; cases back b <;> rfl
  | 0, _ :: _, _, _, h, _ => by simp at h
  | k + 1, c :: t, b, x, hk, h => by
    rw [List.cons_append]
    by_cases h1 : c = 60
    · subst h1; rw [back_lt] at h; cases h
    by_cases h2 : c = 38
    · subst h2
      cases e : cutS t with
      | none => rw [back_amp_none e] at h; cases h
      | some p =>
        obtain ⟨n, r⟩ := p
        cases e2 : ent n with
        | none => rw [back_amp_bad e e2] at h; cases h
        | some v =>
          have hl := cutS_len e
          rw [back_amp_some e e2] at h
          rw [back_amp_some (cutS_app b e) e2]
          cases e3 : back r with
          | none => rw [e3] at h; cases h
          | some y =>
            rw [e3] at h
            obtain rfl : enc v ++ y = x := Option.some.inj h
            rw [back_app k r b y (by simp at hk; omega) e3]
            cases back b <;> simp
    · rw [back_plain _ h1 h2] at h ⊢
      cases e3 : back t with
      | none => rw [e3] at h; cases h
      | some y =>
        rw [e3] at h
        obtain rfl : c :: y = x := Option.some.inj h
        rw [back_app k t b y (by simpa using hk) e3]
        cases back b <;> simp
theorem back_append {a x : List UInt8} (b : List UInt8) (h : back a = some x) : back (a ++ b) = (back b).map (x ++ ·) := back_app _ a b x (Nat.le_refl _) h
/-! ### what is escaped comes back -/
theorem ent_amp : ent [97, 109, 112] = some 38 := by decide +kernel
theorem ent_lt : ent [108, 116] = some 60 := by decide +kernel
theorem ent_gt : ent [103, 116] = some 62 := by decide +kernel
theorem ent_quot : ent [113, 117, 111, 116] = some 34 := by decide +kernel
theorem ent_apos : ent [97, 112, 111, 115] = some 39 := by decide +kernel
theorem ent_9 : ent [35, 57] = some 9 := by decide +kernel
theorem ent_10 : ent [35, 49, 48] = some 10 := by decide +kernel
theorem ent_13 : ent [35, 49, 51] = some 13 := by decide +kernel
theorem enc_low {n : Nat} (h : n < 128) : enc n = [UInt8.ofNat n] := by
  rcases enc_cases (n := n) (by unfold sane; omega) with ⟨_, e⟩ | ⟨a, _⟩ | ⟨a, _⟩ | ⟨a, _⟩
  · exact e
  all_goals omega
theorem back_escB (b : UInt8) (r : List UInt8) : back (escB b ++ r) = (back r).map (b :: ·) := by
  unfold escB
  split
  · rename_i h; subst h
    rw [show [38, 97, 109, 112, 59] ++ r = 38 :: ([97, 109, 112] ++ 59 :: r) from rfl, back_amp_some (cutS_mem_at _ _ (by decide)) ent_amp, enc_low (by decide)]; rfl
  split
  · rename_i h; subst h
    rw [show [38, 108, 116, 59] ++ r = 38 :: ([108, 116] ++ 59 :: r) from rfl, back_amp_some (cutS_mem_at _ _ (by decide)) ent_lt, enc_low (by decide)]; rfl
  split
  · rename_i h; subst h
    rw [show [38, 103, 116, 59] ++ r = 38 :: ([103, 116] ++ 59 :: r) from rfl, back_amp_some (cutS_mem_at _ _ (by decide)) ent_gt, enc_low (by decide)]; rfl
  split
  · rename_i h; subst h
    rw [show [38, 113, 117, 111, 116, 59] ++ r = 38 :: ([113, 117, 111, 116] ++ 59 :: r) from rfl, back_amp_some (cutS_mem_at _ _ (by decide)) ent_quot, enc_low (by decide)]; rfl
  split
  · rename_i h; subst h
    rw [show [38, 97, 112, 111, 115, 59] ++ r = 38 :: ([97, 112, 111, 115] ++ 59 :: r) from rfl, back_amp_some (cutS_mem_at _ _ (by decide)) ent_apos, enc_low (by decide)]; rfl
  split
  · rename_i h; subst h
    rw [show [38, 35, 57, 59] ++ r = 38 :: ([35, 57] ++ 59 :: r) from rfl, back_amp_some (cutS_mem_at _ _ (by decide)) ent_9, enc_low (by decide)]; rfl
  split
  · rename_i h; subst h
    rw [show [38, 35, 49, 48, 59] ++ r = 38 :: ([35, 49, 48] ++ 59 :: r) from rfl, back_amp_some (cutS_mem_at _ _ (by decide)) ent_10, enc_low (by decide)]; rfl
  split
  · rename_i h; subst h
    rw [show [38, 35, 49, 51, 59] ++ r = 38 :: ([35, 49, 51] ++ 59 :: r) from rfl, back_amp_some (cutS_mem_at _ _ (by decide)) ent_13, enc_low (by decide)]; rfl
  · rename_i h1 h2 _ _ _ _ _ _
    exact back_plain r h2 h1
theorem back_esc : ∀ l : List UInt8, back (esc l) = some l
  | [] => rfl
  | c :: t => by rw [esc_cons, back_escB, back_esc t]; rfl
/-- bytes that may stand -/
def okb (b : UInt8) : Bool := !(b == 60 || b == 62 || b == 34 || b == 39 || decide (b.toNat < 32))
theorem escB_okb {b : UInt8} (h : 32 ≤ b.toNat ∨ b = 9 ∨ b = 10 ∨ b = 13) : ∀ c ∈ escB b, okb c = true := by
  unfold escB
  split
  · decide
  split
  · decide
  split
  · decide
  split
  · decide
  split
  · decide
  split
  · decide
  split
  · decide
  split
  · decide
  · rename_i h1 h2 h3 h4 h5 h6 h7 h8
    intro c hc
    obtain rfl : c = b := by simpa using hc
    have h32 : ¬ c.toNat < 32 := by rcases h with h | h | h | h <;> first | omega | exact absurd h ‹_›
    unfold okb
    simp [h2, h3, h4, h5, h32]
theorem esc_okb : ∀ {l : List UInt8}, (∀ b ∈ l, 32 ≤ b.toNat ∨ b = 9 ∨ b = 10 ∨ b = 13) → ∀ c ∈ esc l, okb c = true
  | [], _, c, hc => by cases hc
  | b :: t, h, c, hc => by
    rw [esc_cons, List.mem_append] at hc
    rcases hc with hc | hc
    · exact escB_okb (h b (by simp)) c hc
    · exact esc_okb (fun d hd => h d (by simp [hd])) c hc
/-! ### an escaped text is a text -/
theorem bt_take (l : List UInt8) (k j : Nat) (h : j < k) : bt (l.take k) j = bt l j := by
  rw [bt_def, bt_def, List.getD_eq_getElem?_getD, List.getD_eq_getElem?_getD, List.getElem?_take_of_lt h]
theorem rdc_dc {l : List UInt8} (h : dc l ≠ (65533, 1)) : rdc l = dc l := by unfold rdc; rw [if_neg h]
/-- The bytes of one character: it may be cut out; it is one byte below 128, or all its bytes are above. -/
theorem rdc_take {l : List UInt8} (hl : l ≠ []) (h : dc l ≠ (65533, 1)) :
    rdc (l.take (dc l).2) = rdc l ∧ (((dc l).2 = 1 ∧ bt l 0 < 128 ∧ (dc l).1 = bt l 0) ∨ ∀ j, j < (dc l).2 → 128 ≤ bt l j) := by
  have e := rdc_dc h
  have h1 := dc_ge1 l
  have hle := dc_le hl
  have hlen : ∀ k, k ≤ l.length → (l.take k).length = k := fun k hk => by rw [List.length_take]; omega
  rw [← e] at h1 hle ⊢
  rcases Nat.lt_or_ge (bt l 0) 128 with a | a
  · rw [rdc_A a] at hle ⊢
    refine ⟨?_, .inl ⟨rfl, a, rfl⟩⟩
    rw [rdc_A (by rw [bt_take _ _ _ (by simp)]; exact a), bt_take _ _ _ (by simp)]
  rcases Nat.lt_or_ge (bt l 0) 192 with b | b
  · rw [rdc_B a (.inl b)] at h1; simp at h1
  rcases Nat.lt_or_ge (bt l 0) 224 with c | c
  · have q := rdc_C b c
    by_cases k : 2 ≤ l.length ∧ bt l 1 / 64 = 2 ∧ 128 ≤ acc l 32 1
    · rw [if_pos k] at q
      rw [q]
      have z : ∀ j, j < 2 → bt (l.take 2) j = bt l j := fun j hj => bt_take _ _ _ hj
      have ea : acc (l.take 2) 32 1 = acc l 32 1 := by rw [acc_next, acc_next, acc_zero, acc_zero, z 0 (by omega), z 1 (by omega)]
      refine ⟨?_, .inr ?_⟩
      · show rdc (l.take 2) = _
        rw [rdc_C (by rw [z 0 (by omega)]; exact b) (by rw [z 0 (by omega)]; exact c), ea, z 1 (by omega), hlen 2 k.1, if_pos ⟨Nat.le_refl _, k.2⟩]
      · intro j hj
        have hj : j < 2 := hj
        obtain rfl | rfl : j = 0 ∨ j = 1 := by omega
        all_goals omega
    · rw [if_neg k] at q; rw [q] at h1; simp at h1
  rcases Nat.lt_or_ge (bt l 0) 240 with d | d
  · have q := rdc_D c d
    by_cases k : 3 ≤ l.length ∧ bt l 1 / 64 = 2 ∧ bt l 2 / 64 = 2 ∧ 2048 ≤ acc l 16 2 ∧ (acc l 16 2 < 55296 ∨ 57343 < acc l 16 2)
    · rw [if_pos k] at q
      rw [q]
      have z : ∀ j, j < 3 → bt (l.take 3) j = bt l j := fun j hj => bt_take _ _ _ hj
      have ea : acc (l.take 3) 16 2 = acc l 16 2 := by rw [acc_next, acc_next, acc_next, acc_next, acc_zero, acc_zero, z 0 (by omega), z 1 (by omega), z 2 (by omega)]
      refine ⟨?_, .inr ?_⟩
      · show rdc (l.take 3) = _
        rw [rdc_D (by rw [z 0 (by omega)]; exact c) (by rw [z 0 (by omega)]; exact d), ea, z 1 (by omega), z 2 (by omega), hlen 3 k.1, if_pos ⟨Nat.le_refl _, k.2⟩]
      · intro j hj
        have hj : j < 3 := hj
        obtain rfl | rfl | rfl : j = 0 ∨ j = 1 ∨ j = 2 := by omega
        all_goals omega
    · rw [if_neg k] at q; rw [q] at h1; simp at h1
  rcases Nat.lt_or_ge (bt l 0) 248 with f | f
  · have q := rdc_E d f
    by_cases k : 4 ≤ l.length ∧ bt l 1 / 64 = 2 ∧ bt l 2 / 64 = 2 ∧ bt l 3 / 64 = 2 ∧ 65536 ≤ acc l 8 3 ∧ acc l 8 3 ≤ 1114111
    · rw [if_pos k] at q
      rw [q]
      have z : ∀ j, j < 4 → bt (l.take 4) j = bt l j := fun j hj => bt_take _ _ _ hj
      have ea : acc (l.take 4) 8 3 = acc l 8 3 := by rw [acc_next, acc_next, acc_next, acc_next, acc_next, acc_next, acc_zero, acc_zero, z 0 (by omega), z 1 (by omega), z 2 (by omega), z 3 (by omega)]
      refine ⟨?_, .inr ?_⟩
      · show rdc (l.take 4) = _
        rw [rdc_E (by rw [z 0 (by omega)]; exact d) (by rw [z 0 (by omega)]; exact f), ea, z 1 (by omega), z 2 (by omega), z 3 (by omega), hlen 4 k.1, if_pos ⟨Nat.le_refl _, k.2⟩]
      · intro j hj
        have hj : j < 4 := hj
        obtain rfl | rfl | rfl | rfl : j = 0 ∨ j = 1 ∨ j = 2 ∨ j = 3 := by omega
        all_goals omega
    · rw [if_neg k] at q; rw [q] at h1; simp at h1
  · rw [rdc_B a (.inr f)] at h1; simp at h1
theorem okc_low {c : Nat} (h : okc c = true) : 32 ≤ c ∨ c = 9 ∨ c = 10 ∨ c = 13 := by
  rw [okc_eq] at h
  simp only [Bool.or_eq_true, Bool.and_eq_true, beq_iff_eq, decide_eq_true_eq] at h
  rcases h with ((h | h) | h) | ⟨⟨h, _⟩, _⟩
  · exact .inr (.inl h)
  · exact .inr (.inr (.inl h))
  · exact .inr (.inr (.inr h))
  · exact .inl h
/-- A text falls into its first character and the others. -/
theorem piece {l : List UInt8} (hl : l ≠ []) (hv : valid l = true) : ∃ p r, l = p ++ r ∧ r.length < l.length ∧ valid p = true ∧ valid r = true ∧
    ((∃ b, p = [b] ∧ b.toNat < 128 ∧ (32 ≤ b.toNat ∨ b = 9 ∨ b = 10 ∨ b = 13)) ∨ ∀ b ∈ p, 128 ≤ b.toNat) := by
  by_cases hz : (nx l).2 = 0
  · rw [valid_none (ch_bad hl hz)] at hv; cases hv
  obtain ⟨e, h1, h2⟩ := nx_some hz
  have hle := dc_le hl
  have hge := dc_ge1 l
  have hne : l.take (dc l).2 ≠ [] := by
    intro h0
    have h3 := congrArg List.length h0
    rw [List.length_take, List.length_nil, Nat.min_eq_left hle] at h3
    omega
  obtain ⟨ht, hb⟩ := rdc_take hl h1
  have hnx : nx (l.take (dc l).2) = nx l := by rw [rdc_next, ht, ← rdc_next]
  refine ⟨l.take (dc l).2, l.drop (dc l).2, (List.take_append_drop _ _).symm, by rw [List.length_drop]; omega, ?_, ?_, ?_⟩
  · refine valid_some (x := [(nx l).1]) ?_
    rw [ch_good hne (by rw [hnx]; exact hz), hnx, e, List.drop_eq_nil_of_le (by rw [List.length_take]; omega), ch_nil]
    rfl
  · rw [← e]
    have hc := ch_good hl hz
    cases hx : ch (l.drop (nx l).2) with
    | some x => exact valid_some hx
    | none => rw [hx] at hc; rw [valid_none hc] at hv; cases hv
  · rcases hb with ⟨k1, k2, k3⟩ | hb
    · left
      cases l with
      | nil => exact absurd rfl hl
      | cons b t =>
        refine ⟨b, by rw [k1]; rfl, ?_, ?_⟩
        · have : bt (b :: t) 0 = b.toNat := by rw [bt_def]; rfl
          omega
        · have : bt (b :: t) 0 = b.toNat := by rw [bt_def]; rfl
          have := okc_low h2
          rcases this with h | h | h | h
          · left; omega
          all_goals (right; simp only [← UInt8.toNat_inj]; first | (left; show b.toNat = 9; omega) | (right; left; show b.toNat = 10; omega) | (right; right; show b.toNat = 13; omega))
    · right
      intro b hbm
      obtain ⟨j, hj, rfl⟩ := List.mem_iff_getElem.1 hbm
      rw [List.length_take] at hj
      have := hb j (by omega)
      rw [← bt_take l _ j (by omega : j < (dc l).2), bt_def, List.getD_eq_getElem?_getD, List.getElem?_eq_getElem (by rw [List.length_take]; exact hj)] at this
      exact this
theorem esc_high : ∀ {l : List UInt8}, (∀ b ∈ l, 128 ≤ b.toNat) → esc l = l
  | [], _ => rfl
  | b :: t, h => by
    have hb := h b (by simp)
    have e : escB b = [b] := by
      unfold escB
      have n : ∀ c : UInt8, c.toNat < 128 → b ≠ c := fun c hc hbc => by rw [hbc] at hb; omega
      rw [if_neg (n _ (by decide)), if_neg (n _ (by decide)), if_neg (n _ (by decide)), if_neg (n _ (by decide)), if_neg (n _ (by decide)), if_neg (n _ (by decide)), if_neg (n _ (by decide)), if_neg (n _ (by decide))]
    rw [esc_cons, e, esc_high (fun d hd => h d (by simp [hd]))]
    rfl
theorem esc_one {b : UInt8} (hv : valid [b] = true) : valid (escB b) = true := by
  unfold escB
  split
  · decide +kernel
  split
  · decide +kernel
  split
  · decide +kernel
  split
  · decide +kernel
  split
  · decide +kernel
  split
  · decide +kernel
  split
  · decide +kernel
  split
  · decide +kernel
  · exact hv
theorem esc_valid : ∀ (k : Nat) (l : List UInt8), l.length ≤ k → valid l = true → valid (esc l) = true ∧ ∀ b ∈ l, 32 ≤ b.toNat ∨ b = 9 ∨ b = 10 ∨ b = 13
  | k, [], _, h => ⟨h, fun b hb => by cases hb⟩
  | 0, _ :: _, h, _ => by simp at h
  | k + 1, c :: t, hk, hv => by
    obtain ⟨p, r, e, hlt, vp, vr, hp⟩ := piece (l := c :: t) (by simp) hv
    have ih := esc_valid k r (by simp at hk hlt; omega) vr
    rw [e, esc_append]
    refine ⟨(valid_append ?_ ih.1).1, ?_⟩
    · rcases hp with ⟨b, rfl, _, _⟩ | hp
      · rw [esc_cons, esc_nil, List.append_nil]; exact esc_one vp
      · rw [esc_high hp]; exact vp
    · intro b hb
      rw [List.mem_append] at hb
      rcases hb with hb | hb
      · rcases hp with ⟨b', rfl, _, h2⟩ | hp
        · rw [List.mem_singleton] at hb; subst hb; exact h2
        · left; have := hp b hb; omega
      · exact ih.2 b hb
theorem esc_text {l : List UInt8} (h : valid l = true) : valid (esc l) = true ∧ (∀ c ∈ esc l, okb c = true) ∧ back (esc l) = some l :=
  ⟨(esc_valid _ l (Nat.le_refl _) h).1, esc_okb (esc_valid _ l (Nat.le_refl _) h).2, back_esc l⟩
end Go.Proofs.YtlpjealcmnnbnaaGreatDoor.Tx
