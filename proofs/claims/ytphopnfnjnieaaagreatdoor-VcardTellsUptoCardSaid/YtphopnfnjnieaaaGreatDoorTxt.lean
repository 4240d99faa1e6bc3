/- Texts laid together: Txt Enc Esc ChI -/
import Derived.Lib.DecodeN
import Derived.Lib.Strings
import Derived.WalkKit
/-
  PLAIN LISTS OF BYTES: the characters of a text as the document's words have them, over the model's own decoder. Nothing of any program.
-/
namespace Go.Proofs.YtphopnfnjnieaaaGreatDoor.Tx
open Go.Lib

/-- May the character stand in a text? -/
def okc (c : Nat) : Bool := c == 9 || c == 10 || c == 13 || (decide (32 ≤ c) && !(c == 65534) && !(c == 65535))

/-- The first character of a list of bytes and its width; (65533, 1) where none begins there. -/
def dc (l : List UInt8) : Nat × Nat := decodeN l.length (l.getD 0 0).toNat (l.getD 1 0).toNat (l.getD 2 0).toNat (l.getD 3 0).toNat

/-- The first character of a text; (0, 0) where there is none that may stand. -/
def nx (l : List UInt8) : Nat × Nat := if (dc l).1 == 65533 && (dc l).2 == 1 || !okc (dc l).1 then (0, 0) else dc l

/-- All characters; none where it is no text. -/
def chF : Nat → List UInt8 → Option (List Nat)
  | 0, l => if l = [] then some [] else none
  | f + 1, l => if l = [] then some [] else if (nx l).2 = 0 then none else (chF f (l.drop (nx l).2)).map ((nx l).1 :: ·)
def ch (l : List UInt8) : Option (List Nat) := chF l.length l

theorem decN_ge1 (n b0 b1 b2 b3 : Nat) : 1 ≤ (decodeN n b0 b1 b2 b3).2 := by
  unfold decodeN
  repeat' split
  all_goals simp
theorem decN_le4 (n b0 b1 b2 b3 : Nat) : (decodeN n b0 b1 b2 b3).2 ≤ 4 := by
  unfold decodeN
  repeat' split
  all_goals simp
theorem decN_le (n b0 b1 b2 b3 : Nat) (hn : 1 ≤ n) : (decodeN n b0 b1 b2 b3).2 ≤ n := by
  unfold decodeN
  repeat' split
  all_goals (simp only; omega)
theorem decN_rune (n b0 b1 b2 b3 : Nat) (_h0 : b0 < 256) : (decodeN n b0 b1 b2 b3).1 ≤ 1114111 := by
  unfold decodeN
  repeat' split
  all_goals (simp only; omega)
theorem decN_valid (n b0 b1 b2 b3 : Nat) (_h0 : b0 < 256) : (decodeN n b0 b1 b2 b3).1 < 55296 ∨ 57343 < (decodeN n b0 b1 b2 b3).1 := by
  unfold decodeN
  repeat' split
  all_goals (simp only; omega)
set_option maxHeartbeats 1000000 in
/-- What is right with fewer bytes behind it is right with more. -/
theorem decN_more (n m b0 b1 b2 b3 c1 c2 c3 : Nat) (_h0 : 1 ≤ n) (hm : n ≤ m) (h1 : 1 < n → c1 = b1) (h2 : 2 < n → c2 = b2) (h3 : 3 < n → c3 = b3)
    (hok : decodeN n b0 b1 b2 b3 ≠ (65533, 1)) : decodeN m b0 c1 c2 c3 = decodeN n b0 b1 b2 b3 := by
  by_cases a : b0 < 128
  · simp [decodeN, a]
  by_cases b : b0 / 32 = 6
  · by_cases k : 1 < n ∧ b1 / 64 = 2
    · have := h1 k.1; subst this
      have km : 1 < m ∧ c1 / 64 = 2 := ⟨by omega, k.2⟩
      simp only [decodeN, a, b, k, km, and_self, if_true, if_false]
    · exfalso; apply hok
      have e : b0 / 16 ≠ 14 := by omega
      have f : b0 / 8 ≠ 30 := by omega
      simp only [decodeN, a, b, k, e, f, and_false, false_and, if_false]
  by_cases c : b0 / 16 = 14
  · by_cases k : (1 < n ∧ b1 / 64 = 2) ∧ (2 < n ∧ b2 / 64 = 2)
    · have e1 := h1 k.1.1; subst e1
      have e2 := h2 k.2.1; subst e2
      have km : (1 < m ∧ c1 / 64 = 2) ∧ (2 < m ∧ c2 / 64 = 2) := ⟨⟨by omega, k.1.2⟩, by omega, k.2.2⟩
      simp only [decodeN, a, b, c, k, km, and_self, false_and, if_true, if_false]
    · exfalso; apply hok
      have f : b0 / 8 ≠ 30 := by omega
      simp only [decodeN, a, b, k, f, and_false, false_and, if_false]
  by_cases d : b0 / 8 = 30
  · by_cases k : (1 < n ∧ b1 / 64 = 2) ∧ (2 < n ∧ b2 / 64 = 2) ∧ (3 < n ∧ b3 / 64 = 2)
    · have e1 := h1 k.1.1; subst e1
      have e2 := h2 k.2.1.1; subst e2
      have e3 := h3 k.2.2.1; subst e3
      have km : (1 < m ∧ c1 / 64 = 2) ∧ (2 < m ∧ c2 / 64 = 2) ∧ (3 < m ∧ c3 / 64 = 2) := ⟨⟨by omega, k.1.2⟩, ⟨by omega, k.2.1.2⟩, by omega, k.2.2.2⟩
      simp only [decodeN, a, b, c, d, k, km, and_self, false_and, if_true, if_false]
    · exfalso; apply hok
      simp only [decodeN, a, b, c, k, and_false, false_and, if_false]
  · exfalso; apply hok
    simp only [decodeN, a, b, c, d, false_and, if_false]

theorem dc_ge1 (l : List UInt8) : 1 ≤ (dc l).2 := decN_ge1 _ _ _ _ _
theorem dc_le4 (l : List UInt8) : (dc l).2 ≤ 4 := decN_le4 _ _ _ _ _
theorem dc_le {l : List UInt8} (h : l ≠ []) : (dc l).2 ≤ l.length := decN_le _ _ _ _ _ (by cases l with | nil => exact absurd rfl h | cons => simp)
theorem dc_rune (l : List UInt8) : (dc l).1 ≤ 1114111 := decN_rune _ _ _ _ _ (UInt8.toNat_lt _)
theorem dc_valid (l : List UInt8) : (dc l).1 < 55296 ∨ 57343 < (dc l).1 := decN_valid _ _ _ _ _ (UInt8.toNat_lt _)

theorem nx_cases (l : List UInt8) : (nx l = (0, 0) ∧ ((dc l = (65533, 1)) ∨ okc (dc l).1 = false)) ∨ (nx l = dc l ∧ dc l ≠ (65533, 1) ∧ okc (dc l).1 = true) := by
  unfold nx
  by_cases h : ((dc l).1 == 65533 && (dc l).2 == 1 || !okc (dc l).1) = true
  · rw [if_pos h]
    refine .inl ⟨rfl, ?_⟩
    simp only [Bool.or_eq_true, Bool.and_eq_true, beq_iff_eq, Bool.not_eq_true'] at h
    rcases h with ⟨a, b⟩ | h
    · exact .inl (Prod.ext a b)
    · exact .inr h
  · rw [if_neg h]
    refine .inr ⟨rfl, ?_, ?_⟩
    · intro e; apply h; rw [e]; simp
    · cases hk : okc (dc l).1 with
      | true => rfl
      | false => exact absurd (by simp [hk]) h
theorem nx_some {l : List UInt8} (h : (nx l).2 ≠ 0) : nx l = dc l ∧ dc l ≠ (65533, 1) ∧ okc (dc l).1 = true := by
  rcases nx_cases l with ⟨e, _⟩ | h'
  · rw [e] at h; exact absurd rfl h
  · exact h'
theorem nx_none {l : List UInt8} (h : (nx l).2 = 0) : nx l = (0, 0) := by
  rcases nx_cases l with ⟨e, _⟩ | ⟨e, _⟩
  · exact e
  · rw [e] at h; have := dc_ge1 l; omega
theorem nx_le {l : List UInt8} (h : l ≠ []) : (nx l).2 ≤ l.length := by
  rcases nx_cases l with ⟨e, _⟩ | ⟨e, _⟩
  · rw [e]; simp
  · rw [e]; exact dc_le h
theorem nx_le4 (l : List UInt8) : (nx l).2 ≤ 4 := by
  rcases nx_cases l with ⟨e, _⟩ | ⟨e, _⟩
  · rw [e]; simp
  · rw [e]; exact dc_le4 l
theorem nx_rune (l : List UInt8) : (nx l).1 ≤ 1114111 := by
  rcases nx_cases l with ⟨e, _⟩ | ⟨e, _⟩
  · rw [e]; simp
  · rw [e]; exact dc_rune l

theorem chF_nil (f : Nat) : chF f [] = some [] := by cases f <;> rfl
theorem chF_succ (f : Nat) (l : List UInt8) : chF (f + 1) l = if l = [] then some [] else if (nx l).2 = 0 then none else (chF f (l.drop (nx l).2)).map ((nx l).1 :: ·) := rfl
theorem chF_enough : ∀ (f g : Nat) (l : List UInt8), l.length ≤ f → l.length ≤ g → chF f l = chF g l
  | f, g, [], _, _ => by rw [chF_nil, chF_nil]
  | 0, _, _ :: _, h, _ => by simp at h
  | _ + 1, 0, _ :: _, _, h => by simp at h
  | f + 1, g + 1, a :: l, hf, hg => by
    rw [chF_succ, chF_succ, if_neg (List.cons_ne_nil a l), if_neg (List.cons_ne_nil a l)]
    by_cases h : (nx (a :: l)).2 = 0
    · rw [if_pos h, if_pos h]
    · rw [if_neg h, if_neg h, chF_enough f g _ (by simp at hf ⊢; omega) (by simp at hg ⊢; omega)]
theorem ch_nil : ch [] = some [] := rfl
theorem ch_step {l : List UInt8} (hl : l ≠ []) : ch l = if (nx l).2 = 0 then none else (ch (l.drop (nx l).2)).map ((nx l).1 :: ·) := by
  cases l with
  | nil => exact absurd rfl hl
  | cons a t =>
    unfold ch
    rw [show (a :: t).length = t.length + 1 from rfl]
    rw [chF_succ, if_neg (by simp)]
    by_cases h : (nx (a :: t)).2 = 0
    · rw [if_pos h, if_pos h]
    · rw [if_neg h, if_neg h, chF_enough t.length _ _ (by simp; omega) (Nat.le_refl _)]
theorem ch_bad {l : List UInt8} (hl : l ≠ []) (h : (nx l).2 = 0) : ch l = none := by rw [ch_step hl, if_pos h]
theorem ch_good {l : List UInt8} (hl : l ≠ []) (h : (nx l).2 ≠ 0) : ch l = (ch (l.drop (nx l).2)).map ((nx l).1 :: ·) := by rw [ch_step hl, if_neg h]

theorem getD_app {a b : List UInt8} {i : Nat} (h : i < a.length) : (a ++ b).getD i 0 = a.getD i 0 := by
  simp [List.getD, List.getElem?_append, h]
theorem nx_app {a : List UInt8} (b : List UInt8) (ha : a ≠ []) (h : (nx a).2 ≠ 0) : nx (a ++ b) = nx a := by
  obtain ⟨e, h1, h2⟩ := nx_some h
  have hl : 1 ≤ a.length := by cases a with | nil => exact absurd rfl ha | cons => simp
  have hd : dc (a ++ b) = dc a := by
    unfold dc at h1 ⊢
    rw [getD_app (show 0 < a.length from hl)]
    exact decN_more _ _ _ _ _ _ _ _ _ hl (by simp) (fun hi => by rw [getD_app hi]) (fun hi => by rw [getD_app hi]) (fun hi => by rw [getD_app hi]) h1
  unfold nx
  rw [hd]
theorem ch_app : ∀ (n : Nat) (a b : List UInt8) (x : List Nat), a.length ≤ n → ch a = some x → ch (a ++ b) = (ch b).map (x ++ ·) := by
  intro n
  induction n with
  | zero =>
    intro a b x ha hx
    obtain rfl : a = [] := List.eq_nil_of_length_eq_zero (by omega)
    obtain rfl : [] = x := Option.some.inj hx
    show ch b = _
    cases ch b <;> rfl
  | succ n ih =>
    intro a b x ha hx
    by_cases hn : a = []
    · subst hn
      obtain rfl : [] = x := Option.some.inj hx
      show ch b = _
      cases ch b <;> rfl
    · by_cases h : (nx a).2 = 0
      · rw [ch_bad hn h] at hx; cases hx
      · rw [ch_good hn h] at hx
        have hle := nx_le hn
        rw [ch_good (by simp [hn]) (by rw [nx_app b hn h]; exact h), nx_app b hn h, List.drop_append_of_le_length hle]
        cases hy : ch (a.drop (nx a).2) with
        | none => rw [hy] at hx; cases hx
        | some y =>
          rw [hy] at hx
          obtain rfl : (nx a).1 :: y = x := Option.some.inj hx
          rw [ih (a.drop (nx a).2) b y (by rw [List.length_drop]; omega) hy]
          cases ch b <;> rfl
theorem ch_append {a b : List UInt8} {x : List Nat} (h : ch a = some x) : ch (a ++ b) = (ch b).map (x ++ ·) := ch_app _ a b x (Nat.le_refl _) h
theorem ch_length : ∀ (n : Nat) (a : List UInt8) (x : List Nat), a.length ≤ n → ch a = some x → x.length ≤ a.length := by
  intro n
  induction n with
  | zero =>
    intro a x ha hx
    obtain rfl : a = [] := List.eq_nil_of_length_eq_zero (by omega)
    obtain rfl : [] = x := Option.some.inj hx
    simp
  | succ n ih =>
    intro a x ha hx
    by_cases hn : a = []
    · subst hn
      obtain rfl : [] = x := Option.some.inj hx
      simp
    · by_cases h : (nx a).2 = 0
      · rw [ch_bad hn h] at hx; cases hx
      · rw [ch_good hn h] at hx
        have hle := nx_le hn
        cases hy : ch (a.drop (nx a).2) with
        | none => rw [hy] at hx; cases hx
        | some y =>
          rw [hy] at hx
          obtain rfl : (nx a).1 :: y = x := Option.some.inj hx
          have := ih _ y (by rw [List.length_drop]; omega) hy
          rw [List.length_drop] at this
          simp
          omega

/-- How many of the characters are below the blank. -/
def low (x : List Nat) : Nat := (x.filter (fun c => decide (c < 32))).length
theorem low_le (x : List Nat) : low x ≤ x.length := List.length_filter_le _ _
theorem low_snoc (x : List Nat) (c : Nat) : low (x ++ [c]) = if c < 32 then low x + 1 else low x := by
  unfold low
  rw [List.filter_append]
  by_cases h : c < 32 <;> simp [h]
/-- A line of at most so many characters. -/
def line (l : List UInt8) (most : Int) : Bool := match ch l with
  | some x => (low x == 0) && decide ((x.length : Int) ≤ most)
  | none => false
def valid (l : List UInt8) : Bool := (ch l).isSome
def runes (l : List UInt8) : List Nat := (ch l).getD []
theorem drop_ne {l : List UInt8} {k : Nat} (h : k < l.length) : l.drop k ≠ [] := by
  intro e
  have := congrArg List.length e
  rw [List.length_drop] at this
  simp at this
  omega
/-- What a loop over the characters knows at place k: x came ahead of it. -/
def At (l : List UInt8) (k : Nat) (x : List Nat) : Prop := k ≤ l.length ∧ x.length ≤ k ∧ ch l = (ch (l.drop k)).map (x ++ ·)
theorem At.start (l : List UInt8) : At l 0 [] := ⟨Nat.zero_le _, Nat.le_refl _, by rw [List.drop_zero]; cases ch l <;> rfl⟩
theorem At.stop {l : List UInt8} {x : List Nat} (h : At l l.length x) : ch l = some x := by
  have := h.2.2
  rw [List.drop_length, ch_nil] at this
  simpa using this
theorem At.next {l : List UInt8} {k : Nat} {x : List Nat} (h : At l k x) (hk : k < l.length) (hn : (nx (l.drop k)).2 ≠ 0) : At l (k + (nx (l.drop k)).2) (x ++ [(nx (l.drop k)).1]) := by
  have hne := drop_ne hk
  have h1 := nx_le hne
  rw [List.length_drop] at h1
  refine ⟨by omega, by have := h.2.1; simp; omega, ?_⟩
  rw [h.2.2, ch_good hne hn, List.drop_drop]
  cases ch (List.drop (k + (nx (List.drop k l)).2) l) <;> simp
theorem At.bad {l : List UInt8} {k : Nat} {x : List Nat} (h : At l k x) (hk : k < l.length) (hn : (nx (l.drop k)).2 = 0) : ch l = none := by
  rw [h.2.2, ch_bad (drop_ne hk) hn]
  rfl
theorem okc_eq (c : Nat) : okc c = (c == 9 || c == 10 || c == 13 || (decide (32 ≤ c) && !(c == 65534) && !(c == 65535))) := rfl
theorem dc_eq (l : List UInt8) : dc l = decodeN l.length (l.getD 0 0).toNat (l.getD 1 0).toNat (l.getD 2 0).toNat (l.getD 3 0).toNat := rfl
theorem nx_eq (l : List UInt8) : nx l = if (dc l).1 == 65533 && (dc l).2 == 1 || !okc (dc l).1 then (0, 0) else dc l := rfl
theorem low_nil : low [] = 0 := rfl
theorem low_def (x : List Nat) : low x = (x.filter (fun c => decide (c < 32))).length := rfl
/-! ### the document's own way: lead byte, then each further byte by itself -/
def bt (l : List UInt8) (j : Nat) : Nat := (l.getD j 0).toNat
theorem bt_lt (l : List UInt8) (j : Nat) : bt l j < 256 := UInt8.toNat_lt _
def acc (l : List UInt8) (M : Nat) : Nat → Nat
  | 0 => bt l 0 % M
  | k + 1 => acc l M k * 64 + bt l (k + 1) % 64
/-- the k bytes behind the lead are further ones -/
def Cont (l : List UInt8) (k : Nat) : Prop := ∀ j, 1 ≤ j → j < k → bt l j / 64 = 2
theorem Cont.one (l : List UInt8) : Cont l 1 := fun j h1 h2 => by omega
theorem Cont.next {l : List UInt8} {k : Nat} (h : Cont l k) (hk : bt l k / 64 = 2) : Cont l (k + 1) := fun j h1 h2 => by
  rcases Nat.lt_or_ge j k with h3 | h3
  · exact h j h1 h3
  · rw [show j = k by omega]; exact hk
/-- what is there, (0, 0) where nothing is -/
def rdc (l : List UInt8) : Nat × Nat := if dc l = (65533, 1) then (0, 0) else dc l
theorem dc_bt (l : List UInt8) : dc l = decodeN l.length (bt l 0) (bt l 1) (bt l 2) (bt l 3) := rfl
theorem rdc_of {l : List UInt8} {r : Nat × Nat} (h : decodeN l.length (bt l 0) (bt l 1) (bt l 2) (bt l 3) = r) (hr : r ≠ (65533, 1)) : rdc l = r := by
  unfold rdc; rw [dc_bt, h, if_neg hr]
theorem rdc_no {l : List UInt8} (h : decodeN l.length (bt l 0) (bt l 1) (bt l 2) (bt l 3) = (65533, 1)) : rdc l = (0, 0) := by
  unfold rdc; rw [dc_bt, h, if_pos rfl]
theorem rdc_A {l : List UInt8} (h : bt l 0 < 128) : rdc l = (bt l 0, 1) :=
  rdc_of (by unfold decodeN; rw [if_pos h]) (by intro e; have := congrArg Prod.fst e; simp at this; omega)
theorem rdc_B {l : List UInt8} (h : 128 ≤ bt l 0) (h2 : bt l 0 < 192 ∨ 248 ≤ bt l 0) : rdc l = (0, 0) := by
  have := bt_lt l 0
  exact rdc_no (by unfold decodeN; rw [if_neg (by omega), if_neg (by omega), if_neg (by omega), if_neg (by omega)])
theorem two_ne {c : Nat} : (c, 2) ≠ ((65533, 1) : Nat × Nat) := by intro e; have := congrArg Prod.snd e; simp at this
theorem three_ne {c : Nat} : (c, 3) ≠ ((65533, 1) : Nat × Nat) := by intro e; have := congrArg Prod.snd e; simp at this
theorem four_ne {c : Nat} : (c, 4) ≠ ((65533, 1) : Nat × Nat) := by intro e; have := congrArg Prod.snd e; simp at this
theorem rdc_C {l : List UInt8} (h : 192 ≤ bt l 0) (h2 : bt l 0 < 224) :
    rdc l = if 2 ≤ l.length ∧ bt l 1 / 64 = 2 ∧ 128 ≤ acc l 32 1 then (acc l 32 1, 2) else (0, 0) := by
  have e : acc l 32 1 = bt l 0 % 32 * 64 + bt l 1 % 64 := rfl
  split
  · rename_i k
    rw [e] at k ⊢
    exact rdc_of (by unfold decodeN; rw [if_neg (by omega), if_pos (by omega), if_pos (by omega)]) two_ne
  · rename_i k
    rw [e] at k
    refine rdc_no ?_
    unfold decodeN
    rw [if_neg (by omega)]
    by_cases k1 : bt l 0 / 32 = 6 ∧ (1 < l.length ∧ bt l 1 / 64 = 2)
    · rw [if_pos k1, if_neg (by omega)]
    · rw [if_neg k1, if_neg (by omega), if_neg (by omega)]
theorem rdc_D {l : List UInt8} (h : 224 ≤ bt l 0) (h2 : bt l 0 < 240) :
    rdc l = if 3 ≤ l.length ∧ bt l 1 / 64 = 2 ∧ bt l 2 / 64 = 2 ∧ 2048 ≤ acc l 16 2 ∧ (acc l 16 2 < 55296 ∨ 57343 < acc l 16 2) then (acc l 16 2, 3) else (0, 0) := by
  have e : acc l 16 2 = bt l 0 % 16 * 4096 + bt l 1 % 64 * 64 + bt l 2 % 64 := by show (bt l 0 % 16 * 64 + bt l 1 % 64) * 64 + bt l 2 % 64 = _; omega
  split
  · rename_i k
    rw [e] at k ⊢
    exact rdc_of (by unfold decodeN; rw [if_neg (by omega), if_neg (by omega), if_pos (by omega), if_pos (by omega)]) three_ne
  · rename_i k
    rw [e] at k
    refine rdc_no ?_
    unfold decodeN
    rw [if_neg (by omega), if_neg (by omega)]
    by_cases k1 : bt l 0 / 16 = 14 ∧ (1 < l.length ∧ bt l 1 / 64 = 2) ∧ (2 < l.length ∧ bt l 2 / 64 = 2)
    · rw [if_pos k1, if_neg (by omega)]
    · rw [if_neg k1, if_neg (by omega)]
theorem rdc_E {l : List UInt8} (h : 240 ≤ bt l 0) (h2 : bt l 0 < 248) :
    rdc l = if 4 ≤ l.length ∧ bt l 1 / 64 = 2 ∧ bt l 2 / 64 = 2 ∧ bt l 3 / 64 = 2 ∧ 65536 ≤ acc l 8 3 ∧ acc l 8 3 ≤ 1114111 then (acc l 8 3, 4) else (0, 0) := by
  have e : acc l 8 3 = bt l 0 % 8 * 262144 + bt l 1 % 64 * 4096 + bt l 2 % 64 * 64 + bt l 3 % 64 := by
    show ((bt l 0 % 8 * 64 + bt l 1 % 64) * 64 + bt l 2 % 64) * 64 + bt l 3 % 64 = _; omega
  split
  · rename_i k
    rw [e] at k ⊢
    exact rdc_of (by unfold decodeN; rw [if_neg (by omega), if_neg (by omega), if_neg (by omega), if_pos (by omega), if_pos (by omega)]) four_ne
  · rename_i k
    rw [e] at k
    refine rdc_no ?_
    unfold decodeN
    rw [if_neg (by omega), if_neg (by omega), if_neg (by omega)]
    by_cases k1 : bt l 0 / 8 = 30 ∧ (1 < l.length ∧ bt l 1 / 64 = 2) ∧ (2 < l.length ∧ bt l 2 / 64 = 2) ∧ (3 < l.length ∧ bt l 3 / 64 = 2)
    · rw [if_pos k1, if_neg (by omega)]
    · rw [if_neg k1]
/-- all three classes of more than one byte: n bytes, the lead's last M, and no less than least -/
def Lead (l : List UInt8) (n M least : Nat) : Prop :=
  (192 ≤ bt l 0 ∧ bt l 0 < 224 ∧ n = 2 ∧ M = 32 ∧ least = 128) ∨ (224 ≤ bt l 0 ∧ bt l 0 < 240 ∧ n = 3 ∧ M = 16 ∧ least = 2048) ∨ (240 ≤ bt l 0 ∧ bt l 0 < 248 ∧ n = 4 ∧ M = 8 ∧ least = 65536)
theorem acc_lt (l : List UInt8) (M : Nat) (hM : 0 < M) (hM2 : M ≤ 32) : acc l M 0 < 32 ∧ acc l M 1 < 2048 ∧ acc l M 2 < 131072 ∧ acc l M 3 < 8388608 := by
  have a0 : acc l M 0 = bt l 0 % M := rfl
  have a1 : acc l M 1 = acc l M 0 * 64 + bt l 1 % 64 := rfl
  have a2 : acc l M 2 = acc l M 1 * 64 + bt l 2 % 64 := rfl
  have a3 : acc l M 3 = acc l M 2 * 64 + bt l 3 % 64 := rfl
  have := Nat.mod_lt (bt l 0) hM
  omega
theorem rdc_short {l : List UInt8} {n M least : Nat} (h : Lead l n M least) (hs : l.length < n) : rdc l = (0, 0) := by
  rcases h with ⟨a, b, rfl, rfl, rfl⟩ | ⟨a, b, rfl, rfl, rfl⟩ | ⟨a, b, rfl, rfl, rfl⟩
  · rw [rdc_C a b, if_neg (by omega)]
  · rw [rdc_D a b, if_neg (by omega)]
  · rw [rdc_E a b, if_neg (by omega)]
theorem rdc_odd {l : List UInt8} {n M least k : Nat} (h : Lead l n M least) (h1 : 1 ≤ k) (h2 : k < n) (hk : bt l k / 64 ≠ 2) : rdc l = (0, 0) := by
  rcases h with ⟨a, b, rfl, rfl, rfl⟩ | ⟨a, b, rfl, rfl, rfl⟩ | ⟨a, b, rfl, rfl, rfl⟩
  · rw [rdc_C a b, if_neg]
    rintro ⟨_, c, _⟩
    obtain rfl : k = 1 := by omega
    exact hk c
  · rw [rdc_D a b, if_neg]
    rintro ⟨_, c, d, _⟩
    obtain rfl | rfl : k = 1 ∨ k = 2 := by omega
    · exact hk c
    · exact hk d
  · rw [rdc_E a b, if_neg]
    rintro ⟨_, c, d, e, _⟩
    obtain rfl | rfl | rfl : k = 1 ∨ k = 2 ∨ k = 3 := by omega
    · exact hk c
    · exact hk d
    · exact hk e
theorem rdc_end {l : List UInt8} {n M least : Nat} (h : Lead l n M least) (hs : n ≤ l.length) (hc : Cont l n) :
    rdc l = if least ≤ acc l M (n - 1) ∧ acc l M (n - 1) ≤ 1114111 ∧ (acc l M (n - 1) < 55296 ∨ 57343 < acc l M (n - 1)) then (acc l M (n - 1), n) else (0, 0) := by
  rcases h with ⟨a, b, rfl, rfl, rfl⟩ | ⟨a, b, rfl, rfl, rfl⟩ | ⟨a, b, rfl, rfl, rfl⟩
  · have := acc_lt l 32 (by omega) (by omega)
    have c1 := hc 1 (by omega) (by omega)
    rw [rdc_C a b, show (2 : Nat) - 1 = 1 from rfl]
    by_cases k : 128 ≤ acc l 32 1
    · rw [if_pos ⟨hs, c1, k⟩, if_pos ⟨k, by omega, by omega⟩]
    · rw [if_neg (fun h => k h.2.2), if_neg (fun h => k h.1)]
  · have := acc_lt l 16 (by omega) (by omega)
    have c1 := hc 1 (by omega) (by omega)
    have c2 := hc 2 (by omega) (by omega)
    rw [rdc_D a b, show (3 : Nat) - 1 = 2 from rfl]
    by_cases k : 2048 ≤ acc l 16 2 ∧ (acc l 16 2 < 55296 ∨ 57343 < acc l 16 2)
    · rw [if_pos ⟨hs, c1, c2, k⟩, if_pos ⟨k.1, by omega, k.2⟩]
    · rw [if_neg (fun h => k h.2.2.2), if_neg (fun h => k ⟨h.1, h.2.2⟩)]
  · have c1 := hc 1 (by omega) (by omega)
    have c2 := hc 2 (by omega) (by omega)
    have c3 := hc 3 (by omega) (by omega)
    rw [rdc_E a b, show (4 : Nat) - 1 = 3 from rfl]
    by_cases k : 65536 ≤ acc l 8 3 ∧ acc l 8 3 ≤ 1114111
    · rw [if_pos ⟨hs, c1, c2, c3, k⟩, if_pos ⟨k.1, k.2, .inr (by show 57343 < acc l 8 3; omega)⟩]
    · rw [if_neg (fun h => k h.2.2.2.2), if_neg (fun h => k ⟨h.1, h.2.1⟩)]
theorem rdc_next (l : List UInt8) : nx l = if (rdc l).2 = 0 || !okc (rdc l).1 then (0, 0) else rdc l := by
  unfold rdc nx
  by_cases h : dc l = (65533, 1)
  · rw [if_pos h, h]; rfl
  · rw [if_neg h]
    have h1 := dc_ge1 l
    have h2 : ((dc l).1 == 65533 && (dc l).2 == 1) = false := by
      cases e : ((dc l).1 == 65533 && (dc l).2 == 1) with
      | false => rfl
      | true => exfalso; apply h; simp only [Bool.and_eq_true, beq_iff_eq] at e; exact Prod.ext e.1 e.2
    have h3 : decide ((dc l).2 = 0) = false := by simp; omega
    rw [h2, h3]
theorem acc_zero (l : List UInt8) (M : Nat) : acc l M 0 = bt l 0 % M := rfl
theorem acc_next (l : List UInt8) (M k : Nat) : acc l M (k + 1) = acc l M k * 64 + bt l (k + 1) % 64 := rfl
theorem Lead.bound {l : List UInt8} {n M least : Nat} (h : Lead l n M least) (k : Nat) (hk : k < 4) : acc l M k < 8388608 := by
  have hM : 0 < M ∧ M ≤ 32 := by rcases h with ⟨_, _, _, rfl, _⟩ | ⟨_, _, _, rfl, _⟩ | ⟨_, _, _, rfl, _⟩ <;> omega
  have := acc_lt l M hM.1 hM.2
  obtain rfl | rfl | rfl | rfl : k = 0 ∨ k = 1 ∨ k = 2 ∨ k = 3 := by omega
  all_goals omega
theorem bt_drop (l : List UInt8) (i j : Nat) (h : i + j < l.length) : bt (l.drop i) j = (l[i + j]'h).toNat := by
  unfold bt
  simp [List.getD, List.getElem?_drop, List.getElem?_eq_getElem h]
theorem lead_def {l : List UInt8} {n M least : Nat} : Lead l n M least ↔ (192 ≤ bt l 0 ∧ bt l 0 < 224 ∧ n = 2 ∧ M = 32 ∧ least = 128) ∨ (224 ≤ bt l 0 ∧ bt l 0 < 240 ∧ n = 3 ∧ M = 16 ∧ least = 2048) ∨ (240 ≤ bt l 0 ∧ bt l 0 < 248 ∧ n = 4 ∧ M = 8 ∧ least = 65536) := Iff.rfl
theorem rdc_bound (l : List UInt8) : (rdc l).1 ≤ 1114111 ∧ (rdc l).2 ≤ 4 ∧ ((rdc l).1 < 55296 ∨ 57343 < (rdc l).1) := by
  unfold rdc
  split
  · simp
  · exact ⟨dc_rune l, dc_le4 l, dc_valid l⟩
theorem valid_some {l : List UInt8} {x : List Nat} (h : ch l = some x) : valid l = true := by unfold valid; rw [h]; rfl
theorem valid_none {l : List UInt8} (h : ch l = none) : valid l = false := by unfold valid; rw [h]; rfl
theorem runes_some {l : List UInt8} {x : List Nat} (h : ch l = some x) : runes l = x := by unfold runes; rw [h]; rfl
theorem runes_none {l : List UInt8} (h : ch l = none) : runes l = [] := by unfold runes; rw [h]; rfl
theorem line_some {l : List UInt8} {x : List Nat} (h : ch l = some x) (most : Int) : line l most = ((low x == 0) && decide ((x.length : Int) ≤ most)) := by unfold line; rw [h]
theorem line_none {l : List UInt8} (h : ch l = none) (most : Int) : line l most = false := by unfold line; rw [h]
theorem runes_length (l : List UInt8) : (runes l).length ≤ l.length := by
  cases h : ch l with
  | none => rw [runes_none h]; simp
  | some x => rw [runes_some h]; exact ch_length _ _ _ (Nat.le_refl _) h
/-! ### two texts, one behind the other -/
theorem valid_runes {l : List UInt8} (h : valid l = true) : ch l = some (runes l) := by
  cases hc : ch l with
  | none => rw [valid_none hc] at h; cases h
  | some x => rw [runes_some hc]
theorem valid_append {a b : List UInt8} (ha : valid a = true) (hb : valid b = true) : valid (a ++ b) = true ∧ runes (a ++ b) = runes a ++ runes b := by
  have h := ch_append (b := b) (valid_runes ha)
  rw [valid_runes hb] at h
  exact ⟨valid_some h, runes_some h⟩
theorem bad_valid {a b : List UInt8} (ha : valid a = true) (c : UInt8) (hc : 128 ≤ c.toNat) : valid (a ++ [c] ++ [120] ++ b) = false := by
  have e : a ++ [c] ++ [120] ++ b = a ++ (c :: 120 :: b) := by simp
  rw [e]
  have hn : nx (c :: 120 :: b) = (0, 0) := by
    unfold nx
    have hd : dc (c :: 120 :: b) = (65533, 1) := by
      rw [dc_bt]
      have b0 : bt (c :: 120 :: b) 0 = c.toNat := rfl
      have b1 : bt (c :: 120 :: b) 1 = 120 := rfl
      rw [b0, b1]
      unfold decodeN
      rw [if_neg (by omega), if_neg (by omega), if_neg (by omega), if_neg (by omega)]
    rw [hd]
    rfl
  have h := ch_append (b := c :: 120 :: b) (valid_runes ha)
  rw [ch_bad (l := c :: 120 :: b) (by simp) (by rw [hn])] at h
  exact valid_none h
theorem bt_def (l : List UInt8) (j : Nat) : bt l j = (l.getD j 0).toNat := rfl
theorem ch_fffd : ch [239, 191, 189] = some [65533] := by decide
theorem ch_a : ch [97] = some [97] := by decide
theorem ch_ab : ch [97, 98] = some [97, 98] := by decide
theorem ch_a_b : ch [97, 32, 98] = some [97, 32, 98] := by decide
theorem low_a_b : low [97, 32, 98] = 0 := by decide
attribute [irreducible] bt acc Cont rdc Lead
attribute [irreducible] valid runes line
attribute [irreducible] okc dc nx ch low At
end Go.Proofs.YtphopnfnjnieaaaGreatDoor.Tx
/-
  A CHARACTER's BYTES, as Go writes it: they are read as that character, and no piece of them is. Nothing of any program.
-/
namespace Go.Proofs.YtphopnfnjnieaaaGreatDoor.Tx
open Go.Lib

/-- The bytes of a character that can be written. -/
def encB (c : Nat) : List UInt8 :=
  if c < 128 then [UInt8.ofNat c] else if c < 2048 then [UInt8.ofNat (192 + c / 64), UInt8.ofNat (128 + c % 64)]
  else if c < 65536 then [UInt8.ofNat (224 + c / 4096), UInt8.ofNat (128 + c / 64 % 64), UInt8.ofNat (128 + c % 64)]
  else [UInt8.ofNat (240 + c / 262144), UInt8.ofNat (128 + c / 4096 % 64), UInt8.ofNat (128 + c / 64 % 64), UInt8.ofNat (128 + c % 64)]
theorem encB_eq (r : Int) (c : Nat) (hc : (if Utf8.valid r then r.toNat else Utf8.runeError) = c) : (Utf8.encode r).data.toList = encB c := by
  unfold Utf8.encode encB
  simp only [hc]
  split
  · rfl
  · split
    · rfl
    · split <;> rfl
/-- May Go write it? -/
def sane (n : Nat) : Prop := n < 55296 ∨ (57343 < n ∧ n ≤ 1114111)
instance (n : Nat) : Decidable (sane n) := by unfold sane; exact inferInstance
/-- The bytes of a character, as Go writes it. -/
def enc (n : Nat) : List UInt8 := if sane n then encB n else [239, 191, 189]
theorem sane_valid {n : Nat} (h : sane n) : Utf8.valid (n : Int) = true := by
  unfold sane at h
  unfold Utf8.valid
  rw [Bool.or_eq_true, Bool.and_eq_true, Bool.and_eq_true]
  rcases h with h | h
  · exact .inl ⟨decide_eq_true (by omega), decide_eq_true (by omega)⟩
  · exact .inr ⟨decide_eq_true (by omega), decide_eq_true (by omega)⟩
theorem insane_valid {n : Nat} (h : ¬ sane n) : Utf8.valid (n : Int) = false := by
  unfold sane at h
  unfold Utf8.valid
  rw [Bool.or_eq_false_iff, Bool.and_eq_false_iff, Bool.and_eq_false_iff]
  refine ⟨.inr (decide_eq_false (by omega)), ?_⟩
  rcases Nat.lt_or_ge n 57344 with h1 | h1
  · exact .inl (decide_eq_false (by omega))
  · exact .inr (decide_eq_false (by omega))
theorem toNat_of (k : Nat) (h : k < 256) : (UInt8.ofNat k).toNat = k := by
  rw [UInt8.toNat_ofNat']
  exact Nat.mod_eq_of_lt h
theorem pickT {b : Bool} (h : b = true) {x y : Nat} : (if b = true then x else y) = x := by subst h; rfl
theorem pickF {b : Bool} (h : b = false) {x y : Nat} : (if b = true then x else y) = y := by subst h; rfl
theorem fffd : encB 65533 = [239, 191, 189] := by decide
theorem enc_sane {n : Nat} (h : sane n) : enc n = encB n := if_pos h
theorem enc_bad {n : Nat} (h : ¬ sane n) : enc n = [239, 191, 189] := if_neg h
/-- It is the model's own. -/
theorem enc_model (n : Nat) : (Utf8.encode (n : Int)).data.toList = enc n := by
  by_cases h : sane n
  · rw [enc_sane h]
    exact encB_eq _ _ ((pickT (sane_valid h)).trans (Int.toNat_natCast n))
  · rw [enc_bad h, ← fffd]
    exact encB_eq _ _ (pickF (insane_valid h))
theorem enc_cases {n : Nat} (h : sane n) :
    (n < 128 ∧ enc n = [UInt8.ofNat n]) ∨ (128 ≤ n ∧ n < 2048 ∧ enc n = [UInt8.ofNat (192 + n / 64), UInt8.ofNat (128 + n % 64)]) ∨
    (2048 ≤ n ∧ n < 65536 ∧ enc n = [UInt8.ofNat (224 + n / 4096), UInt8.ofNat (128 + n / 64 % 64), UInt8.ofNat (128 + n % 64)]) ∨
    (65536 ≤ n ∧ n ≤ 1114111 ∧ enc n = [UInt8.ofNat (240 + n / 262144), UInt8.ofNat (128 + n / 4096 % 64), UInt8.ofNat (128 + n / 64 % 64), UInt8.ofNat (128 + n % 64)]) := by
  rw [enc_sane h]
  unfold sane at h
  unfold encB
  by_cases h1 : n < 128
  · left; exact ⟨h1, if_pos h1⟩
  by_cases h2 : n < 2048
  · right; left; exact ⟨by omega, h2, by rw [if_neg h1, if_pos h2]⟩
  by_cases h3 : n < 65536
  · right; right; left; exact ⟨by omega, h3, by rw [if_neg h1, if_neg h2, if_pos h3]⟩
  · right; right; right; exact ⟨by omega, by omega, by rw [if_neg h1, if_neg h2, if_neg h3]⟩
theorem dc_enc {n : Nat} (h : sane n) : dc (enc n) = (n, (enc n).length) := by
  have hs := h
  unfold sane at hs
  rw [dc_bt]
  rcases enc_cases h with ⟨a, e⟩ | ⟨a, b, e⟩ | ⟨a, b, e⟩ | ⟨a, b, e⟩ <;> rw [e]
  · have b0 : bt [UInt8.ofNat n] 0 = n := by rw [bt_def]; exact toNat_of _ (by omega)
    rw [b0]
    unfold decodeN
    rw [if_pos a]
    rfl
  · have b0 : bt [UInt8.ofNat (192 + n / 64), UInt8.ofNat (128 + n % 64)] 0 = 192 + n / 64 := by rw [bt_def]; exact toNat_of _ (by omega)
    have b1 : bt [UInt8.ofNat (192 + n / 64), UInt8.ofNat (128 + n % 64)] 1 = 128 + n % 64 := by rw [bt_def]; exact toNat_of _ (by omega)
    rw [b0, b1]
    unfold decodeN
    simp only [List.length_cons, List.length_nil]
    rw [if_neg (by omega), if_pos (by omega), if_pos (by omega)]
    refine Prod.ext ?_ rfl
    simp only
    omega
  · have b0 : bt [UInt8.ofNat (224 + n / 4096), UInt8.ofNat (128 + n / 64 % 64), UInt8.ofNat (128 + n % 64)] 0 = 224 + n / 4096 := by rw [bt_def]; exact toNat_of _ (by omega)
    have b1 : bt [UInt8.ofNat (224 + n / 4096), UInt8.ofNat (128 + n / 64 % 64), UInt8.ofNat (128 + n % 64)] 1 = 128 + n / 64 % 64 := by rw [bt_def]; exact toNat_of _ (by omega)
    have b2 : bt [UInt8.ofNat (224 + n / 4096), UInt8.ofNat (128 + n / 64 % 64), UInt8.ofNat (128 + n % 64)] 2 = 128 + n % 64 := by rw [bt_def]; exact toNat_of _ (by omega)
    rw [b0, b1, b2]
    unfold decodeN
    simp only [List.length_cons, List.length_nil]
    rw [if_neg (by omega), if_neg (by omega), if_pos (by omega), if_pos (by omega)]
    refine Prod.ext ?_ rfl
    simp only
    omega
  · have b0 : bt [UInt8.ofNat (240 + n / 262144), UInt8.ofNat (128 + n / 4096 % 64), UInt8.ofNat (128 + n / 64 % 64), UInt8.ofNat (128 + n % 64)] 0 = 240 + n / 262144 := by rw [bt_def]; exact toNat_of _ (by omega)
    have b1 : bt [UInt8.ofNat (240 + n / 262144), UInt8.ofNat (128 + n / 4096 % 64), UInt8.ofNat (128 + n / 64 % 64), UInt8.ofNat (128 + n % 64)] 1 = 128 + n / 4096 % 64 := by rw [bt_def]; exact toNat_of _ (by omega)
    have b2 : bt [UInt8.ofNat (240 + n / 262144), UInt8.ofNat (128 + n / 4096 % 64), UInt8.ofNat (128 + n / 64 % 64), UInt8.ofNat (128 + n % 64)] 2 = 128 + n / 64 % 64 := by rw [bt_def]; exact toNat_of _ (by omega)
    have b3 : bt [UInt8.ofNat (240 + n / 262144), UInt8.ofNat (128 + n / 4096 % 64), UInt8.ofNat (128 + n / 64 % 64), UInt8.ofNat (128 + n % 64)] 3 = 128 + n % 64 := by rw [bt_def]; exact toNat_of _ (by omega)
    rw [b0, b1, b2, b3]
    unfold decodeN
    simp only [List.length_cons, List.length_nil]
    rw [if_neg (by omega), if_neg (by omega), if_neg (by omega), if_pos (by omega), if_pos (by omega)]
    refine Prod.ext ?_ rfl
    simp only
    omega
theorem enc_len {n : Nat} : 1 ≤ (enc n).length ∧ (enc n).length ≤ 4 := by
  by_cases h : sane n
  · rcases enc_cases h with ⟨_, e⟩ | ⟨_, _, e⟩ | ⟨_, _, e⟩ | ⟨_, _, e⟩ <;> rw [e] <;> simp
  · rw [enc_bad h]; simp
theorem enc_ne (n : Nat) : enc n ≠ [] := by
  intro e
  have := (enc_len (n := n)).1
  rw [e] at this
  simp at this
theorem enc_big {n : Nat} (h : sane n) (hn : 128 ≤ n) : 2 ≤ (enc n).length := by
  rcases enc_cases h with ⟨_, e⟩ | ⟨_, _, e⟩ | ⟨_, _, e⟩ | ⟨_, _, e⟩ <;> first | omega | (rw [e]; simp)
theorem nx_enc {n : Nat} (h : sane n) (hk : okc n = true) : nx (enc n) = (n, (enc n).length) := by
  rw [nx_eq, dc_enc h, hk]
  have : (n == 65533 && (enc n).length == 1) = false := by
    cases e : (n == 65533 && (enc n).length == 1) with
    | false => rfl
    | true =>
      exfalso
      simp only [Bool.and_eq_true, beq_iff_eq] at e
      have := enc_big h (by omega)
      omega
  simp only [this]
  rfl
theorem ch_enc {n : Nat} (h : sane n) (hk : okc n = true) : ch (enc n) = some [n] := by
  have e := nx_enc h hk
  have := (enc_len (n := n)).1
  have h2 : (nx (enc n)).2 ≠ 0 := by rw [e]; intro h0; simp only at h0; omega
  rw [ch_good (enc_ne n) h2, e]
  simp only
  rw [List.drop_length, ch_nil]
  rfl
theorem ch_enc_not {n : Nat} (h : sane n) (hk : okc n = false) : ch (enc n) = none := by
  refine ch_bad (enc_ne n) ?_
  rw [nx_eq, dc_enc h, hk]
  simp
theorem ch_cut {n : Nat} (h : sane n) (k : Nat) (h1 : 1 ≤ k) (h2 : k < (enc n).length) : ch ((enc n).take k) = none := by
  have hs := h
  unfold sane at hs
  have key : ∀ l : List UInt8, l ≠ [] → dc l = (65533, 1) → ch l = none := fun l hl hd => ch_bad hl (by rw [nx_eq, hd]; rfl)
  rcases enc_cases h with ⟨a, e⟩ | ⟨a, b, e⟩ | ⟨a, b, e⟩ | ⟨a, b, e⟩ <;> rw [e] at h2 ⊢
  · simp at h2; omega
  · simp at h2
    obtain rfl : k = 1 := by omega
    refine key _ (by simp) ?_
    rw [dc_bt]
    have b0 : bt (List.take 1 [UInt8.ofNat (192 + n / 64), UInt8.ofNat (128 + n % 64)]) 0 = 192 + n / 64 := by rw [bt_def]; exact toNat_of _ (by omega)
    rw [b0]
    unfold decodeN
    simp only [List.length_take, List.length_cons, List.length_nil]
    rw [if_neg (by omega), if_neg (by omega), if_neg (by omega), if_neg (by omega)]
  · simp at h2
    refine key _ (by obtain rfl | rfl : k = 1 ∨ k = 2 := by omega
                     all_goals simp) ?_
    rw [dc_bt]
    have b0 : bt (List.take k [UInt8.ofNat (224 + n / 4096), UInt8.ofNat (128 + n / 64 % 64), UInt8.ofNat (128 + n % 64)]) 0 = 224 + n / 4096 := by
      obtain rfl | rfl : k = 1 ∨ k = 2 := by omega
      all_goals (rw [bt_def]; exact toNat_of _ (by omega))
    rw [b0]
    unfold decodeN
    simp only [List.length_take, List.length_cons, List.length_nil]
    rw [if_neg (by omega), if_neg (by omega), if_neg (by omega), if_neg (by omega)]
  · simp at h2
    refine key _ (by obtain rfl | rfl | rfl : k = 1 ∨ k = 2 ∨ k = 3 := by omega
                     all_goals simp) ?_
    rw [dc_bt]
    have b0 : bt (List.take k [UInt8.ofNat (240 + n / 262144), UInt8.ofNat (128 + n / 4096 % 64), UInt8.ofNat (128 + n / 64 % 64), UInt8.ofNat (128 + n % 64)]) 0 = 240 + n / 262144 := by
      obtain rfl | rfl | rfl : k = 1 ∨ k = 2 ∨ k = 3 := by omega
      all_goals (rw [bt_def]; exact toNat_of _ (by omega))
    rw [b0]
    unfold decodeN
    simp only [List.length_take, List.length_cons, List.length_nil]
    rw [if_neg (by omega), if_neg (by omega), if_neg (by omega), if_neg (by omega)]
theorem ch_enc_insane {n : Nat} (h : ¬ sane n) : ch (enc n) = some [65533] := by
  rw [enc_bad h]
  exact ch_fffd
theorem low_one (n : Nat) : low [n] = if n < 32 then 1 else 0 := by
  have := low_snoc [] n
  rw [low_nil] at this
  exact this
attribute [irreducible] enc
end Go.Proofs.YtphopnfnjnieaaaGreatDoor.Tx
/-
  ESCAPES over plain lists of bytes, as the document's words have them: a text escaped, and back; what is escaped comes back. Nothing of any program.
-/
namespace Go.Proofs.YtphopnfnjnieaaaGreatDoor.Tx
open Go.Lib

/-- A byte, escaped. -/
def escB (b : UInt8) : List UInt8 :=
  if b = 38 then [38, 97, 109, 112, 59] else if b = 60 then [38, 108, 116, 59] else if b = 62 then [38, 103, 116, 59]
  else if b = 34 then [38, 113, 117, 111, 116, 59] else if b = 39 then [38, 97, 112, 111, 115, 59]
  else if b = 9 then [38, 35, 57, 59] else if b = 10 then [38, 35, 49, 48, 59] else if b = 13 then [38, 35, 49, 51, 59] else [b]
/-- A text, escaped. -/
def esc : List UInt8 → List UInt8
  | [] => []
  | c :: t => escB c ++ esc t
theorem esc_nil : esc [] = [] := rfl
theorem esc_cons (c : UInt8) (t : List UInt8) : esc (c :: t) = escB c ++ esc t := rfl
theorem esc_append : ∀ a b : List UInt8, esc (a ++ b) = esc a ++ esc b
  | [], b => rfl
  | c :: a, b => by rw [List.cons_append, esc_cons, esc_cons, esc_append a b, List.append_assoc]
theorem escB_len (b : UInt8) : (escB b).length ≤ 6 := by
  unfold escB
  repeat' split
  all_goals simp
theorem esc_len : ∀ l : List UInt8, (esc l).length ≤ 6 * l.length
  | [] => Nat.le_refl _
  | c :: t => by rw [esc_cons, List.length_append, List.length_cons]; have := escB_len c; have := esc_len t; omega

/-- A digit's number; 99: none. -/
def dg (c : Nat) : Nat := if 48 ≤ c ∧ c ≤ 57 then c - 48 else if 97 ≤ c ∧ c ≤ 102 then c - 87 else if 65 ≤ c ∧ c ≤ 70 then c - 55 else 99
/-- Digits' number. -/
def numF (base : Nat) : Nat → List UInt8 → Option Nat
  | v, [] => some v
  | v, c :: t => if base ≤ dg c.toNat then none else numF base (v * base + dg c.toNat) t
def num (base most : Nat) (l : List UInt8) : Option Nat := if l = [] ∨ most < l.length then none else numF base 0 l
/-- May the character of this number stand in a text? -/
def good (v : Nat) : Bool := decide (sane v) && okc v
def keep (o : Option Nat) : Option Nat := match o with
  | some v => if good v then some v else none
  | none => none
/-- What stands for a name between "&" and ";". -/
def ent (l : List UInt8) : Option Nat :=
  if l = [97, 109, 112] then some 38 else if l = [108, 116] then some 60 else if l = [103, 116] then some 62
  else if l = [113, 117, 111, 116] then some 34 else if l = [97, 112, 111, 115] then some 39
  else match l with
    | 35 :: 120 :: t => keep (num 16 6 t)
    | 35 :: t => keep (num 10 7 t)
    | _ => none
/-- What is ahead of the first ";", and what is behind it. -/
def cutS : List UInt8 → Option (List UInt8 × List UInt8)
  | [] => none
  | c :: t => if c = 59 then some ([], t) else (cutS t).map fun p => (c :: p.1, p.2)
theorem cutS_len : ∀ {l n r : List UInt8}, cutS l = some (n, r) → r.length < l.length
  | [], n, r, h => by cases h
  | c :: t, n, r, h => by
    unfold cutS at h
    split at h
    · cases h; simp
    · cases e : cutS t with
      | none => rw [e] at h; cases h
      | some p =>
        rw [e] at h
        obtain ⟨n', r'⟩ := p
        cases h
        have := cutS_len e
        simp; omega
/-- An escaped text as it was. -/
def backF : Nat → List UInt8 → Option (List UInt8)
  | 0, l => if l = [] then some [] else none
  | _ + 1, [] => some []
  | f + 1, c :: t => if c = 60 then none else if c = 38 then
      match cutS t with
      | none => none
      | some p => match ent p.1 with
        | none => none
        | some v => (backF f p.2).map (enc v ++ ·)
    else (backF f t).map (c :: ·)
def back (l : List UInt8) : Option (List UInt8) := backF l.length l
theorem backF_enough : ∀ (f g : Nat) (l : List UInt8), l.length ≤ f → l.length ≤ g → backF f l = backF g l
  | 0, 0, l, _, _ => rfl
  | 0, g + 1, [], _, _ => rfl
  | f + 1, 0, [], _, _ => rfl
  | f + 1, g + 1, [], _, _ => rfl
  | 0, _, _ :: _, h, _ => by simp at h
  | _ + 1, 0, _ :: _, _, h => by simp at h
  | f + 1, g + 1, c :: t, hf, hg => by
    unfold backF
    by_cases h1 : c = 60
    · rw [if_pos h1, if_pos h1]
    · rw [if_neg h1, if_neg h1]
      by_cases h2 : c = 38
      · rw [if_pos h2, if_pos h2]
        cases e : cutS t with
        | none => rfl
        | some p =>
          obtain ⟨n, r⟩ := p
          have := cutS_len e
          simp only [List.length_cons] at hf hg
          simp only
          rw [backF_enough f g r (by omega) (by omega)]
      · rw [if_neg h2, if_neg h2, backF_enough f g t (by simpa using hf) (by simpa using hg)]
theorem back_nil : back [] = some [] := rfl
theorem back_lt (t : List UInt8) : back (60 :: t) = none := rfl
theorem back_plain {c : UInt8} (t : List UInt8) (h1 : c ≠ 60) (h2 : c ≠ 38) : back (c :: t) = (back t).map (c :: ·) := by
  unfold back
  rw [List.length_cons]
  show (if c = 60 then none else if c = 38 then _ else _) = _
  rw [if_neg h1, if_neg h2]
theorem back_amp (t : List UInt8) : back (38 :: t) = match cutS t with
      | none => none
      | some p => match ent p.1 with
        | none => none
        | some v => (back p.2).map (enc v ++ ·) := by
  unfold back
  rw [List.length_cons]
  show (if (38 : UInt8) = 60 then none else if (38 : UInt8) = 38 then _ else _) = _
  rw [if_neg (by decide), if_pos rfl]
  cases e : cutS t with
  | none => rfl
  | some p =>
    obtain ⟨n, r⟩ := p
    have := cutS_len e
    simp only
    rw [backF_enough t.length r.length r (by omega) (Nat.le_refl _)]
theorem back_amp_none {t : List UInt8} (h : cutS t = none) : back (38 :: t) = none := by rw [back_amp, h]
theorem back_amp_bad {t n r : List UInt8} (h : cutS t = some (n, r)) (h2 : ent n = none) : back (38 :: t) = none := by rw [back_amp, h]; simp only; rw [h2]
theorem back_amp_some {t n r : List UInt8} {v : Nat} (h : cutS t = some (n, r)) (h2 : ent n = some v) : back (38 :: t) = (back r).map (enc v ++ ·) := by rw [back_amp, h]; simp only; rw [h2]
theorem back_plains : ∀ (p t : List UInt8), (∀ c ∈ p, c ≠ 60 ∧ c ≠ 38) → back (p ++ t) = (back t).map (p ++ ·)
  | [], t, _ => by rw [List.nil_append]; cases back t <;> rfl
  | c :: p, t, h => by
    rw [List.cons_append, back_plain _ (h c (by simp)).1 (h c (by simp)).2, back_plains p t (fun d hd => h d (by simp [hd]))]
    cases back t <;> rfl
/-! ### ahead of the first ";" -/
theorem cutS_at : ∀ (l : List UInt8) (e : Nat), (∀ j, j < e → l.getD j 0 ≠ 59) → l[e]? = some 59 → cutS l = some (l.take e, l.drop (e + 1))
  | [], e, _, h => by simp at h
  | c :: t, 0, _, h => by
    have : c = 59 := by simpa using h
    subst this
    rfl
  | c :: t, e + 1, hj, h => by
    have h0 : c ≠ 59 := by have := hj 0 (by omega); simpa using this
    unfold cutS
    rw [if_neg h0, cutS_at t e (fun j hj' => by have := hj (j + 1) (by omega); simpa using this) (by simpa using h)]
    rfl
theorem cutS_not : ∀ (l : List UInt8), (∀ j, j < l.length → l.getD j 0 ≠ 59) → cutS l = none
  | [], _ => rfl
  | c :: t, hj => by
    have h0 : c ≠ 59 := by have := hj 0 (by simp); simpa using this
    unfold cutS
    rw [if_neg h0, cutS_not t (fun j hj' => by have := hj (j + 1) (by simp; omega); simpa using this)]
    rfl
theorem cutS_mem : ∀ (l : List UInt8), 59 ∉ l → cutS l = none
  | [], _ => rfl
  | c :: t, hj => by
    unfold cutS
    rw [if_neg (fun h => hj (by simp [h])), cutS_mem t (fun h => hj (by simp [h]))]
    rfl
theorem cutS_mem_at : ∀ (n r : List UInt8), 59 ∉ n → cutS (n ++ 59 :: r) = some (n, r)
  | [], _, _ => rfl
  | c :: t, r, hj => by
    rw [List.cons_append]
    unfold cutS
    rw [if_neg (fun h => hj (by simp [h])), cutS_mem_at t r (fun h => hj (by simp [h]))]
    rfl
/-! ### two texts, one behind the other -/
theorem cutS_app : ∀ {a n r : List UInt8} (b : List UInt8), cutS a = some (n, r) → cutS (a ++ b) = some (n, r ++ b)
  | [], n, r, b, h => by cases h
  | c :: t, n, r, b, h => by
    rw [List.cons_append]
    unfold cutS at h ⊢
    by_cases h0 : c = 59
    · rw [if_pos h0] at h ⊢; cases h; rfl
    · rw [if_neg h0] at h ⊢
      cases e : cutS t with
      | none => rw [e] at h; cases h
      | some p =>
        rw [e] at h
        obtain ⟨n', r'⟩ := p
        cases h
        rw [cutS_app b e]
        rfl
theorem back_app : ∀ (k : Nat) (a b x : List UInt8), a.length ≤ k → back a = some x → back (a ++ b) = (back b).map (x ++ ·)
  | k, [], b, x, _, h => by
    obtain rfl : [] = x := Option.some.inj h
    rw [List.nil_append]; cases back b <;> rfl
  | 0, _ :: _, _, _, h, _ => by simp at h
  | k + 1, c :: t, b, x, hk, h => by
    rw [List.cons_append]
    by_cases h1 : c = 60
    · subst h1; rw [back_lt] at h; cases h
    by_cases h2 : c = 38
    · subst h2
      cases e : cutS t with
      | none => rw [back_amp_none e] at h; cases h
      | some p =>
        obtain ⟨n, r⟩ := p
        cases e2 : ent n with
        | none => rw [back_amp_bad e e2] at h; cases h
        | some v =>
          have hl := cutS_len e
          rw [back_amp_some e e2] at h
          rw [back_amp_some (cutS_app b e) e2]
          cases e3 : back r with
          | none => rw [e3] at h; cases h
          | some y =>
            rw [e3] at h
            obtain rfl : enc v ++ y = x := Option.some.inj h
            rw [back_app k r b y (by simp at hk; omega) e3]
            cases back b <;> simp
    · rw [back_plain _ h1 h2] at h ⊢
      cases e3 : back t with
      | none => rw [e3] at h; cases h
      | some y =>
        rw [e3] at h
        obtain rfl : c :: y = x := Option.some.inj h
        rw [back_app k t b y (by simpa using hk) e3]
        cases back b <;> simp
theorem back_append {a x : List UInt8} (b : List UInt8) (h : back a = some x) : back (a ++ b) = (back b).map (x ++ ·) := back_app _ a b x (Nat.le_refl _) h
/-! ### what is escaped comes back -/
theorem ent_amp : ent [97, 109, 112] = some 38 := by decide +kernel
theorem ent_lt : ent [108, 116] = some 60 := by decide +kernel
theorem ent_gt : ent [103, 116] = some 62 := by decide +kernel
theorem ent_quot : ent [113, 117, 111, 116] = some 34 := by decide +kernel
theorem ent_apos : ent [97, 112, 111, 115] = some 39 := by decide +kernel
theorem ent_9 : ent [35, 57] = some 9 := by decide +kernel
theorem ent_10 : ent [35, 49, 48] = some 10 := by decide +kernel
theorem ent_13 : ent [35, 49, 51] = some 13 := by decide +kernel
theorem enc_low {n : Nat} (h : n < 128) : enc n = [UInt8.ofNat n] := by
  rcases enc_cases (n := n) (by unfold sane; omega) with ⟨_, e⟩ | ⟨a, _⟩ | ⟨a, _⟩ | ⟨a, _⟩
  · exact e
  all_goals omega
theorem back_escB (b : UInt8) (r : List UInt8) : back (escB b ++ r) = (back r).map (b :: ·) := by
  unfold escB
  split
  · rename_i h; subst h
    rw [show [38, 97, 109, 112, 59] ++ r = 38 :: ([97, 109, 112] ++ 59 :: r) from rfl, back_amp_some (cutS_mem_at _ _ (by decide)) ent_amp, enc_low (by decide)]; rfl
  split
  · rename_i h; subst h
    rw [show [38, 108, 116, 59] ++ r = 38 :: ([108, 116] ++ 59 :: r) from rfl, back_amp_some (cutS_mem_at _ _ (by decide)) ent_lt, enc_low (by decide)]; rfl
  split
  · rename_i h; subst h
    rw [show [38, 103, 116, 59] ++ r = 38 :: ([103, 116] ++ 59 :: r) from rfl, back_amp_some (cutS_mem_at _ _ (by decide)) ent_gt, enc_low (by decide)]; rfl
  split
  · rename_i h; subst h
    rw [show [38, 113, 117, 111, 116, 59] ++ r = 38 :: ([113, 117, 111, 116] ++ 59 :: r) from rfl, back_amp_some (cutS_mem_at _ _ (by decide)) ent_quot, enc_low (by decide)]; rfl
  split
  · rename_i h; subst h
    rw [show [38, 97, 112, 111, 115, 59] ++ r = 38 :: ([97, 112, 111, 115] ++ 59 :: r) from rfl, back_amp_some (cutS_mem_at _ _ (by decide)) ent_apos, enc_low (by decide)]; rfl
  split
  · rename_i h; subst h
    rw [show [38, 35, 57, 59] ++ r = 38 :: ([35, 57] ++ 59 :: r) from rfl, back_amp_some (cutS_mem_at _ _ (by decide)) ent_9, enc_low (by decide)]; rfl
  split
  · rename_i h; subst h
    rw [show [38, 35, 49, 48, 59] ++ r = 38 :: ([35, 49, 48] ++ 59 :: r) from rfl, back_amp_some (cutS_mem_at _ _ (by decide)) ent_10, enc_low (by decide)]; rfl
  split
  · rename_i h; subst h
    rw [show [38, 35, 49, 51, 59] ++ r = 38 :: ([35, 49, 51] ++ 59 :: r) from rfl, back_amp_some (cutS_mem_at _ _ (by decide)) ent_13, enc_low (by decide)]; rfl
  · rename_i h1 h2 _ _ _ _ _ _
    exact back_plain r h2 h1
theorem back_esc : ∀ l : List UInt8, back (esc l) = some l
  | [] => rfl
  | c :: t => by rw [esc_cons, back_escB, back_esc t]; rfl
/-- bytes that may stand -/
def okb (b : UInt8) : Bool := !(b == 60 || b == 62 || b == 34 || b == 39 || decide (b.toNat < 32))
theorem escB_okb {b : UInt8} (h : 32 ≤ b.toNat ∨ b = 9 ∨ b = 10 ∨ b = 13) : ∀ c ∈ escB b, okb c = true := by
  unfold escB
  split
  · decide
  split
  · decide
  split
  · decide
  split
  · decide
  split
  · decide
  split
  · decide
  split
  · decide
  split
  · decide
  · rename_i h1 h2 h3 h4 h5 h6 h7 h8
    intro c hc
    obtain rfl : c = b := by simpa using hc
    have h32 : ¬ c.toNat < 32 := by rcases h with h | h | h | h <;> first | omega | exact absurd h ‹_›
    unfold okb
    simp [h2, h3, h4, h5, h32]
theorem esc_okb : ∀ {l : List UInt8}, (∀ b ∈ l, 32 ≤ b.toNat ∨ b = 9 ∨ b = 10 ∨ b = 13) → ∀ c ∈ esc l, okb c = true
  | [], _, c, hc => by cases hc
  | b :: t, h, c, hc => by
    rw [esc_cons, List.mem_append] at hc
    rcases hc with hc | hc
    · exact escB_okb (h b (by simp)) c hc
    · exact esc_okb (fun d hd => h d (by simp [hd])) c hc
/-! ### an escaped text is a text -/
theorem bt_take (l : List UInt8) (k j : Nat) (h : j < k) : bt (l.take k) j = bt l j := by
  rw [bt_def, bt_def, List.getD_eq_getElem?_getD, List.getD_eq_getElem?_getD, List.getElem?_take_of_lt h]
theorem rdc_dc {l : List UInt8} (h : dc l ≠ (65533, 1)) : rdc l = dc l := by unfold rdc; rw [if_neg h]
/-- The bytes of one character: it may be cut out; it is one byte below 128, or all its bytes are above. -/
theorem rdc_take {l : List UInt8} (hl : l ≠ []) (h : dc l ≠ (65533, 1)) :
    rdc (l.take (dc l).2) = rdc l ∧ (((dc l).2 = 1 ∧ bt l 0 < 128 ∧ (dc l).1 = bt l 0) ∨ ∀ j, j < (dc l).2 → 128 ≤ bt l j) := by
  have e := rdc_dc h
  have h1 := dc_ge1 l
  have hle := dc_le hl
  have hlen : ∀ k, k ≤ l.length → (l.take k).length = k := fun k hk => by rw [List.length_take]; omega
  rw [← e] at h1 hle ⊢
  rcases Nat.lt_or_ge (bt l 0) 128 with a | a
  · rw [rdc_A a] at hle ⊢
    refine ⟨?_, .inl ⟨rfl, a, rfl⟩⟩
    rw [rdc_A (by rw [bt_take _ _ _ (by simp)]; exact a), bt_take _ _ _ (by simp)]
  rcases Nat.lt_or_ge (bt l 0) 192 with b | b
  · rw [rdc_B a (.inl b)] at h1; simp at h1
  rcases Nat.lt_or_ge (bt l 0) 224 with c | c
  · have q := rdc_C b c
    by_cases k : 2 ≤ l.length ∧ bt l 1 / 64 = 2 ∧ 128 ≤ acc l 32 1
    · rw [if_pos k] at q
      rw [q]
      have z : ∀ j, j < 2 → bt (l.take 2) j = bt l j := fun j hj => bt_take _ _ _ hj
      have ea : acc (l.take 2) 32 1 = acc l 32 1 := by rw [acc_next, acc_next, acc_zero, acc_zero, z 0 (by omega), z 1 (by omega)]
      refine ⟨?_, .inr ?_⟩
      · show rdc (l.take 2) = _
        rw [rdc_C (by rw [z 0 (by omega)]; exact b) (by rw [z 0 (by omega)]; exact c), ea, z 1 (by omega), hlen 2 k.1, if_pos ⟨Nat.le_refl _, k.2⟩]
      · intro j hj
        have hj : j < 2 := hj
        obtain rfl | rfl : j = 0 ∨ j = 1 := by omega
        all_goals omega
    · rw [if_neg k] at q; rw [q] at h1; simp at h1
  rcases Nat.lt_or_ge (bt l 0) 240 with d | d
  · have q := rdc_D c d
    by_cases k : 3 ≤ l.length ∧ bt l 1 / 64 = 2 ∧ bt l 2 / 64 = 2 ∧ 2048 ≤ acc l 16 2 ∧ (acc l 16 2 < 55296 ∨ 57343 < acc l 16 2)
    · rw [if_pos k] at q
      rw [q]
      have z : ∀ j, j < 3 → bt (l.take 3) j = bt l j := fun j hj => bt_take _ _ _ hj
      have ea : acc (l.take 3) 16 2 = acc l 16 2 := by rw [acc_next, acc_next, acc_next, acc_next, acc_zero, acc_zero, z 0 (by omega), z 1 (by omega), z 2 (by omega)]
      refine ⟨?_, .inr ?_⟩
      · show rdc (l.take 3) = _
        rw [rdc_D (by rw [z 0 (by omega)]; exact c) (by rw [z 0 (by omega)]; exact d), ea, z 1 (by omega), z 2 (by omega), hlen 3 k.1, if_pos ⟨Nat.le_refl _, k.2⟩]
      · intro j hj
        have hj : j < 3 := hj
        obtain rfl | rfl | rfl : j = 0 ∨ j = 1 ∨ j = 2 := by omega
        all_goals omega
    · rw [if_neg k] at q; rw [q] at h1; simp at h1
  rcases Nat.lt_or_ge (bt l 0) 248 with f | f
  · have q := rdc_E d f
    by_cases k : 4 ≤ l.length ∧ bt l 1 / 64 = 2 ∧ bt l 2 / 64 = 2 ∧ bt l 3 / 64 = 2 ∧ 65536 ≤ acc l 8 3 ∧ acc l 8 3 ≤ 1114111
    · rw [if_pos k] at q
      rw [q]
      have z : ∀ j, j < 4 → bt (l.take 4) j = bt l j := fun j hj => bt_take _ _ _ hj
      have ea : acc (l.take 4) 8 3 = acc l 8 3 := by rw [acc_next, acc_next, acc_next, acc_next, acc_next, acc_next, acc_zero, acc_zero, z 0 (by omega), z 1 (by omega), z 2 (by omega), z 3 (by omega)]
      refine ⟨?_, .inr ?_⟩
      · show rdc (l.take 4) = _
        rw [rdc_E (by rw [z 0 (by omega)]; exact d) (by rw [z 0 (by omega)]; exact f), ea, z 1 (by omega), z 2 (by omega), z 3 (by omega), hlen 4 k.1, if_pos ⟨Nat.le_refl _, k.2⟩]
      · intro j hj
        have hj : j < 4 := hj
        obtain rfl | rfl | rfl | rfl : j = 0 ∨ j = 1 ∨ j = 2 ∨ j = 3 := by omega
        all_goals omega
    · rw [if_neg k] at q; rw [q] at h1; simp at h1
  · rw [rdc_B a (.inr f)] at h1; simp at h1
theorem okc_low {c : Nat} (h : okc c = true) : 32 ≤ c ∨ c = 9 ∨ c = 10 ∨ c = 13 := by
  rw [okc_eq] at h
  simp only [Bool.or_eq_true, Bool.and_eq_true, beq_iff_eq, decide_eq_true_eq] at h
  rcases h with ((h | h) | h) | ⟨⟨h, _⟩, _⟩
  · exact .inr (.inl h)
  · exact .inr (.inr (.inl h))
  · exact .inr (.inr (.inr h))
  · exact .inl h
/-- A text falls into its first character and the others. -/
theorem piece {l : List UInt8} (hl : l ≠ []) (hv : valid l = true) : ∃ p r, l = p ++ r ∧ r.length < l.length ∧ valid p = true ∧ valid r = true ∧
    ((∃ b, p = [b] ∧ b.toNat < 128 ∧ (32 ≤ b.toNat ∨ b = 9 ∨ b = 10 ∨ b = 13)) ∨ ∀ b ∈ p, 128 ≤ b.toNat) := by
  by_cases hz : (nx l).2 = 0
  · rw [valid_none (ch_bad hl hz)] at hv; cases hv
  obtain ⟨e, h1, h2⟩ := nx_some hz
  have hle := dc_le hl
  have hge := dc_ge1 l
  have hne : l.take (dc l).2 ≠ [] := by
    intro h0
    have h3 := congrArg List.length h0
    rw [List.length_take, List.length_nil, Nat.min_eq_left hle] at h3
    omega
  obtain ⟨ht, hb⟩ := rdc_take hl h1
  have hnx : nx (l.take (dc l).2) = nx l := by rw [rdc_next, ht, ← rdc_next]
  refine ⟨l.take (dc l).2, l.drop (dc l).2, (List.take_append_drop _ _).symm, by rw [List.length_drop]; omega, ?_, ?_, ?_⟩
  · refine valid_some (x := [(nx l).1]) ?_
    rw [ch_good hne (by rw [hnx]; exact hz), hnx, e, List.drop_eq_nil_of_le (by rw [List.length_take]; omega), ch_nil]
    rfl
  · rw [← e]
    have hc := ch_good hl hz
    cases hx : ch (l.drop (nx l).2) with
    | some x => exact valid_some hx
    | none => rw [hx] at hc; rw [valid_none hc] at hv; cases hv
  · rcases hb with ⟨k1, k2, k3⟩ | hb
    · left
      cases l with
      | nil => exact absurd rfl hl
      | cons b t =>
        refine ⟨b, by rw [k1]; rfl, ?_, ?_⟩
        · have : bt (b :: t) 0 = b.toNat := by rw [bt_def]; rfl
          omega
        · have : bt (b :: t) 0 = b.toNat := by rw [bt_def]; rfl
          have := okc_low h2
          rcases this with h | h | h | h
          · left; omega
          all_goals (right; simp only [← UInt8.toNat_inj]; first | (left; show b.toNat = 9; omega) | (right; left; show b.toNat = 10; omega) | (right; right; show b.toNat = 13; omega))
    · right
      intro b hbm
      obtain ⟨j, hj, rfl⟩ := List.mem_iff_getElem.1 hbm
      rw [List.length_take] at hj
      have := hb j (by omega)
      rw [← bt_take l _ j (by omega : j < (dc l).2), bt_def, List.getD_eq_getElem?_getD, List.getElem?_eq_getElem (by rw [List.length_take]; exact hj)] at this
      exact this
theorem esc_high : ∀ {l : List UInt8}, (∀ b ∈ l, 128 ≤ b.toNat) → esc l = l
  | [], _ => rfl
  | b :: t, h => by
    have hb := h b (by simp)
    have e : escB b = [b] := by
      unfold escB
      have n : ∀ c : UInt8, c.toNat < 128 → b ≠ c := fun c hc hbc => by rw [hbc] at hb; omega
      rw [if_neg (n _ (by decide)), if_neg (n _ (by decide)), if_neg (n _ (by decide)), if_neg (n _ (by decide)), if_neg (n _ (by decide)), if_neg (n _ (by decide)), if_neg (n _ (by decide)), if_neg (n _ (by decide))]
    rw [esc_cons, e, esc_high (fun d hd => h d (by simp [hd]))]
    rfl
theorem esc_one {b : UInt8} (hv : valid [b] = true) : valid (escB b) = true := by
  unfold escB
  split
  · decide +kernel
  split
  · decide +kernel
  split
  · decide +kernel
  split
  · decide +kernel
  split
  · decide +kernel
  split
  · decide +kernel
  split
  · decide +kernel
  split
  · decide +kernel
  · exact hv
theorem esc_valid : ∀ (k : Nat) (l : List UInt8), l.length ≤ k → valid l = true → valid (esc l) = true ∧ ∀ b ∈ l, 32 ≤ b.toNat ∨ b = 9 ∨ b = 10 ∨ b = 13
  | k, [], _, h => ⟨h, fun b hb => by cases hb⟩
  | 0, _ :: _, h, _ => by simp at h
  | k + 1, c :: t, hk, hv => by
    obtain ⟨p, r, e, hlt, vp, vr, hp⟩ := piece (l := c :: t) (by simp) hv
    have ih := esc_valid k r (by simp at hk hlt; omega) vr
    rw [e, esc_append]
    refine ⟨(valid_append ?_ ih.1).1, ?_⟩
    · rcases hp with ⟨b, rfl, _, _⟩ | hp
      · rw [esc_cons, esc_nil, List.append_nil]; exact esc_one vp
      · rw [esc_high hp]; exact vp
    · intro b hb
      rw [List.mem_append] at hb
      rcases hb with hb | hb
      · rcases hp with ⟨b', rfl, _, h2⟩ | hp
        · rw [List.mem_singleton] at hb; subst hb; exact h2
        · left; have := hp b hb; omega
      · exact ih.2 b hb
theorem esc_text {l : List UInt8} (h : valid l = true) : valid (esc l) = true ∧ (∀ c ∈ esc l, okb c = true) ∧ back (esc l) = some l :=
  ⟨(esc_valid _ l (Nat.le_refl _) h).1, esc_okb (esc_valid _ l (Nat.le_refl _) h).2, back_esc l⟩
end Go.Proofs.YtphopnfnjnieaaaGreatDoor.Tx
/-
  Whether a number is a character that may be, asked as integers are.
-/
namespace Go.Proofs.YtphopnfnjnieaaaGreatDoor
open Tx

def charI (c : Int) : Bool := c == 9 || c == 10 || c == 13 || (decide (32 ≤ c) && decide (c < 55296)) || (decide (57343 < c) && decide (c < 65534)) || (decide (65535 < c) && decide (c ≤ 1114111))
theorem charI_nat (c : Nat) (h : c ≤ 1114111) (h2 : c < 55296 ∨ 57343 < c) : charI c = okc c := by
  rw [okc_eq]
  unfold charI
  rw [Bool.eq_iff_iff]
  simp
  omega
end Go.Proofs.YtphopnfnjnieaaaGreatDoor
