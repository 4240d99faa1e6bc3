import Derived.Lib.DecodeN
import Derived.Lib.Strings
/- what is reached of it -/
namespace Go.Proofs.YtbgaglcgennhiaaGreatDoor.Tx
open Go.Lib
/-- May the character stand in a text? -/
def okc (c : Nat) : Bool := c == 9 || c == 10 || c == 13 || (decide (32 ≤ c) && !(c == 65534) && !(c == 65535))

/-- The first character of a list of bytes and its width; (65533, 1) where none begins there. -/
def dc (l : List UInt8) : Nat × Nat := decodeN l.length (l.getD 0 0).toNat (l.getD 1 0).toNat (l.getD 2 0).toNat (l.getD 3 0).toNat

/-- The first character of a text; (0, 0) where there is none that may stand. -/
def nx (l : List UInt8) : Nat × Nat := if (dc l).1 == 65533 && (dc l).2 == 1 || !okc (dc l).1 then (0, 0) else dc l

/-- All characters; none where it is no text. -/
def chF : Nat → List UInt8 → Option (List Nat)
  | 0, l => if l = [] then some [] else none
  | f + 1, l => if l = [] then some [] else if (nx l).2 = 0 then none else (chF f (l.drop (nx l).2)).map ((nx l).1 :: ·)
def ch (l : List UInt8) : Option (List Nat) := chF l.length l

theorem decN_ge1 (n b0 b1 b2 b3 : Nat) : 1 ≤ (decodeN n b0 b1 b2 b3).2 := by
  unfold decodeN
  repeat' split
  all_goals simp
theorem decN_le4 (n b0 b1 b2 b3 : Nat) : (decodeN n b0 b1 b2 b3).2 ≤ 4 := by
  unfold decodeN
  repeat' split
  all_goals simp
theorem decN_le (n b0 b1 b2 b3 : Nat) (hn : 1 ≤ n) : (decodeN n b0 b1 b2 b3).2 ≤ n := by
  unfold decodeN
  repeat' split
  all_goals (simp only; omega)
theorem decN_rune (n b0 b1 b2 b3 : Nat) (_h0 : b0 < 256) : (decodeN n b0 b1 b2 b3).1 ≤ 1114111 := by
  unfold decodeN
  repeat' split
  all_goals (simp only; omega)
theorem decN_valid (n b0 b1 b2 b3 : Nat) (_h0 : b0 < 256) : (decodeN n b0 b1 b2 b3).1 < 55296 ∨ 57343 < (decodeN n b0 b1 b2 b3).1 := by
  unfold decodeN
  repeat' split
  all_goals (simp only; omega)
set_option maxHeartbeats 1000000 in
/-- What is right with fewer bytes behind it is right with more. -/
theorem decN_more (n m b0 b1 b2 b3 c1 c2 c3 : Nat) (_h0 : 1 ≤ n) (hm : n ≤ m) (h1 : 1 < n → c1 = b1) (h2 : 2 < n → c2 = b2) (h3 : 3 < n → c3 = b3)
    (hok : decodeN n b0 b1 b2 b3 ≠ (65533, 1)) : decodeN m b0 c1 c2 c3 = decodeN n b0 b1 b2 b3 := by
  by_cases a : b0 < 128
  · simp [decodeN, a]
  by_cases b : b0 / 32 = 6
  · by_cases k : 1 < n ∧ b1 / 64 = 2
    · have := h1 k.1; subst this
      have km : 1 < m ∧ c1 / 64 = 2 := ⟨by omega, k.2⟩
      simp only [decodeN, a, b, k, km, and_self, if_true, if_false]
    · exfalso; apply hok
      have e : b0 / 16 ≠ 14 := by omega
      have f : b0 / 8 ≠ 30 := by omega
      simp only [decodeN, a, b, k, e, f, and_false, false_and, if_false]
  by_cases c : b0 / 16 = 14
  · by_cases k : (1 < n ∧ b1 / 64 = 2) ∧ (2 < n ∧ b2 / 64 = 2)
    · have e1 := h1 k.1.1; subst e1
      have e2 := h2 k.2.1; subst e2
      have km : (1 < m ∧ c1 / 64 = 2) ∧ (2 < m ∧ c2 / 64 = 2) := ⟨⟨by omega, k.1.2⟩, by omega, k.2.2⟩
      simp only [decodeN, a, b, c, k, km, and_self, false_and, if_true, if_false]
    · exfalso; apply hok
      have f : b0 / 8 ≠ 30 := by omega
      simp only [decodeN, a, b, k, f, and_false, false_and, if_false]
  by_cases d : b0 / 8 = 30
  · by_cases k : (1 < n ∧ b1 / 64 = 2) ∧ (2 < n ∧ b2 / 64 = 2) ∧ (3 < n ∧ b3 / 64 = 2)
    · have e1 := h1 k.1.1; subst e1
      have e2 := h2 k.2.1.1; subst e2
      have e3 := h3 k.2.2.1; subst e3
      have km : (1 < m ∧ c1 / 64 = 2) ∧ (2 < m ∧ c2 / 64 = 2) ∧ (3 < m ∧ c3 / 64 = 2) := ⟨⟨by omega, k.1.2⟩, ⟨by omega, k.2.1.2⟩, by omega, k.2.2.2⟩
      simp only [decodeN, a, b, c, d, k, km, and_self, false_and, if_true, if_false]
    · exfalso; apply hok
      simp only [decodeN, a, b, c, k, and_false, false_and, if_false]
  · exfalso; apply hok
    simp only [decodeN, a, b, c, d, false_and, if_false]

theorem dc_ge1 (l : List UInt8) : 1 ≤ (dc l).2 := decN_ge1 _ _ _ _ _
theorem dc_le4 (l : List UInt8) : (dc l).2 ≤ 4 := decN_le4 _ _ _ _ _
theorem dc_le {l : List UInt8} (h : l ≠ []) : (dc l).2 ≤ l.length := decN_le _ _ _ _ _ (by cases l with | nil => exact absurd rfl h | cons => simp)
theorem dc_rune (l : List UInt8) : (dc l).1 ≤ 1114111 := decN_rune _ _ _ _ _ (UInt8.toNat_lt _)
theorem dc_valid (l : List UInt8) : (dc l).1 < 55296 ∨ 57343 < (dc l).1 := decN_valid _ _ _ _ _ (UInt8.toNat_lt _)

theorem nx_cases (l : List UInt8) : (nx l = (0, 0) ∧ ((dc l = (65533, 1)) ∨ okc (dc l).1 = false)) ∨ (nx l = dc l ∧ dc l ≠ (65533, 1) ∧ okc (dc l).1 = true) := by
  unfold nx
  by_cases h : ((dc l).1 == 65533 && (dc l).2 == 1 || !okc (dc l).1) = true
  · rw [if_pos h]
    refine .inl ⟨rfl, ?_⟩
    simp only [Bool.or_eq_true, Bool.and_eq_true, beq_iff_eq, Bool.not_eq_true'] at h
    rcases h with ⟨a, b⟩ | h
    · exact .inl (Prod.ext a b)
    · exact .inr h
  · rw [if_neg h]
    refine .inr ⟨rfl, ?_, ?_⟩
    · intro e; apply h; rw [e]; simp
    · cases hk : okc (dc l).1 with
      | true => rfl
      | false => exact absurd (by simp [hk]) h
theorem nx_some {l : List UInt8} (h : (nx l).2 ≠ 0) : nx l = dc l ∧ dc l ≠ (65533, 1) ∧ okc (dc l).1 = true := by
  rcases nx_cases l with ⟨e, _⟩ | h'
  · rw [e] at h; exact absurd rfl h
  · exact h'
theorem nx_none {l : List UInt8} (h : (nx l).2 = 0) : nx l = (0, 0) := by
  rcases nx_cases l with ⟨e, _⟩ | ⟨e, _⟩
  · exact e
  · rw [e] at h; have := dc_ge1 l; omega
theorem nx_le {l : List UInt8} (h : l ≠ []) : (nx l).2 ≤ l.length := by
  rcases nx_cases l with ⟨e, _⟩ | ⟨e, _⟩
  · rw [e]; simp
  · rw [e]; exact dc_le h
theorem nx_le4 (l : List UInt8) : (nx l).2 ≤ 4 := by
  rcases nx_cases l with ⟨e, _⟩ | ⟨e, _⟩
  · rw [e]; simp
  · rw [e]; exact dc_le4 l
theorem nx_rune (l : List UInt8) : (nx l).1 ≤ 1114111 := by
  rcases nx_cases l with ⟨e, _⟩ | ⟨e, _⟩
  · rw [e]; simp
  · rw [e]; exact dc_rune l

theorem chF_nil (f : Nat) : chF f [] = some [] := by cases f <;> rfl
theorem chF_succ (f : Nat) (l : List UInt8) : chF (f + 1) l = if l = [] then some [] else if (nx l).2 = 0 then none else (chF f (l.drop (nx l).2)).map ((nx l).1 :: ·) := rfl
theorem chF_enough : ∀ (f g : Nat) (l : List UInt8), l.length ≤ f → l.length ≤ g → chF f l = chF g l
  | f, g, [], _, _ => by rw [chF_nil, chF_nil]
  | 0, _, _ :: _, h, _ => by simp at h
  | _ + 1, 0, _ :: _, _, h => by simp at h
  | f + 1, g + 1, a :: l, hf, hg => by
    rw [chF_succ, chF_succ, if_neg (List.cons_ne_nil a l), if_neg (List.cons_ne_nil a l)]
    by_cases h : (nx (a :: l)).2 = 0
    · rw [if_pos h, if_pos h]
    · rw [if_neg h, if_neg h, chF_enough f g _ (by simp at hf ⊢; omega) (by simp at hg ⊢; omega)]
theorem ch_nil : ch [] = some [] := rfl
theorem ch_step {l : List UInt8} (hl : l ≠ []) : ch l = if (nx l).2 = 0 then none else (ch (l.drop (nx l).2)).map ((nx l).1 :: ·) := by
  cases l with
  | nil => exact absurd rfl hl
  | cons a t =>
    unfold ch
    rw [show (a :: t).length = t.length + 1 from rfl]
    rw [chF_succ, if_neg (by simp)]
    by_cases h : (nx (a :: t)).2 = 0
    · rw [if_pos h, if_pos h]
    · rw [if_neg h, if_neg h, chF_enough t.length _ _ (by simp; omega) (Nat.le_refl _)]
theorem ch_bad {l : List UInt8} (hl : l ≠ []) (h : (nx l).2 = 0) : ch l = none := by rw [ch_step hl, if_pos h]
theorem ch_good {l : List UInt8} (hl : l ≠ []) (h : (nx l).2 ≠ 0) : ch l = (ch (l.drop (nx l).2)).map ((nx l).1 :: ·) := by rw [ch_step hl, if_neg h]

theorem getD_app {a b : List UInt8} {i : Nat} (h : i < a.length) : (a ++ b).getD i 0 = a.getD i 0 := by
  simp [List.getD, List.getElem?_append, h]
theorem nx_app {a : List UInt8} (b : List UInt8) (ha : a ≠ []) (h : (nx a).2 ≠ 0) : nx (a ++ b) = nx a := by
  obtain ⟨e, h1, h2⟩ := nx_some h
  have hl : 1 ≤ a.length := by cases a with | nil => exact absurd rfl ha | cons => simp
  have hd : dc (a ++ b) = dc a := by
    unfold dc at h1 ⊢
    rw [getD_app (show 0 < a.length from hl)]
    exact decN_more _ _ _ _ _ _ _ _ _ hl (by simp) (fun hi => by rw [getD_app hi]) (fun hi => by rw [getD_app hi]) (fun hi => by rw [getD_app hi]) h1
  unfold nx
  rw [hd]
theorem ch_app : ∀ (n : Nat) (a b : List UInt8) (x : List Nat), a.length ≤ n → ch a = some x → ch (a ++ b) = (ch b).map (x ++ ·) := by
  intro n
  induction n with
  | zero =>
    intro a b x ha hx
    obtain rfl : a = [] := List.eq_nil_of_length_eq_zero (by omega)
    obtain rfl : [] = x := Option.some.inj hx
    show ch b = _
    cases ch b <;> rfl
  | succ n ih =>
    intro a b x ha hx
    by_cases hn : a = []
    · subst hn
      obtain rfl : [] = x := Option.some.inj hx
      show ch b = _
      cases ch b <;> rfl
    · by_cases h : (nx a).2 = 0
      · rw [ch_bad hn h] at hx; cases hx
      · rw [ch_good hn h] at hx
        have hle := nx_le hn
        rw [ch_good (by simp [hn]) (by rw [nx_app b hn h]; exact h), nx_app b hn h, List.drop_append_of_le_length hle]
        cases hy : ch (a.drop (nx a).2) with
        | none => rw [hy] at hx; cases hx
        | some y =>
          rw [hy] at hx
          obtain rfl : (nx a).1 :: y = x := Option.some.inj hx
          rw [ih (a.drop (nx a).2) b y (by rw [List.length_drop]; omega) hy]
          cases ch b <;> rfl
theorem ch_append {a b : List UInt8} {x : List Nat} (h : ch a = some x) : ch (a ++ b) = (ch b).map (x ++ ·) := ch_app _ a b x (Nat.le_refl _) h
theorem ch_length : ∀ (n : Nat) (a : List UInt8) (x : List Nat), a.length ≤ n → ch a = some x → x.length ≤ a.length := by
  intro n
  induction n with
  | zero =>
    intro a x ha hx
    obtain rfl : a = [] := List.eq_nil_of_length_eq_zero (by omega)
    obtain rfl : [] = x := Option.some.inj hx
    simp
  | succ n ih =>
    intro a x ha hx
    by_cases hn : a = []
    · subst hn
      obtain rfl : [] = x := Option.some.inj hx
      simp
    · by_cases h : (nx a).2 = 0
      · rw [ch_bad hn h] at hx; cases hx
      · rw [ch_good hn h] at hx
        have hle := nx_le hn
        cases hy : ch (a.drop (nx a).2) with
        | none => rw [hy] at hx; cases hx
        | some y =>
          rw [hy] at hx
          obtain rfl : (nx a).1 :: y = x := Option.some.inj hx
          have := ih _ y (by rw [List.length_drop]; omega) hy
          rw [List.length_drop] at this
          simp
          omega

/-- How many of the characters are below the blank. -/
def low (x : List Nat) : Nat := (x.filter (fun c => decide (c < 32))).length
theorem low_le (x : List Nat) : low x ≤ x.length := List.length_filter_le _ _
theorem low_snoc (x : List Nat) (c : Nat) : low (x ++ [c]) = if c < 32 then low x + 1 else low x := by
  unfold low
  rw [List.filter_append]
  by_cases h : c < 32 <;> simp [h]
/-- A line of at most so many characters. -/
def line (l : List UInt8) (most : Int) : Bool := match ch l with
  | some x => (low x == 0) && decide ((x.length : Int) ≤ most)
  | none => false
def valid (l : List UInt8) : Bool := (ch l).isSome
def runes (l : List UInt8) : List Nat := (ch l).getD []
theorem drop_ne {l : List UInt8} {k : Nat} (h : k < l.length) : l.drop k ≠ [] := by
  intro e
  have := congrArg List.length e
  rw [List.length_drop] at this
  simp at this
  omega
/-- What a loop over the characters knows at place k: x came ahead of it. -/
def At (l : List UInt8) (k : Nat) (x : List Nat) : Prop := k ≤ l.length ∧ x.length ≤ k ∧ ch l = (ch (l.drop k)).map (x ++ ·)
theorem At.start (l : List UInt8) : At l 0 [] := ⟨Nat.zero_le _, Nat.le_refl _, by rw [List.drop_zero]; cases ch l <;> rfl⟩
theorem At.stop {l : List UInt8} {x : List Nat} (h : At l l.length x) : ch l = some x := by
  have := h.2.2
  rw [List.drop_length, ch_nil] at this
  simpa using this
theorem At.next {l : List UInt8} {k : Nat} {x : List Nat} (h : At l k x) (hk : k < l.length) (hn : (nx (l.drop k)).2 ≠ 0) : At l (k + (nx (l.drop k)).2) (x ++ [(nx (l.drop k)).1]) := by
  have hne := drop_ne hk
  have h1 := nx_le hne
  rw [List.length_drop] at h1
  refine ⟨by omega, by have := h.2.1; simp; omega, ?_⟩
  rw [h.2.2, ch_good hne hn, List.drop_drop]
  cases ch (List.drop (k + (nx (List.drop k l)).2) l) <;> simp
theorem At.bad {l : List UInt8} {k : Nat} {x : List Nat} (h : At l k x) (hk : k < l.length) (hn : (nx (l.drop k)).2 = 0) : ch l = none := by
  rw [h.2.2, ch_bad (drop_ne hk) hn]
  rfl
theorem okc_eq (c : Nat) : okc c = (c == 9 || c == 10 || c == 13 || (decide (32 ≤ c) && !(c == 65534) && !(c == 65535))) := rfl
theorem dc_eq (l : List UInt8) : dc l = decodeN l.length (l.getD 0 0).toNat (l.getD 1 0).toNat (l.getD 2 0).toNat (l.getD 3 0).toNat := rfl
theorem nx_eq (l : List UInt8) : nx l = if (dc l).1 == 65533 && (dc l).2 == 1 || !okc (dc l).1 then (0, 0) else dc l := rfl
theorem low_nil : low [] = 0 := rfl
theorem low_def (x : List Nat) : low x = (x.filter (fun c => decide (c < 32))).length := rfl
def bt (l : List UInt8) (j : Nat) : Nat := (l.getD j 0).toNat
theorem bt_lt (l : List UInt8) (j : Nat) : bt l j < 256 := UInt8.toNat_lt _
def acc (l : List UInt8) (M : Nat) : Nat → Nat
  | 0 => bt l 0 % M
  | k + 1 => acc l M k * 64 + bt l (k + 1) % 64
/-- the k bytes behind the lead are further ones -/
def Cont (l : List UInt8) (k : Nat) : Prop := ∀ j, 1 ≤ j → j < k → bt l j / 64 = 2
theorem Cont.one (l : List UInt8) : Cont l 1 := fun j h1 h2 => by omega
theorem Cont.next {l : List UInt8} {k : Nat} (h : Cont l k) (hk : bt l k / 64 = 2) : Cont l (k + 1) := fun j h1 h2 => by
  rcases Nat.lt_or_ge j k with h3 | h3
  · exact h j h1 h3
  · rw [show j = k by omega]; exact hk
/-- what is there, (0, 0) where nothing is -/
def rdc (l : List UInt8) : Nat × Nat := if dc l = (65533, 1) then (0, 0) else dc l
theorem dc_bt (l : List UInt8) : dc l = decodeN l.length (bt l 0) (bt l 1) (bt l 2) (bt l 3) := rfl
theorem rdc_of {l : List UInt8} {r : Nat × Nat} (h : decodeN l.length (bt l 0) (bt l 1) (bt l 2) (bt l 3) = r) (hr : r ≠ (65533, 1)) : rdc l = r := by
  unfold rdc; rw [dc_bt, h, if_neg hr]
theorem rdc_no {l : List UInt8} (h : decodeN l.length (bt l 0) (bt l 1) (bt l 2) (bt l 3) = (65533, 1)) : rdc l = (0, 0) := by
  unfold rdc; rw [dc_bt, h, if_pos rfl]
theorem rdc_A {l : List UInt8} (h : bt l 0 < 128) : rdc l = (bt l 0, 1) :=
  rdc_of (by unfold decodeN; rw [if_pos h]) (by intro e; have := congrArg Prod.fst e; simp at this; omega)
theorem rdc_B {l : List UInt8} (h : 128 ≤ bt l 0) (h2 : bt l 0 < 192 ∨ 248 ≤ bt l 0) : rdc l = (0, 0) := by
  have := bt_lt l 0
  exact rdc_no (by unfold decodeN; rw [if_neg (by omega), if_neg (by omega), if_neg (by omega), if_neg (by omega)])
theorem two_ne {c : Nat} : (c, 2) ≠ ((65533, 1) : Nat × Nat) := by intro e; have := congrArg Prod.snd e; simp at this
theorem three_ne {c : Nat} : (c, 3) ≠ ((65533, 1) : Nat × Nat) := by intro e; have := congrArg Prod.snd e; simp at this
theorem four_ne {c : Nat} : (c, 4) ≠ ((65533, 1) : Nat × Nat) := by intro e; have := congrArg Prod.snd e; simp at this
theorem rdc_C {l : List UInt8} (h : 192 ≤ bt l 0) (h2 : bt l 0 < 224) :
    rdc l = if 2 ≤ l.length ∧ bt l 1 / 64 = 2 ∧ 128 ≤ acc l 32 1 then (acc l 32 1, 2) else (0, 0) := by
  have e : acc l 32 1 = bt l 0 % 32 * 64 + bt l 1 % 64 := rfl
  split
  · rename_i k
    rw [e] at k ⊢
    exact rdc_of (by unfold decodeN; rw [if_neg (by omega), if_pos (by omega), if_pos (by omega)]) two_ne
  · rename_i k
    rw [e] at k
    refine rdc_no ?_
    unfold decodeN
    rw [if_neg (by omega)]
    by_cases k1 : bt l 0 / 32 = 6 ∧ (1 < l.length ∧ bt l 1 / 64 = 2)
    · rw [if_pos k1, if_neg (by omega)]
    · rw [if_neg k1, if_neg (by omega), if_neg (by omega)]
theorem rdc_D {l : List UInt8} (h : 224 ≤ bt l 0) (h2 : bt l 0 < 240) :
    rdc l = if 3 ≤ l.length ∧ bt l 1 / 64 = 2 ∧ bt l 2 / 64 = 2 ∧ 2048 ≤ acc l 16 2 ∧ (acc l 16 2 < 55296 ∨ 57343 < acc l 16 2) then (acc l 16 2, 3) else (0, 0) := by
  have e : acc l 16 2 = bt l 0 % 16 * 4096 + bt l 1 % 64 * 64 + bt l 2 % 64 := by show (bt l 0 % 16 * 64 + bt l 1 % 64) * 64 + bt l 2 % 64 = _; omega
  split
  · rename_i k
    rw [e] at k ⊢
    exact rdc_of (by unfold decodeN; rw [if_neg (by omega), if_neg (by omega), if_pos (by omega), if_pos (by omega)]) three_ne
  · rename_i k
    rw [e] at k
    refine rdc_no ?_
    unfold decodeN
    rw [if_neg (by omega), if_neg (by omega)]
    by_cases k1 : bt l 0 / 16 = 14 ∧ (1 < l.length ∧ bt l 1 / 64 = 2) ∧ (2 < l.length ∧ bt l 2 / 64 = 2)
    · rw [if_pos k1, if_neg (by omega)]
    · rw [if_neg k1, if_neg (by omega)]
theorem rdc_E {l : List UInt8} (h : 240 ≤ bt l 0) (h2 : bt l 0 < 248) :
    rdc l = if 4 ≤ l.length ∧ bt l 1 / 64 = 2 ∧ bt l 2 / 64 = 2 ∧ bt l 3 / 64 = 2 ∧ 65536 ≤ acc l 8 3 ∧ acc l 8 3 ≤ 1114111 then (acc l 8 3, 4) else (0, 0) := by
  have e : acc l 8 3 = bt l 0 % 8 * 262144 + bt l 1 % 64 * 4096 + bt l 2 % 64 * 64 + bt l 3 % 64 := by
    show ((bt l 0 % 8 * 64 + bt l 1 % 64) * 64 + bt l 2 % 64) * 64 + bt l 3 % 64 = _; omega
  split
  · rename_i k
    rw [e] at k ⊢
    exact rdc_of (by unfold decodeN; rw [if_neg (by omega), if_neg (by omega), if_neg (by omega), if_pos (by omega), if_pos (by omega)]) four_ne
  · rename_i k
    rw [e] at k
    refine rdc_no ?_
    unfold decodeN
    rw [if_neg (by omega), if_neg (by omega), if_neg (by omega)]
    by_cases k1 : bt l 0 / 8 = 30 ∧ (1 < l.length ∧ bt l 1 / 64 = 2) ∧ (2 < l.length ∧ bt l 2 / 64 = 2) ∧ (3 < l.length ∧ bt l 3 / 64 = 2)
    · rw [if_pos k1, if_neg (by omega)]
    · rw [if_neg k1]
/-- all three classes of more than one byte: n bytes, the lead's last M, and no less than least -/
def Lead (l : List UInt8) (n M least : Nat) : Prop :=
  (192 ≤ bt l 0 ∧ bt l 0 < 224 ∧ n = 2 ∧ M = 32 ∧ least = 128) ∨ (224 ≤ bt l 0 ∧ bt l 0 < 240 ∧ n = 3 ∧ M = 16 ∧ least = 2048) ∨ (240 ≤ bt l 0 ∧ bt l 0 < 248 ∧ n = 4 ∧ M = 8 ∧ least = 65536)
theorem acc_lt (l : List UInt8) (M : Nat) (hM : 0 < M) (hM2 : M ≤ 32) : acc l M 0 < 32 ∧ acc l M 1 < 2048 ∧ acc l M 2 < 131072 ∧ acc l M 3 < 8388608 := by
  have a0 : acc l M 0 = bt l 0 % M := rfl
  have a1 : acc l M 1 = acc l M 0 * 64 + bt l 1 % 64 := rfl
  have a2 : acc l M 2 = acc l M 1 * 64 + bt l 2 % 64 := rfl
  have a3 : acc l M 3 = acc l M 2 * 64 + bt l 3 % 64 := rfl
  have := Nat.mod_lt (bt l 0) hM
  omega
theorem rdc_short {l : List UInt8} {n M least : Nat} (h : Lead l n M least) (hs : l.length < n) : rdc l = (0, 0) := by
  rcases h with ⟨a, b, rfl, rfl, rfl⟩ | ⟨a, b, rfl, rfl, rfl⟩ | ⟨a, b, rfl, rfl, rfl⟩
  · rw [rdc_C a b, if_neg (by omega)]
  · rw [rdc_D a b, if_neg (by omega)]
  · rw [rdc_E a b, if_neg (by omega)]
theorem rdc_odd {l : List UInt8} {n M least k : Nat} (h : Lead l n M least) (h1 : 1 ≤ k) (h2 : k < n) (hk : bt l k / 64 ≠ 2) : rdc l = (0, 0) := by
  rcases h with ⟨a, b, rfl, rfl, rfl⟩ | ⟨a, b, rfl, rfl, rfl⟩ | ⟨a, b, rfl, rfl, rfl⟩
  · rw [rdc_C a b, if_neg]
    rintro ⟨_, c, _⟩
    obtain rfl : k = 1 := by omega
    exact hk c
  · rw [rdc_D a b, if_neg]
    rintro ⟨_, c, d, _⟩
    obtain rfl | rfl : k = 1 ∨ k = 2 := by omega
    · exact hk c
    · exact hk d
  · rw [rdc_E a b, if_neg]
    rintro ⟨_, c, d, e, _⟩
    obtain rfl | rfl | rfl : k = 1 ∨ k = 2 ∨ k = 3 := by omega
    · exact hk c
    · exact hk d
    · exact hk e
theorem rdc_end {l : List UInt8} {n M least : Nat} (h : Lead l n M least) (hs : n ≤ l.length) (hc : Cont l n) :
    rdc l = if least ≤ acc l M (n - 1) ∧ acc l M (n - 1) ≤ 1114111 ∧ (acc l M (n - 1) < 55296 ∨ 57343 < acc l M (n - 1)) then (acc l M (n - 1), n) else (0, 0) := by
  rcases h with ⟨a, b, rfl, rfl, rfl⟩ | ⟨a, b, rfl, rfl, rfl⟩ | ⟨a, b, rfl, rfl, rfl⟩
  · have := acc_lt l 32 (by omega) (by omega)
    have c1 := hc 1 (by omega) (by omega)
    rw [rdc_C a b, show (2 : Nat) - 1 = 1 from rfl]
    by_cases k : 128 ≤ acc l 32 1
    · rw [if_pos ⟨hs, c1, k⟩, if_pos ⟨k, by omega, by omega⟩]
    · rw [if_neg (fun h => k h.2.2), if_neg (fun h => k h.1)]
  · have := acc_lt l 16 (by omega) (by omega)
    have c1 := hc 1 (by omega) (by omega)
    have c2 := hc 2 (by omega) (by omega)
    rw [rdc_D a b, show (3 : Nat) - 1 = 2 from rfl]
    by_cases k : 2048 ≤ acc l 16 2 ∧ (acc l 16 2 < 55296 ∨ 57343 < acc l 16 2)
    · rw [if_pos ⟨hs, c1, c2, k⟩, if_pos ⟨k.1, by omega, k.2⟩]
    · rw [if_neg (fun h => k h.2.2.2), if_neg (fun h => k ⟨h.1, h.2.2⟩)]
  · have c1 := hc 1 (by omega) (by omega)
    have c2 := hc 2 (by omega) (by omega)
    have c3 := hc 3 (by omega) (by omega)
    rw [rdc_E a b, show (4 : Nat) - 1 = 3 from rfl]
    by_cases k : 65536 ≤ acc l 8 3 ∧ acc l 8 3 ≤ 1114111
    · rw [if_pos ⟨hs, c1, c2, c3, k⟩, if_pos ⟨k.1, k.2, .inr (by show 57343 < acc l 8 3; omega)⟩]
    · rw [if_neg (fun h => k h.2.2.2.2), if_neg (fun h => k ⟨h.1, h.2.1⟩)]
theorem rdc_next (l : List UInt8) : nx l = if (rdc l).2 = 0 || !okc (rdc l).1 then (0, 0) else rdc l := by
  unfold rdc nx
  by_cases h : dc l = (65533, 1)
  · rw [if_pos h, h]; rfl
  · rw [if_neg h]
    have h1 := dc_ge1 l
    have h2 : ((dc l).1 == 65533 && (dc l).2 == 1) = false := by
      cases e : ((dc l).1 == 65533 && (dc l).2 == 1) with
      | false => rfl
      | true => exfalso; apply h; simp only [Bool.and_eq_true, beq_iff_eq] at e; exact Prod.ext e.1 e.2
    have h3 : decide ((dc l).2 = 0) = false := by simp; omega
    rw [h2, h3]
theorem acc_zero (l : List UInt8) (M : Nat) : acc l M 0 = bt l 0 % M := rfl
theorem acc_next (l : List UInt8) (M k : Nat) : acc l M (k + 1) = acc l M k * 64 + bt l (k + 1) % 64 := rfl
theorem Lead.bound {l : List UInt8} {n M least : Nat} (h : Lead l n M least) (k : Nat) (hk : k < 4) : acc l M k < 8388608 := by
  have hM : 0 < M ∧ M ≤ 32 := by rcases h with ⟨_, _, _, rfl, _⟩ | ⟨_, _, _, rfl, _⟩ | ⟨_, _, _, rfl, _⟩ <;> omega
  have := acc_lt l M hM.1 hM.2
  obtain rfl | rfl | rfl | rfl : k = 0 ∨ k = 1 ∨ k = 2 ∨ k = 3 := by omega
  all_goals omega
theorem bt_drop (l : List UInt8) (i j : Nat) (h : i + j < l.length) : bt (l.drop i) j = (l[i + j]'h).toNat := by
  unfold bt
  simp [List.getD, List.getElem?_drop, List.getElem?_eq_getElem h]
theorem lead_def {l : List UInt8} {n M least : Nat} : Lead l n M least ↔ (192 ≤ bt l 0 ∧ bt l 0 < 224 ∧ n = 2 ∧ M = 32 ∧ least = 128) ∨ (224 ≤ bt l 0 ∧ bt l 0 < 240 ∧ n = 3 ∧ M = 16 ∧ least = 2048) ∨ (240 ≤ bt l 0 ∧ bt l 0 < 248 ∧ n = 4 ∧ M = 8 ∧ least = 65536) := Iff.rfl
theorem rdc_bound (l : List UInt8) : (rdc l).1 ≤ 1114111 ∧ (rdc l).2 ≤ 4 ∧ ((rdc l).1 < 55296 ∨ 57343 < (rdc l).1) := by
  unfold rdc
  split
  · simp
  · exact ⟨dc_rune l, dc_le4 l, dc_valid l⟩
theorem valid_some {l : List UInt8} {x : List Nat} (h : ch l = some x) : valid l = true := by unfold valid; rw [h]; rfl
theorem valid_none {l : List UInt8} (h : ch l = none) : valid l = false := by unfold valid; rw [h]; rfl
theorem runes_some {l : List UInt8} {x : List Nat} (h : ch l = some x) : runes l = x := by unfold runes; rw [h]; rfl
theorem runes_none {l : List UInt8} (h : ch l = none) : runes l = [] := by unfold runes; rw [h]; rfl
theorem line_some {l : List UInt8} {x : List Nat} (h : ch l = some x) (most : Int) : line l most = ((low x == 0) && decide ((x.length : Int) ≤ most)) := by unfold line; rw [h]
theorem line_none {l : List UInt8} (h : ch l = none) (most : Int) : line l most = false := by unfold line; rw [h]
theorem runes_length (l : List UInt8) : (runes l).length ≤ l.length := by
  cases h : ch l with
  | none => rw [runes_none h]; simp
  | some x => rw [runes_some h]; exact ch_length _ _ _ (Nat.le_refl _) h
theorem valid_runes {l : List UInt8} (h : valid l = true) : ch l = some (runes l) := by
  cases hc : ch l with
  | none => rw [valid_none hc] at h; cases h
  | some x => rw [runes_some hc]
theorem valid_append {a b : List UInt8} (ha : valid a = true) (hb : valid b = true) : valid (a ++ b) = true ∧ runes (a ++ b) = runes a ++ runes b := by
  have h := ch_append (b := b) (valid_runes ha)
  rw [valid_runes hb] at h
  exact ⟨valid_some h, runes_some h⟩
theorem bad_valid {a b : List UInt8} (ha : valid a = true) (c : UInt8) (hc : 128 ≤ c.toNat) : valid (a ++ [c] ++ [120] ++ b) = false := by
  have e : a ++ [c] ++ [120] ++ b = a ++ (c :: 120 :: b) := by simp
  rw [e]
  have hn : nx (c :: 120 :: b) = (0, 0) := by
    unfold nx
    have hd : dc (c :: 120 :: b) = (65533, 1) := by
      rw [dc_bt]
      have b0 : bt (c :: 120 :: b) 0 = c.toNat := rfl
      have b1 : bt (c :: 120 :: b) 1 = 120 := rfl
      rw [b0, b1]
      unfold decodeN
      rw [if_neg (by omega), if_neg (by omega), if_neg (by omega), if_neg (by omega)]
    rw [hd]
    rfl
  have h := ch_append (b := c :: 120 :: b) (valid_runes ha)
  rw [ch_bad (l := c :: 120 :: b) (by simp) (by rw [hn])] at h
  exact valid_none h
theorem bt_def (l : List UInt8) (j : Nat) : bt l j = (l.getD j 0).toNat := rfl
theorem ch_fffd : ch [239, 191, 189] = some [65533] := by decide
theorem ch_a : ch [97] = some [97] := by decide
theorem ch_ab : ch [97, 98] = some [97, 98] := by decide
theorem ch_a_b : ch [97, 32, 98] = some [97, 32, 98] := by decide
theorem low_a_b : low [97, 32, 98] = 0 := by decide
attribute [irreducible] bt acc Cont rdc Lead
attribute [irreducible] valid runes line
attribute [irreducible] okc dc nx ch low At
end Go.Proofs.YtbgaglcgennhiaaGreatDoor.Tx
