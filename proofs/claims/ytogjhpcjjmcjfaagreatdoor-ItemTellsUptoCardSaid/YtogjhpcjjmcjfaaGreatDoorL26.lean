import Derived.Test.YtogjhpcjjmcjfaaGreatDoorL10
import Derived.Test.YtogjhpcjjmcjfaaGreatDoorL19
import Derived.Test.YtogjhpcjjmcjfaaGreatDoorL11
section
/- what is reached of it -/
namespace Go.Proofs.YtogjhpcjjmcjfaaGreatDoor.Tx
theorem linesA_conts : ∀ (rs acc : List (List UInt8)) (x : List UInt8), (∀ r ∈ rs, cont r = true) → linesA (acc ++ [x]) rs = some (acc ++ [x ++ rs.flatMap List.tail])
  | [], acc, x, _ => by rw [linesA_nil]; simp
  | r :: rs, acc, x, h => by
    rw [linesA_more _ (h r (by simp)) (by simp), addLast_snoc, linesA_conts rs acc _ (fun r hr => h r (by simp [hr]))]
    simp
/-- R are told rows, cur is the open one: they are one line, of which done is told -/
def AStand (R : List (List UInt8)) (cur done : List UInt8) : Prop :=
  (∀ r ∈ R, clean r ∧ valid r = true) ∧ clean cur ∧ valid cur = true ∧ jn (R ++ [cur]) = done ∧ ∃ f t, R ++ [cur] = f :: t ∧ cont f = false ∧ ∀ r ∈ t, cont r = true
theorem AStand.start : AStand [] [] [] := ⟨fun r h => (by cases h), fun c h => (by cases h), valid_some ch_nil, rfl, [], [], rfl, rfl, fun r h => (by cases h)⟩
theorem AStand.cut {R : List (List UInt8)} {cur done : List UInt8} (h : AStand R cur done) {b : UInt8} (hb : b = 32 ∨ b = 9) : AStand (R ++ [cur]) [b] done := by
  obtain ⟨h1, h2, h3, h4, f, t, h5, h6, h7⟩ := h
  refine ⟨fun r hr => ?_, ?_, ?_, ?_, f, t ++ [[b]], by rw [h5]; simp, h6, fun r hr => ?_⟩
  · rcases List.mem_append.1 hr with hr | hr
    · exact h1 r hr
    · rw [List.mem_singleton] at hr; subst hr; exact ⟨h2, h3⟩
  · intro c hc
    rw [List.mem_singleton] at hc
    subst hc
    rcases hb with rfl | rfl <;> decide
  · rcases hb with rfl | rfl <;> decide +kernel
  · rw [jn_snoc (by simp), h4]
    simp
  · rcases List.mem_append.1 hr with hr | hr
    · exact h7 r hr
    · rw [List.mem_singleton] at hr
      subst hr
      rcases hb with rfl | rfl <;> rfl
theorem AStand.push {R : List (List UInt8)} {cur done e : List UInt8} (h : AStand R cur done) (he : clean e) (hv : valid e = true) (hc : cur ≠ [] ∨ cont e = false) : AStand R (cur ++ e) (done ++ e) := by
  obtain ⟨h1, h2, h3, h4, f, t, h5, h6, h7⟩ := h
  refine ⟨h1, fun c hc => ?_, (valid_append h3 hv).1, ?_, ?_⟩
  · rcases List.mem_append.1 hc with hc | hc
    · exact h2 c hc
    · exact he c hc
  · cases R with
    | nil =>
      rw [List.nil_append] at h4
      rw [← h4]
      simp [jn]
    | cons a R =>
      have hct : cont cur = true := by
        rw [List.cons_append] at h5
        obtain ⟨_, rfl⟩ := List.cons.inj h5
        exact h7 cur (by simp)
      cases cur with
      | nil => cases hct
      | cons c u =>
        rw [jn_snoc (by simp)] at h4 ⊢
        rw [← h4]
        simp
  · cases R with
    | nil =>
      rw [List.nil_append] at h5
      obtain ⟨rfl, rfl⟩ := List.cons.inj h5
      refine ⟨cur ++ e, [], rfl, ?_, fun r h => (by cases h)⟩
      cases cur with
      | nil => exact hc.resolve_left (fun h => h rfl)
      | cons c u => exact h6
    | cons a R =>
      rw [List.cons_append] at h5
      obtain ⟨rfl, rfl⟩ := List.cons.inj h5
      refine ⟨a, R ++ [cur ++ e], by simp, h6, fun r hr => ?_⟩
      rcases List.mem_append.1 hr with hr | hr
      · exact h7 r (by simp [hr])
      · rw [List.mem_singleton] at hr
        subst hr
        have hct := h7 cur (by simp)
        cases cur with
        | nil => cases hct
        | cons c u => exact hct
theorem AStand.done {R : List (List UInt8)} {cur done : List UInt8} (h : AStand R cur done) : Tx.unfold (ends R ++ cur ++ [13, 10]) = some [done] ∧ valid (ends R ++ cur ++ [13, 10]) = true := by
  obtain ⟨h1, h2, h3, h4, f, t, h5, h6, h7⟩ := h
  have e : ends R ++ cur ++ [13, 10] = ends (R ++ [cur]) := by rw [ends_append, ends_cons, ends_nil]; simp
  have hall : ∀ r ∈ R ++ [cur], clean r ∧ valid r = true := fun r hr => by
    rcases List.mem_append.1 hr with hr | hr
    · exact h1 r hr
    · rw [List.mem_singleton] at hr; subst hr; exact ⟨h2, h3⟩
  rw [e]
  refine ⟨?_, ends_valid _ (fun r hr => (hall r hr).2)⟩
  unfold Tx.unfold
  rw [rowsA_ends _ (fun r hr => (hall r hr).1), h5]
  show linesA [] (f :: t) = _
  rw [linesA_new [] t h6, linesA_conts t [] f h7]
  rw [h5] at h4
  rw [← h4]
  rfl
/-- a character of a line, written -/
theorem enc_line {c : Nat} (h1 : sane c) (h2 : okc c = true) (h3 : 32 ≤ c) : clean (enc c) ∧ valid (enc c) = true := by
  refine ⟨fun x hx => ?_, valid_some (ch_enc h1 h2)⟩
  rcases enc_cases h1 with ⟨a, e⟩ | ⟨a, b, e⟩ | ⟨a, b, e⟩ | ⟨a, b, e⟩
  all_goals
    rw [e] at hx
    have key : ∀ k, k < 256 → 32 ≤ k → x = UInt8.ofNat k → x ≠ 10 ∧ x ≠ 13 := fun k hk hk2 hxk => by
      subst hxk
      have := toNat_of k hk
      exact ⟨fun e => by rw [e] at this; simp at this; omega, fun e => by rw [e] at this; simp at this; omega⟩
    simp only [List.mem_cons, List.not_mem_nil, or_false] at hx
  · exact key c (by omega) h3 hx
  · rcases hx with hx | hx
    · exact key _ (by omega) (by omega) hx
    · exact key _ (by omega) (by omega) hx
  · rcases hx with hx | hx | hx
    · exact key _ (by omega) (by omega) hx
    · exact key _ (by omega) (by omega) hx
    · exact key _ (by omega) (by omega) hx
  · rcases hx with hx | hx | hx | hx
    · exact key _ (by omega) (by omega) hx
    · exact key _ (by omega) (by omega) hx
    · exact key _ (by omega) (by omega) hx
    · exact key _ (by omega) (by omega) hx
/-- the characters of a line -/
theorem line_chars {l : List UInt8} {most : Int} (h : line l most = true) : ∃ cs, ch l = some cs ∧ flat cs = l ∧ ∀ c ∈ cs, sane c ∧ okc c = true ∧ 32 ≤ c := by
  cases hc : ch l with
  | none => rw [line_none hc] at h; cases h
  | some cs =>
    rw [line_some hc, Bool.and_eq_true, beq_iff_eq, low_def] at h
    refine ⟨cs, rfl, ch_flat_back _ l cs (Nat.le_refl _) hc, fun c hm => ?_⟩
    obtain ⟨h1, h2⟩ := ch_good_all _ l cs (Nat.le_refl _) hc c hm
    refine ⟨h1, h2, ?_⟩
    rcases Nat.lt_or_ge c 32 with h3 | h3
    · have : c ∈ cs.filter (fun c => decide (c < 32)) := List.mem_filter.2 ⟨hm, decide_eq_true h3⟩
      rw [List.eq_nil_of_length_eq_zero h.1] at this
      cases this
    · exact h3
end Go.Proofs.YtogjhpcjjmcjfaaGreatDoor.Tx
end
section
/- what is reached of it -/
namespace Go.Proofs.YtogjhpcjjmcjfaaGreatDoor.Ct
open Go.Proofs.YtogjhpcjjmcjfaaGreatDoor Tx Vc
/-- A contact: nine texts, its groups, its other properties. -/
structure Con where
  name : List UInt8
  family : List UInt8
  given : List UInt8
  nick : List UInt8
  jid : List UInt8
  email : List UInt8
  tel : List UInt8
  note : List UInt8
  uid : List UInt8
  groups : List (List UInt8)
  other : List Pr
/-- One more, in its place; none twice. -/
def ins (x : List UInt8) : List (List UInt8) → List (List UInt8)
  | [] => [x]
  | y :: t => if Jd.ltL y x then y :: ins x t else if y = x then y :: t else x :: y :: t
/-- Rising, each once, none "". -/
def groupsL (l : List (List UInt8)) : List (List UInt8) := l.foldl (fun out x => if x = [] then out else ins x out) []
/-- each is above the one ahead of it -/
def risingB : List (List UInt8) → Bool
  | [] => true
  | [_] => true
  | x :: y :: t => Jd.ltL x y && risingB (y :: t)
def rightG (l : List (List UInt8)) : Bool := decide (l.length ≤ 8) && l.all (fun g => decide (g ≠ []) && line g 100) && risingB l
theorem rising_tail {x : List UInt8} {t : List (List UInt8)} (h : risingB (x :: t) = true) : risingB t = true := by
  cases t with
  | nil => rfl
  | cons y t => exact (Bool.and_eq_true_iff.1 h).2
theorem rising_lt : ∀ {t : List (List UInt8)} {x : List UInt8}, risingB (x :: t) = true → ∀ y ∈ t, Jd.ltL x y = true
  | [], _, _, y, hy => by cases hy
  | z :: t, x, h, y, hy => by
    obtain ⟨h1, h2⟩ := Bool.and_eq_true_iff.1 h
    rcases List.mem_cons.1 hy with rfl | hy
    · exact h1
    · exact Jd.lt_trans _ _ _ h1 (rising_lt h2 y hy)
/-- a greater one comes to the end -/
theorem ins_last : ∀ {l : List (List UInt8)} {x : List UInt8}, (∀ y ∈ l, Jd.ltL y x = true) → ins x l = l ++ [x]
  | [], _, _ => rfl
  | y :: t, x, h => by
    rw [ins, if_pos (h y List.mem_cons_self), ins_last (fun z hz => h z (List.mem_cons_of_mem _ hz))]
    rfl
theorem groups_fold : ∀ (l out : List (List UInt8)), (∀ g ∈ l, g ≠ []) → risingB l = true → (∀ y ∈ out, ∀ g ∈ l, Jd.ltL y g = true) → l.foldl (fun out x => if x = [] then out else ins x out) out = out ++ l
  | [], out, _, _, _ => by simp
  | x :: t, out, h1, h2, h3 => by
    rw [List.foldl_cons, if_neg (h1 x List.mem_cons_self), ins_last (fun y hy => h3 y hy x List.mem_cons_self), groups_fold t _ (fun g hg => h1 g (List.mem_cons_of_mem _ hg)) (rising_tail h2) ?_, List.append_assoc]
    · rfl
    · intro y hy g hg
      rcases List.mem_append.1 hy with hy | hy
      · exact h3 y hy g (List.mem_cons_of_mem _ hg)
      · rw [List.mem_singleton] at hy
        subst hy
        exact rising_lt h2 g hg
/-- right groups are told as they are -/
theorem groups_right {l : List (List UInt8)} (h : rightG l = true) : groupsL l = l := by
  unfold rightG at h
  simp only [Bool.and_eq_true, decide_eq_true_eq, List.all_eq_true] at h
  exact groups_fold l [] (fun g hg => (h.1.2 g hg).1) h.2 (fun y hy => by cases hy)
/-- what stands behind an insertion -/
theorem ins_mem : ∀ {l : List (List UInt8)} {x y : List UInt8}, y ∈ ins x l ↔ y = x ∨ y ∈ l
  | [], x, y => by simp [ins]
  | z :: t, x, y => by
    rw [ins]
    split
    · rw [List.mem_cons, ins_mem, List.mem_cons]
      constructor
      · rintro (h | h | h)
        · exact .inr (.inl h)
        · exact .inl h
        · exact .inr (.inr h)
      · rintro (h | h | h)
        · exact .inr (.inl h)
        · exact .inl h
        · exact .inr (.inr h)
    · split
      · rename_i _ e
        subst e
        simp
      · simp
theorem ins_rising : ∀ {l : List (List UInt8)} {x : List UInt8}, risingB l = true → risingB (ins x l) = true
  | [], _, _ => rfl
  | y :: t, x, h => by
    rw [ins]
    split
    · rename_i hlt
      have h1 := ins_rising (x := x) (rising_tail h)
      cases hi : ins x t with
      | nil => rfl
      | cons z r =>
        rw [hi] at h1
        have hz : z ∈ ins x t := by rw [hi]; exact List.mem_cons_self
        refine Bool.and_eq_true_iff.2 ⟨?_, h1⟩
        rcases ins_mem.1 hz with rfl | hz
        · exact hlt
        · exact rising_lt h z hz
    · split
      · exact h
      · rename_i h1 h2
        refine Bool.and_eq_true_iff.2 ⟨?_, h⟩
        rcases Jd.lt_tri y x with ⟨h3, _⟩ | ⟨_, h3, _⟩ | ⟨_, _, h3⟩
        · exact absurd h3 h1
        · exact h3
        · exact absurd h3 h2
theorem groups_all (l : List (List UInt8)) : ∀ out, risingB out = true → (∀ g ∈ out, g ≠ []) → risingB (l.foldl (fun out x => if x = [] then out else ins x out) out) = true ∧ ∀ g, g ∈ l.foldl (fun out x => if x = [] then out else ins x out) out ↔ (g ∈ out ∨ (g ∈ l ∧ g ≠ [])) := by
  induction l with
  | nil => exact fun out h1 h2 => ⟨h1, fun g => by simp⟩
  | cons x t ih =>
    intro out h1 h2
    rw [List.foldl_cons]
    by_cases hx : x = []
    · rw [if_pos hx]
      obtain ⟨h3, h4⟩ := ih out h1 h2
      refine ⟨h3, fun g => ?_⟩
      rw [h4 g, List.mem_cons]
      constructor
      · rintro (h | ⟨h, h5⟩)
        · exact .inl h
        · exact .inr ⟨.inr h, h5⟩
      · rintro (h | ⟨h | h, h5⟩)
        · exact .inl h
        · exact absurd (h.trans hx) h5
        · exact .inr ⟨h, h5⟩
    · rw [if_neg hx]
      obtain ⟨h3, h4⟩ := ih (ins x out) (ins_rising h1) (fun g hg => by
        rcases ins_mem.1 hg with rfl | hg
        · exact hx
        · exact h2 g hg)
      refine ⟨h3, fun g => ?_⟩
      rw [h4 g, ins_mem, List.mem_cons]
      constructor
      · rintro ((h | h) | ⟨h, h5⟩)
        · exact .inr ⟨.inl h, by rw [h]; exact hx⟩
        · exact .inl h
        · exact .inr ⟨.inr h, h5⟩
      · rintro (h | ⟨h | h, h5⟩)
        · exact .inl (.inr h)
        · exact .inl (.inl h)
        · exact .inr ⟨h, h5⟩
/-- they are told rising; just those that are there, but "" -/
theorem groups_rising (l : List (List UInt8)) : risingB (groupsL l) = true ∧ ∀ g, g ∈ groupsL l ↔ (g ∈ l ∧ g ≠ []) := by
  obtain ⟨h1, h2⟩ := groups_all l [] rfl (fun g hg => by cases hg)
  refine ⟨h1, fun g => ?_⟩
  have := h2 g
  unfold groupsL
  rw [this]
  constructor
  · rintro (h | h)
    · cases h
    · exact h
  · exact .inr
theorem ins_len : ∀ (l : List (List UInt8)) (x : List UInt8), (ins x l).length ≤ l.length + 1
  | [], _ => Nat.le_refl _
  | y :: t, x => by
    rw [ins]
    have := ins_len t x
    split
    · simp only [List.length_cons]; omega
    · split
      · simp only [List.length_cons]; omega
      · simp only [List.length_cons]; omega
theorem groups_len (l : List (List UInt8)) : (groupsL l).length ≤ l.length := by
  have : ∀ (l out : List (List UInt8)), (l.foldl (fun out x => if x = [] then out else ins x out) out).length ≤ out.length + l.length := by
    intro l
    induction l with
    | nil => exact fun out => by simp
    | cons x t ih =>
      intro out
      rw [List.foldl_cons, List.length_cons]
      split
      · have := ih out; omega
      · have h1 := ih (ins x out)
        have h2 := ins_len out x
        omega
  have h := this l []
  simpa [groupsL] using h
end Go.Proofs.YtogjhpcjjmcjfaaGreatDoor.Ct
end
section
/- what is reached of it -/
namespace Go.Proofs.YtogjhpcjjmcjfaaGreatDoor.Ct
open Go.Proofs.YtogjhpcjjmcjfaaGreatDoor Tx Vc
def bareB (s : List UInt8) : Bool := decide (s = []) || decide (Jd.bareL s = (s, 0))
def textsB (c : Con) : Bool := line c.name 100 && line c.family 100 && line c.given 100 && line c.nick 100 && line c.email 100 && line c.tel 100 && line c.uid 100
def noteB (s : List UInt8) : Bool := valid s && decide ((runes s).length ≤ 500) && s.all (fun b => b != 13)
def rightC (c : Con) : Bool := decide (c.name ≠ []) && textsB c && noteB c.note && bareB c.jid && rightG c.groups && decide ((writeV [c.other]).2 = 0)

/-- a line has no 13 -/
theorem line_no13 {t : List UInt8} {n : Int} (h : line t n = true) : (13 : UInt8) ∉ t := by
  obtain ⟨cs, h1, h2, h3⟩ := line_chars h
  rw [← h2]
  clear h1 h2 h
  induction cs with
  | nil => simp [flat]
  | cons c cs ih =>
    obtain ⟨k1, k2, k3⟩ := h3 c List.mem_cons_self
    have e : flat (c :: cs) = enc c ++ flat cs := by rw [show c :: cs = [c] ++ cs from rfl, flat_append, flat_one]
    rw [e]
    intro hx
    rcases List.mem_append.1 hx with hx | hx
    · exact ((enc_line k1 k2 k3).1 13 hx).2 rfl
    · exact ih (fun d hd => h3 d (List.mem_cons_of_mem _ hd)) hx
end Go.Proofs.YtogjhpcjjmcjfaaGreatDoor.Ct
end
section
/- what is reached of it -/
namespace Go.Proofs.YtogjhpcjjmcjfaaGreatDoor.Ct
open Go.Proofs.YtogjhpcjjmcjfaaGreatDoor Tx Vc
theorem flat_cons1 (c : Nat) (cs : List Nat) : flat (c :: cs) = enc c ++ flat cs := by rw [show c :: cs = [c] ++ cs from rfl, flat_append, flat_one]
theorem line_valid {t : List UInt8} {n : Int} (h : line t n = true) : valid t = true := by
  obtain ⟨cs, h1, _, _⟩ := line_chars h
  exact valid_some h1
theorem flat_len : ∀ cs : List Nat, (flat cs).length ≤ 4 * cs.length
  | [] => by simp [flat]
  | c :: cs => by
    have h1 := flat_len cs
    have h2 := (enc_len (n := c)).2
    rw [flat_cons1, List.length_append, List.length_cons]
    omega
/-- one more group, at its place -/
theorem ins_at : ∀ {l : List (List UInt8)} {x : List UInt8} {k : Nat}, (∀ i y, i < k → l[i]? = some y → Jd.ltL y x = true) → (∀ y, l[k]? = some y → Jd.ltL y x = false) → k ≤ l.length → ins x l = if l[k]? = some x then l else l.take k ++ x :: l.drop k
  | [], x, k, _, _, hk => by
    obtain rfl : k = 0 := by simpa using hk
    rfl
  | y :: t, x, 0, _, h2, _ => by
    have h3 : Jd.ltL y x = false := h2 y rfl
    rw [ins, if_neg (by rw [h3]; decide)]
    by_cases e : y = x
    · rw [if_pos e, if_pos (by rw [e]; rfl)]
    · rw [if_neg e, if_neg (show ¬ (y :: t)[0]? = some x from fun h => e (Option.some.inj h))]
      rfl
  | y :: t, x, k + 1, h1, h2, hk => by
    have h3 : Jd.ltL y x = true := h1 0 y (Nat.succ_pos _) rfl
    rw [ins, if_pos h3, ins_at (l := t) (x := x) (k := k) (fun i z hi hz => h1 (i + 1) z (by omega) hz) (fun z hz => h2 z hz) (by simpa using hk)]
    by_cases e : t[k]? = some x
    · rw [if_pos e, if_pos (show (y :: t)[k + 1]? = some x from e)]
    · rw [if_neg e, if_neg (show ¬ (y :: t)[k + 1]? = some x from e)]
      rfl
end Go.Proofs.YtogjhpcjjmcjfaaGreatDoor.Ct
end
section
/- what is reached of it -/
namespace Go.Proofs.YtogjhpcjjmcjfaaGreatDoor.Ct
open Go.Proofs.YtogjhpcjjmcjfaaGreatDoor Tx Vc
theorem line_more {t : List UInt8} {n m : Int} (h : line t n = true) (hm : n ≤ m) : line t m = true := by
  obtain ⟨cs, h1, _, _⟩ := line_chars h
  rw [line_some h1] at h ⊢
  obtain ⟨h2, h3⟩ := Bool.and_eq_true_iff.1 h
  have h3 := of_decide_eq_true h3
  exact Bool.and_eq_true_iff.2 ⟨h2, decide_eq_true (by omega)⟩
theorem none_ok : (writeV [[]]).2 = 0 := by decide +kernel
/-- right, part by part -/
theorem right_of {c : Con} (h1 : c.name ≠ []) (h2 : textsB c = true) (h3 : noteB c.note = true) (h4 : bareB c.jid = true) (h5 : rightG c.groups = true) (h6 : (writeV [c.other]).2 = 0) : rightC c = true := by
  unfold rightC
  simp only [Bool.and_eq_true, decide_eq_true_eq]
  exact ⟨⟨⟨⟨⟨h1, h2⟩, h3⟩, h4⟩, h5⟩, h6⟩
theorem groups_ok {l : List (List UInt8)} {n : Int} (hl : l.length ≤ 8) (h : ∀ g ∈ l, line g n = true) (hn : n ≤ 100) : rightG (groupsL l) = true := by
  obtain ⟨h1, h2⟩ := groups_rising l
  unfold rightG
  simp only [Bool.and_eq_true, decide_eq_true_eq, List.all_eq_true]
  exact ⟨⟨Nat.le_trans (groups_len l) hl, fun g hg => ⟨((h2 g).1 hg).2, line_more (h g ((h2 g).1 hg).1) hn⟩⟩, h1⟩
/-- so many letters, one by one -/
def lettersL (n : Nat) : List (List UInt8) := (List.range n).map fun i => [UInt8.ofNat (97 + i)]
end Go.Proofs.YtogjhpcjjmcjfaaGreatDoor.Ct
end
section
/- what is reached of it -/
namespace Go.Proofs.YtogjhpcjjmcjfaaGreatDoor
open Rg Tx
namespace Jd
def nums (l : List UInt8) : List Nat := l.map (·.toNat)
def lowB (l : List UInt8) : Bool := l.all fun b => decide (32 ≤ b.toNat) && decide (b.toNat < 128)
theorem flat_nums : ∀ {l : List UInt8}, (∀ b ∈ l, b.toNat < 128) → flat (nums l) = l
  | [], _ => flat_nil
  | b :: l, h => by
    have hb := h b (List.mem_cons_self ..)
    have ih := flat_nums (l := l) (fun c hc => h c (List.mem_cons_of_mem _ hc))
    unfold nums at ih ⊢
    rw [List.map_cons, flat_cons, ih, enc_sane (.inl (by omega))]
    unfold encB
    rw [if_pos hb]
    simp
theorem lowB_at {l : List UInt8} (h : lowB l = true) : ∀ b ∈ l, 32 ≤ b.toNat ∧ b.toNat < 128 := by
  intro b hb
  have := List.all_eq_true.1 h b hb
  simpa using this
theorem low_ch {l : List UInt8} (h : lowB l = true) : ch l = some (nums l) := by
  have h1 := lowB_at h
  have h2 := Pr.ch_fine (l := nums l) (fun c hc => by
    obtain ⟨b, hb, rfl⟩ := List.mem_map.1 hc
    have := h1 b hb
    exact ⟨.inl (by omega), Pr.okc_of (by omega) (by omega)⟩)
  rw [flat_nums (fun b hb => (h1 b hb).2)] at h2
  exact h2
/-- a text of such signs, as it is kept -/
theorem low_keep {k : Nat} {l r : List UInt8} (h : lowB l = true) (hm : Pr.mapL (k != 3) (nums l) = nums r) (hr : lowB r = true) (hw : (nums r).any (Pr.wrong k) = false) (hy : Pr.wayB (nums r) = true) : Pr.prepL k l = (r, 0) := by
  rw [Pr.prepL_ch (low_ch h), hm, Pr.prepC_kept hw hy, flat_nums (fun b hb => (lowB_at hr b hb).2)]
/-- signs that stay, and may stand -/
def fitB (k : Nat) (b : UInt8) : Bool := decide (32 ≤ b.toNat) && decide (b.toNat < 128) && (Pr.one (k != 3) b.toNat == [b.toNat]) && !(Pr.wrong k b.toNat) && !(Pr.rl b.toNat)
theorem fit_at {k : Nat} {b : UInt8} (h : fitB k b = true) : 32 ≤ b.toNat ∧ b.toNat < 128 ∧ Pr.one (k != 3) b.toNat = [b.toNat] ∧ Pr.wrong k b.toNat = false ∧ Pr.rl b.toNat = false := by
  unfold fitB at h
  simp only [Bool.and_eq_true, decide_eq_true_eq, beq_iff_eq, Bool.not_eq_true'] at h
  exact ⟨h.1.1.1.1, h.1.1.1.2, h.1.1.2, h.1.2, h.2⟩
theorem fit_prep {k : Nat} {l : List UInt8} (h : ∀ b ∈ l, fitB k b = true) : Pr.prepL k l = (l, 0) := by
  refine low_keep (r := l) ?_ ?_ ?_ ?_ ?_
  · exact List.all_eq_true.2 fun b hb => by have := fit_at (h b hb); simp; omega
  · refine Pr.mapL_stays fun c hc => ?_
    obtain ⟨b, hb, rfl⟩ := List.mem_map.1 hc
    exact (fit_at (h b hb)).2.2.1
  · exact List.all_eq_true.2 fun b hb => by have := fit_at (h b hb); simp; omega
  · refine List.any_eq_false.2 fun c hc => ?_
    obtain ⟨b, hb, rfl⟩ := List.mem_map.1 hc
    rw [(fit_at (h b hb)).2.2.2.1]
    simp
  · have : (nums l).any Pr.rl = false := List.any_eq_false.2 fun c hc => by
      obtain ⟨b, hb, rfl⟩ := List.mem_map.1 hc
      rw [(fit_at (h b hb)).2.2.2.2]
      simp
    unfold Pr.wayB
    rw [this]
    rfl
theorem fit_mem {k : Nat} {l m : List UInt8} (hm : m.all (fitB k) = true) (h : ∀ b ∈ l, b ∈ m) : ∀ b ∈ l, fitB k b = true := fun b hb => List.all_eq_true.1 hm b (h b hb)

theorem parse_eq {s : List UInt8} {c d : List UInt8 × List UInt8 × Bool} (hc : cutB 47 s = c) (hd : halfL c.1 = d) : parseL s = three (domL d.2.1) (part d.2.2 1 d.1) (part c.2.2 3 c.2.1) := by
  subst hc
  subst hd
  rfl
theorem dom_eval {s h d : List UInt8} (h1 : Pr.prepL 2 s = (h, 0)) (h2 : trimD h = d) : domL s = pieced (sizedL 100 (d, 0)) := by
  unfold domL hostL
  rw [h1]
  simp only
  rw [h2]
/-- the error alone, part by part -/
theorem three_e1 {D N R : List UInt8 × Nat} (h : D.2 ≠ 0) : (three D N R).2 = D.2 := by unfold three; rw [if_pos h]
theorem dom_nil : domL [] = ([], 14) := (dom_eval (prep_nil 2) rfl).trans rfl
theorem node_a : part true 1 [97] = ([97], 0) := by
  show sizedL 64 (Pr.prepL 1 [97]) = _
  rw [fit_prep (by decide)]
  decide
def six : List UInt8 := [97, 98, 99, 55, 56, 57]
/-- a word: "x", and at most twenty of six signs -/
structure Word (l : List UInt8) : Prop where
  len : l.length ≤ 21
  ne : ∃ t, l = 120 :: t
  mem : ∀ b ∈ l, b ∈ 120 :: six
theorem Word.fit {l : List UInt8} (h : Word l) (k : Nat) (hk : k = 1 ∨ k = 2 ∨ k = 3) : Pr.prepL k l = (l, 0) := by
  refine fit_prep (fit_mem (m := 120 :: six) ?_ h.mem)
  rcases hk with rfl | rfl | rfl <;> decide
theorem Word.free {l : List UInt8} (h : Word l) {c : UInt8} (hc : c ∉ (120 :: six : List UInt8)) : c ∉ l := fun hm => hc (h.mem c hm)
theorem Word.nn {l : List UInt8} (h : Word l) : l ≠ [] := by obtain ⟨t, rfl⟩ := h.ne; simp
theorem Word.pieces {l : List UInt8} (h : Word l) : (pcs 46 l).any badB = false := by
  rw [pcs_none (h.free (by decide))]
  have hl : l.getLastD 0 ∈ l := by
    rw [List.getLastD_eq_getLast?]
    rcases List.eq_nil_or_concat l with rfl | ⟨t, x, rfl⟩
    · exact absurd rfl h.nn
    · simp
  have h45 : (45 : UInt8) ∉ l := h.free (by decide)
  have h1 : (l.getLastD 0 == 45) = false := by
    cases e : (l.getLastD 0 == 45) with
    | false => rfl
    | true => rw [beq_iff_eq] at e; rw [e] at hl; exact absurd hl h45
  obtain ⟨t, rfl⟩ := h.ne
  simp only [List.any_cons, List.any_nil, Bool.or_false]
  unfold badB
  rw [h1]
  rfl
theorem Word.dom {l : List UInt8} (h : Word l) : domL l = (l, 0) := dom_of (h.fit 2 (.inr (.inl rfl))) h.nn (by have := h.len; omega) h.pieces
/-- what may stand behind a word, in a resource -/
def tails : List (List UInt8) := [[], [47], [64], [47, 64, 32, 47]]
theorem Word.res {l t : List UInt8} (h : Word l) (ht : t ∈ tails) : Pr.prepL 3 (l ++ t) = (l ++ t, 0) ∧ (l ++ t).length ≤ 64 ∧ l ++ t ≠ [] := by
  refine ⟨fit_prep (fit_mem (m := 47 :: 64 :: 32 :: 120 :: six) (by decide) fun b hb => ?_), ?_, fun e => h.nn (List.append_eq_nil_iff.1 e).1⟩
  · rcases List.mem_append.1 hb with hb | hb
    · exact List.mem_cons_of_mem _ (List.mem_cons_of_mem _ (List.mem_cons_of_mem _ (h.mem b hb)))
    · exact (show ∀ t ∈ tails, ∀ b ∈ t, b ∈ (47 :: 64 :: 32 :: 120 :: six : List UInt8) by decide) t ht b hb
  · have := h.len
    unfold tails at ht
    simp only [List.mem_cons, List.not_mem_nil, or_false] at ht
    rcases ht with rfl | rfl | rfl | rfl <;> simp <;> omega
theorem Word.right {l d r t : List UInt8} (hl : Word l) (hd : Word d) (hr : Word r) (ht : t ∈ tails) : Right (l, d, r ++ t) :=
  ⟨hd.dom, hd.nn, .inr ⟨hl.fit 1 (.inl rfl), by have := hl.len; show l.length ≤ 64; omega⟩, .inr ⟨(hr.res ht).1, (hr.res ht).2.1⟩⟩
end Jd
end Go.Proofs.YtogjhpcjjmcjfaaGreatDoor
end
section
/- what is reached of it -/
namespace Go.Proofs.YtogjhpcjjmcjfaaGreatDoor.Ct
open Go.Proofs.YtogjhpcjjmcjfaaGreatDoor Tx Vc
theorem dom_h : Jd.domL [104] = ([104], 0) := Jd.dom_of (Jd.fit_prep (by decide)) (by decide) (by decide) (by decide)
/-- "a@h" -/
theorem bare_ah : Jd.bareL [97, 64, 104] = ([97, 64, 104], 0) := by
  have h : Jd.parseL [97, 64, 104] = (([97], [104], []), 0) := by
    rw [Jd.parse_eq (s := [97, 64, 104]) (c := ([97, 64, 104], [], false)) (d := ([97], [104], true)) (by decide) (by decide)]
    simp only
    rw [dom_h, Jd.node_a]
    rfl
  rw [Jd.bare_ok h rfl]
  rfl
end Go.Proofs.YtogjhpcjjmcjfaaGreatDoor.Ct
end
section
/- what is reached of it -/
namespace Go.Proofs.YtogjhpcjjmcjfaaGreatDoor.Ct
open Go.Proofs.YtogjhpcjjmcjfaaGreatDoor Tx Vc
theorem inode_a : Jd.part true 1 [97] = ([97], 0) := by
  show Jd.sizedL 64 (Pr.prepL 1 [97]) = _
  rw [Jd.fit_prep (by decide)]
  decide
theorem idom_b : Jd.domL [98] = ([98], 0) := Jd.dom_of (Jd.fit_prep (by decide)) (by decide) (by decide) (by decide)
theorem iparse_eq {s : List UInt8} {c d : List UInt8 × List UInt8 × Bool} (hc : Jd.cutB 47 s = c) (hd : Jd.halfL c.1 = d) : Jd.parseL s = Jd.three (Jd.domL d.2.1) (Jd.part d.2.2 1 d.1) (Jd.part c.2.2 3 c.2.1) := by
  subst hc
  subst hd
  rfl
/-- "a@b" -/
theorem ibare_ab : Jd.bareL [97, 64, 98] = ([97, 64, 98], 0) := by
  have h : Jd.parseL [97, 64, 98] = (([97], [98], []), 0) := by
    rw [iparse_eq (s := [97, 64, 98]) (c := ([97, 64, 98], [], false)) (d := ([97], [98], true)) (by decide) (by decide)]
    simp only
    rw [idom_b, inode_a]
    rfl
  rw [Jd.bare_ok h rfl]
  rfl
end Go.Proofs.YtogjhpcjjmcjfaaGreatDoor.Ct
end
