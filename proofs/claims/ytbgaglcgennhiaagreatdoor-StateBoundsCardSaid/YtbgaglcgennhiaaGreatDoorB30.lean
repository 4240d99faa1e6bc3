import Derived.Test.YtbgaglcgennhiaaGreatDoorB24
import Derived.Test.YtbgaglcgennhiaaGreatDoorB17
import Derived.Test.YtbgaglcgennhiaaGreatDoorB23
import Derived.Test.YtbgaglcgennhiaaGreatDoorB29
section
/- what is reached of it -/
namespace Go.Proofs.YtbgaglcgennhiaaGreatDoor.Tx
theorem linesA_conts : ∀ (rs acc : List (List UInt8)) (x : List UInt8), (∀ r ∈ rs, cont r = true) → linesA (acc ++ [x]) rs = some (acc ++ [x ++ rs.flatMap List.tail])
  | [], acc, x, _ => by rw [linesA_nil]; simp
  | r :: rs, acc, x, h => by
    rw [linesA_more _ (h r (by simp)) (by simp), addLast_snoc, linesA_conts rs acc _ (fun r hr => h r (by simp [hr]))]
    simp
/-- R are told rows, cur is the open one: they are one line, of which done is told -/
def AStand (R : List (List UInt8)) (cur done : List UInt8) : Prop :=
  (∀ r ∈ R, clean r ∧ valid r = true) ∧ clean cur ∧ valid cur = true ∧ jn (R ++ [cur]) = done ∧ ∃ f t, R ++ [cur] = f :: t ∧ cont f = false ∧ ∀ r ∈ t, cont r = true
theorem AStand.start : AStand [] [] [] := ⟨fun r h => (by cases h), fun c h => (by cases h), valid_some ch_nil, rfl, [], [], rfl, rfl, fun r h => (by cases h)⟩
theorem AStand.cut {R : List (List UInt8)} {cur done : List UInt8} (h : AStand R cur done) {b : UInt8} (hb : b = 32 ∨ b = 9) : AStand (R ++ [cur]) [b] done := by
  obtain ⟨h1, h2, h3, h4, f, t, h5, h6, h7⟩ := h
  refine ⟨fun r hr => ?_, ?_, ?_, ?_, f, t ++ [[b]], by rw [h5]; simp, h6, fun r hr => ?_⟩
  · rcases List.mem_append.1 hr with hr | hr
    · exact h1 r hr
    · rw [List.mem_singleton] at hr; subst hr; exact ⟨h2, h3⟩
  · intro c hc
    rw [List.mem_singleton] at hc
    subst hc
    rcases hb with rfl | rfl <;> decide
  · rcases hb with rfl | rfl <;> decide +kernel
  · rw [jn_snoc (by simp), h4]
    simp
  · rcases List.mem_append.1 hr with hr | hr
    · exact h7 r hr
    · rw [List.mem_singleton] at hr
      subst hr
      rcases hb with rfl | rfl <;> rfl
theorem AStand.push {R : List (List UInt8)} {cur done e : List UInt8} (h : AStand R cur done) (he : clean e) (hv : valid e = true) (hc : cur ≠ [] ∨ cont e = false) : AStand R (cur ++ e) (done ++ e) := by
  obtain ⟨h1, h2, h3, h4, f, t, h5, h6, h7⟩ := h
  refine ⟨h1, fun c hc => ?_, (valid_append h3 hv).1, ?_, ?_⟩
  · rcases List.mem_append.1 hc with hc | hc
    · exact h2 c hc
    · exact he c hc
  · cases R with
    | nil =>
      rw [List.nil_append] at h4
      rw [← h4]
      simp [jn]
    | cons a R =>
      have hct : cont cur = true := by
        rw [List.cons_append] at h5
        obtain ⟨_, rfl⟩ := List.cons.inj h5
        exact h7 cur (by simp)
      cases cur with
      | nil => cases hct
      | cons c u =>
        rw [jn_snoc (by simp)] at h4 ⊢
        rw [← h4]
        simp
  · cases R with
    | nil =>
      rw [List.nil_append] at h5
      obtain ⟨rfl, rfl⟩ := List.cons.inj h5
      refine ⟨cur ++ e, [], rfl, ?_, fun r h => (by cases h)⟩
      cases cur with
      | nil => exact hc.resolve_left (fun h => h rfl)
      | cons c u => exact h6
    | cons a R =>
      rw [List.cons_append] at h5
      obtain ⟨rfl, rfl⟩ := List.cons.inj h5
      refine ⟨a, R ++ [cur ++ e], by simp, h6, fun r hr => ?_⟩
      rcases List.mem_append.1 hr with hr | hr
      · exact h7 r (by simp [hr])
      · rw [List.mem_singleton] at hr
        subst hr
        have hct := h7 cur (by simp)
        cases cur with
        | nil => cases hct
        | cons c u => exact hct
theorem AStand.done {R : List (List UInt8)} {cur done : List UInt8} (h : AStand R cur done) : Tx.unfold (ends R ++ cur ++ [13, 10]) = some [done] ∧ valid (ends R ++ cur ++ [13, 10]) = true := by
  obtain ⟨h1, h2, h3, h4, f, t, h5, h6, h7⟩ := h
  have e : ends R ++ cur ++ [13, 10] = ends (R ++ [cur]) := by rw [ends_append, ends_cons, ends_nil]; simp
  have hall : ∀ r ∈ R ++ [cur], clean r ∧ valid r = true := fun r hr => by
    rcases List.mem_append.1 hr with hr | hr
    · exact h1 r hr
    · rw [List.mem_singleton] at hr; subst hr; exact ⟨h2, h3⟩
  rw [e]
  refine ⟨?_, ends_valid _ (fun r hr => (hall r hr).2)⟩
  unfold Tx.unfold
  rw [rowsA_ends _ (fun r hr => (hall r hr).1), h5]
  show linesA [] (f :: t) = _
  rw [linesA_new [] t h6, linesA_conts t [] f h7]
  rw [h5] at h4
  rw [← h4]
  rfl
/-- a character of a line, written -/
theorem enc_line {c : Nat} (h1 : sane c) (h2 : okc c = true) (h3 : 32 ≤ c) : clean (enc c) ∧ valid (enc c) = true := by
  refine ⟨fun x hx => ?_, valid_some (ch_enc h1 h2)⟩
  rcases enc_cases h1 with ⟨a, e⟩ | ⟨a, b, e⟩ | ⟨a, b, e⟩ | ⟨a, b, e⟩
  all_goals
    rw [e] at hx
    have key : ∀ k, k < 256 → 32 ≤ k → x = UInt8.ofNat k → x ≠ 10 ∧ x ≠ 13 := fun k hk hk2 hxk => by
      subst hxk
      have := toNat_of k hk
      exact ⟨fun e => by rw [e] at this; simp at this; omega, fun e => by rw [e] at this; simp at this; omega⟩
    simp only [List.mem_cons, List.not_mem_nil, or_false] at hx
  · exact key c (by omega) h3 hx
  · rcases hx with hx | hx
    · exact key _ (by omega) (by omega) hx
    · exact key _ (by omega) (by omega) hx
  · rcases hx with hx | hx | hx
    · exact key _ (by omega) (by omega) hx
    · exact key _ (by omega) (by omega) hx
    · exact key _ (by omega) (by omega) hx
  · rcases hx with hx | hx | hx | hx
    · exact key _ (by omega) (by omega) hx
    · exact key _ (by omega) (by omega) hx
    · exact key _ (by omega) (by omega) hx
    · exact key _ (by omega) (by omega) hx
/-- the characters of a line -/
theorem line_chars {l : List UInt8} {most : Int} (h : line l most = true) : ∃ cs, ch l = some cs ∧ flat cs = l ∧ ∀ c ∈ cs, sane c ∧ okc c = true ∧ 32 ≤ c := by
  cases hc : ch l with
  | none => rw [line_none hc] at h; cases h
  | some cs =>
    rw [line_some hc, Bool.and_eq_true, beq_iff_eq, low_def] at h
    refine ⟨cs, rfl, ch_flat_back _ l cs (Nat.le_refl _) hc, fun c hm => ?_⟩
    obtain ⟨h1, h2⟩ := ch_good_all _ l cs (Nat.le_refl _) hc c hm
    refine ⟨h1, h2, ?_⟩
    rcases Nat.lt_or_ge c 32 with h3 | h3
    · have : c ∈ cs.filter (fun c => decide (c < 32)) := List.mem_filter.2 ⟨hm, decide_eq_true h3⟩
      rw [List.eq_nil_of_length_eq_zero h.1] at this
      cases this
    · exact h3
end Go.Proofs.YtbgaglcgennhiaaGreatDoor.Tx
end
section
/- what is reached of it -/
namespace Go.Proofs.YtbgaglcgennhiaaGreatDoor.Ct
open Go.Proofs.YtbgaglcgennhiaaGreatDoor Tx Vc
/-- A contact: nine texts, its groups, its other properties. -/
structure Con where
  name : List UInt8
  family : List UInt8
  given : List UInt8
  nick : List UInt8
  jid : List UInt8
  email : List UInt8
  tel : List UInt8
  note : List UInt8
  uid : List UInt8
  groups : List (List UInt8)
  other : List Pr
/-- One more, in its place; none twice. -/
def ins (x : List UInt8) : List (List UInt8) → List (List UInt8)
  | [] => [x]
  | y :: t => if Jd.ltL y x then y :: ins x t else if y = x then y :: t else x :: y :: t
/-- Rising, each once, none "". -/
def groupsL (l : List (List UInt8)) : List (List UInt8) := l.foldl (fun out x => if x = [] then out else ins x out) []
/-- each is above the one ahead of it -/
def risingB : List (List UInt8) → Bool
  | [] => true
  | [_] => true
  | x :: y :: t => Jd.ltL x y && risingB (y :: t)
def rightG (l : List (List UInt8)) : Bool := decide (l.length ≤ 8) && l.all (fun g => decide (g ≠ []) && line g 100) && risingB l
theorem rising_tail {x : List UInt8} {t : List (List UInt8)} (h : risingB (x :: t) = true) : risingB t = true := by
  cases t with
  | nil => rfl
  | cons y t => exact (Bool.and_eq_true_iff.1 h).2
theorem rising_lt : ∀ {t : List (List UInt8)} {x : List UInt8}, risingB (x :: t) = true → ∀ y ∈ t, Jd.ltL x y = true
  | [], _, _, y, hy => by cases hy
  | z :: t, x, h, y, hy => by
    obtain ⟨h1, h2⟩ := Bool.and_eq_true_iff.1 h
    rcases List.mem_cons.1 hy with rfl | hy
    · exact h1
    · exact Jd.lt_trans _ _ _ h1 (rising_lt h2 y hy)
/-- a greater one comes to the end -/
theorem ins_last : ∀ {l : List (List UInt8)} {x : List UInt8}, (∀ y ∈ l, Jd.ltL y x = true) → ins x l = l ++ [x]
  | [], _, _ => rfl
  | y :: t, x, h => by
    rw [ins, if_pos (h y List.mem_cons_self), ins_last (fun z hz => h z (List.mem_cons_of_mem _ hz))]
    rfl
theorem groups_fold : ∀ (l out : List (List UInt8)), (∀ g ∈ l, g ≠ []) → risingB l = true → (∀ y ∈ out, ∀ g ∈ l, Jd.ltL y g = true) → l.foldl (fun out x => if x = [] then out else ins x out) out = out ++ l
  | [], out, _, _, _ => by simp
  | x :: t, out, h1, h2, h3 => by
    rw [List.foldl_cons, if_neg (h1 x List.mem_cons_self), ins_last (fun y hy => h3 y hy x List.mem_cons_self), groups_fold t _ (fun g hg => h1 g (List.mem_cons_of_mem _ hg)) (rising_tail h2) ?_, List.append_assoc]
    · rfl
    · intro y hy g hg
      rcases List.mem_append.1 hy with hy | hy
      · exact h3 y hy g (List.mem_cons_of_mem _ hg)
      · rw [List.mem_singleton] at hy
        subst hy
        exact rising_lt h2 g hg
/-- right groups are told as they are -/
theorem groups_right {l : List (List UInt8)} (h : rightG l = true) : groupsL l = l := by
  unfold rightG at h
  simp only [Bool.and_eq_true, decide_eq_true_eq, List.all_eq_true] at h
  exact groups_fold l [] (fun g hg => (h.1.2 g hg).1) h.2 (fun y hy => by cases hy)
/-- what stands behind an insertion -/
theorem ins_mem : ∀ {l : List (List UInt8)} {x y : List UInt8}, y ∈ ins x l ↔ y = x ∨ y ∈ l
  | [], x, y => by simp [ins]
  | z :: t, x, y => by
    rw [ins]
    split
    · rw [List.mem_cons, ins_mem, List.mem_cons]
      constructor
      · rintro (h | h | h)
        · exact .inr (.inl h)
        · exact .inl h
        · exact .inr (.inr h)
      · rintro (h | h | h)
        · exact .inr (.inl h)
        · exact .inl h
        · exact .inr (.inr h)
    · split
      · rename_i _ e
        subst e
        simp
      · simp
theorem ins_rising : ∀ {l : List (List UInt8)} {x : List UInt8}, risingB l = true → risingB (ins x l) = true
  | [], _, _ => rfl
  | y :: t, x, h => by
    rw [ins]
    split
    · rename_i hlt
      have h1 := ins_rising (x := x) (rising_tail h)
      cases hi : ins x t with
      | nil => rfl
      | cons z r =>
        rw [hi] at h1
        have hz : z ∈ ins x t := by rw [hi]; exact List.mem_cons_self
        refine Bool.and_eq_true_iff.2 ⟨?_, h1⟩
        rcases ins_mem.1 hz with rfl | hz
        · exact hlt
        · exact rising_lt h z hz
    · split
      · exact h
      · rename_i h1 h2
        refine Bool.and_eq_true_iff.2 ⟨?_, h⟩
        rcases Jd.lt_tri y x with ⟨h3, _⟩ | ⟨_, h3, _⟩ | ⟨_, _, h3⟩
        · exact absurd h3 h1
        · exact h3
        · exact absurd h3 h2
theorem groups_all (l : List (List UInt8)) : ∀ out, risingB out = true → (∀ g ∈ out, g ≠ []) → risingB (l.foldl (fun out x => if x = [] then out else ins x out) out) = true ∧ ∀ g, g ∈ l.foldl (fun out x => if x = [] then out else ins x out) out ↔ (g ∈ out ∨ (g ∈ l ∧ g ≠ [])) := by
  induction l with
  | nil => exact fun out h1 h2 => ⟨h1, fun g => by simp⟩
  | cons x t ih =>
    intro out h1 h2
    rw [List.foldl_cons]
    by_cases hx : x = []
    · rw [if_pos hx]
      obtain ⟨h3, h4⟩ := ih out h1 h2
      refine ⟨h3, fun g => ?_⟩
      rw [h4 g, List.mem_cons]
      constructor
      · rintro (h | ⟨h, h5⟩)
        · exact .inl h
        · exact .inr ⟨.inr h, h5⟩
      · rintro (h | ⟨h | h, h5⟩)
        · exact .inl h
        · exact absurd (h.trans hx) h5
        · exact .inr ⟨h, h5⟩
    · rw [if_neg hx]
      obtain ⟨h3, h4⟩ := ih (ins x out) (ins_rising h1) (fun g hg => by
        rcases ins_mem.1 hg with rfl | hg
        · exact hx
        · exact h2 g hg)
      refine ⟨h3, fun g => ?_⟩
      rw [h4 g, ins_mem, List.mem_cons]
      constructor
      · rintro ((h | h) | ⟨h, h5⟩)
        · exact .inr ⟨.inl h, by rw [h]; exact hx⟩
        · exact .inl h
        · exact .inr ⟨.inr h, h5⟩
      · rintro (h | ⟨h | h, h5⟩)
        · exact .inl (.inr h)
        · exact .inl (.inl h)
        · exact .inr ⟨h, h5⟩
/-- they are told rising; just those that are there, but "" -/
theorem groups_rising (l : List (List UInt8)) : risingB (groupsL l) = true ∧ ∀ g, g ∈ groupsL l ↔ (g ∈ l ∧ g ≠ []) := by
  obtain ⟨h1, h2⟩ := groups_all l [] rfl (fun g hg => by cases hg)
  refine ⟨h1, fun g => ?_⟩
  have := h2 g
  unfold groupsL
  rw [this]
  constructor
  · rintro (h | h)
    · cases h
    · exact h
  · exact .inr
theorem ins_len : ∀ (l : List (List UInt8)) (x : List UInt8), (ins x l).length ≤ l.length + 1
  | [], _ => Nat.le_refl _
  | y :: t, x => by
    rw [ins]
    have := ins_len t x
    split
    · simp only [List.length_cons]; omega
    · split
      · simp only [List.length_cons]; omega
      · simp only [List.length_cons]; omega
theorem groups_len (l : List (List UInt8)) : (groupsL l).length ≤ l.length := by
  have : ∀ (l out : List (List UInt8)), (l.foldl (fun out x => if x = [] then out else ins x out) out).length ≤ out.length + l.length := by
    intro l
    induction l with
    | nil => exact fun out => by simp
    | cons x t ih =>
      intro out
      rw [List.foldl_cons, List.length_cons]
      split
      · have := ih out; omega
      · have h1 := ih (ins x out)
        have h2 := ins_len out x
        omega
  have h := this l []
  simpa [groupsL] using h
end Go.Proofs.YtbgaglcgennhiaaGreatDoor.Ct
end
section
/- what is reached of it -/
namespace Go.Proofs.YtbgaglcgennhiaaGreatDoor.Ct
open Go.Proofs.YtbgaglcgennhiaaGreatDoor Tx Vc
def bareB (s : List UInt8) : Bool := decide (s = []) || decide (Jd.bareL s = (s, 0))
def textsB (c : Con) : Bool := line c.name 100 && line c.family 100 && line c.given 100 && line c.nick 100 && line c.email 100 && line c.tel 100 && line c.uid 100
def noteB (s : List UInt8) : Bool := valid s && decide ((runes s).length ≤ 500) && s.all (fun b => b != 13)
def rightC (c : Con) : Bool := decide (c.name ≠ []) && textsB c && noteB c.note && bareB c.jid && rightG c.groups && decide ((writeV [c.other]).2 = 0)

def nFN : List UInt8 := [70, 78]
def nN : List UInt8 := [78]
def nNICK : List UInt8 := [78, 73, 67, 75, 78, 65, 77, 69]
def nIMPP : List UInt8 := [73, 77, 80, 80]
def nEMAIL : List UInt8 := [69, 77, 65, 73, 76]
def nTEL : List UInt8 := [84, 69, 76]
def nNOTE : List UInt8 := [78, 79, 84, 69]
def nUID : List UInt8 := [85, 73, 68]
def nCAT : List UInt8 := [67, 65, 84, 69, 71, 79, 82, 73, 69, 83]
def xmppT : List UInt8 := [120, 109, 112, 112, 58]
def namesK : List (List UInt8) := [nFN, nN, nNICK, nIMPP, nEMAIL, nTEL, nNOTE, nUID, nCAT]
/-- Is a property of a known kind? -/
def knownB (p : Pr) : Bool := decide (p.1 = []) && decide (p.2.2.1 = []) && namesK.contains p.2.1 && (decide (p.2.1 ≠ nIMPP) || decide (p.2.2.2.take 5 = xmppT))
/-- .. and none of its kind was there? -/
def knownS (seen : List (List UInt8)) (p : Pr) : Bool := knownB p && !seen.contains p.2.1
def allP : List (List UInt8) → Option (List (List UInt8))
  | [] => some []
  | x :: t => match plain x with
    | none => none
    | some y => (allP t).map (y :: ·)
def manyL (sep : UInt8) (s : List UInt8) : Option (List (List UInt8)) := allP (split1 sep s)
/-- A text of its kind. -/
def setC (n t : List UInt8) (c : Con) : Con :=
  if n = nFN then { c with name := t } else if n = nNICK then { c with nick := t } else if n = nEMAIL then { c with email := t } else if n = nTEL then { c with tel := t } else if n = nNOTE then { c with note := t } else { c with uid := t }
/-- A known property: what is wrong with it (0: nothing), and what there is behind it. -/
def takeC (c : Con) (p : Pr) : Nat × Con :=
  if p.2.1 = nN then (match manyL 59 p.2.2.2 with
    | none => (18, c)
    | some [a, b, [], [], []] => (0, { c with family := a, given := b })
    | some _ => (12, c))
  else if p.2.1 = nCAT then (match manyL 44 p.2.2.2 with
    | none => (18, c)
    | some l => (0, { c with groups := groupsL l }))
  else match plain p.2.2.2 with
    | none => (18, c)
    | some t => if p.2.1 = nIMPP then (if (Jd.bareL (t.drop 5)).2 = 0 then (0, { c with jid := (Jd.bareL (t.drop 5)).1 }) else ((Jd.bareL (t.drop 5)).2, c)) else (0, setC p.2.1 t c)
/-- Who it is so far, which kinds were there. -/
abbrev Sk := Con × List (List UInt8)
def stepK (s : Sk) (p : Pr) : Nat × Sk :=
  if knownS s.2 p then (if (takeC s.1 p).1 = 0 then (0, ((takeC s.1 p).2, s.2 ++ [p.2.1])) else ((takeC s.1 p).1, s)) else (0, ({ s.1 with other := s.1.other ++ [p] }, s.2))
/-- a line has no 13 -/
theorem line_no13 {t : List UInt8} {n : Int} (h : line t n = true) : (13 : UInt8) ∉ t := by
  obtain ⟨cs, h1, h2, h3⟩ := line_chars h
  rw [← h2]
  clear h1 h2 h
  induction cs with
  | nil => simp [flat]
  | cons c cs ih =>
    obtain ⟨k1, k2, k3⟩ := h3 c List.mem_cons_self
    have e : flat (c :: cs) = enc c ++ flat cs := by rw [show c :: cs = [c] ++ cs from rfl, flat_append, flat_one]
    rw [e]
    intro hx
    rcases List.mem_append.1 hx with hx | hx
    · exact ((enc_line k1 k2 k3).1 13 hx).2 rfl
    · exact ih (fun d hd => h3 d (List.mem_cons_of_mem _ hd)) hx
end Go.Proofs.YtbgaglcgennhiaaGreatDoor.Ct
end
