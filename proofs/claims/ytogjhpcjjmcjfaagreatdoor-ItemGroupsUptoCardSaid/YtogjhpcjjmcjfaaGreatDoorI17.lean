import Derived.Test.YtogjhpcjjmcjfaaGreatDoorI02
import Derived.Test.YtogjhpcjjmcjfaaGreatDoorI05
import Derived.Test.YtogjhpcjjmcjfaaGreatDoorI15
import Derived.Lib.Hide
import Derived.Deep.RegionLaw
section
/- what is reached of it -/
namespace Go.Proofs.YtogjhpcjjmcjfaaGreatDoor
open Rg
def lettersL : List R := [(65, 90), (97, 122), (192, 214), (216, 246), (248, 591), (880, 1327), (19968, 40959)]
def bannedL : List R := [(0, 31), (127, 160), (5760, 5760), (8192, 8202), (8232, 8239), (8287, 8287), (12288, 12288), (57344, 63743), (65533, 65535), (917504, 917631), (983040, 1114111)]
def rightLeftL : List R := [(1424, 1535), (1536, 1791), (64285, 64335)]
def goneL : List R := [(173, 173), (847, 847), (6150, 6150), (8203, 8205), (8288, 8288), (65024, 65039), (65279, 65279)]
end Go.Proofs.YtogjhpcjjmcjfaaGreatDoor
end
section
/- what is reached of it -/
namespace Go.Proofs.YtogjhpcjjmcjfaaGreatDoor.Pr
open Go.Proofs.YtogjhpcjjmcjfaaGreatDoor Rg Tx
def gone (c : Nat) : Bool := inL goneL c
def rl (c : Nat) : Bool := inL rightLeftL c
def letter (c : Nat) : Bool := inL lettersL c
/-- what a name of a user may not have beside what is banned -/
def besideBL : List R := [(32, 32), (34, 34), (38, 39), (47, 47), (58, 58), (60, 60), (62, 62), (64, 64)]
/-- what a name of a host may have beside letters -/
def besideLL : List R := [(45, 46), (48, 57)]
def capital (c : Nat) : Bool := decide (65 ≤ c) && decide (c ≤ 90) || decide (192 ≤ c) && decide (c ≤ 222) && !(c == 215)
/-- What a character becomes, in a name without capitals. -/
def small (c : Nat) : List Nat := if c = 223 then [115, 115] else if capital c then [c + 32] else [c]
def put (all : Bool) (c : Nat) : List Nat := if all then small c else [c]
def one (all : Bool) (c : Nat) : List Nat := if gone c then [] else put all c
def mapL (all : Bool) (l : List Nat) : List Nat := l.flatMap (one all)
/-- May the character not stand there? 1: a user's name, 2: a host's, 3: a resource. -/
def wrong : Nat → Nat → Bool
  | 1, c => inL bannedL c || inL besideBL c
  | 2, c => !(inL lettersL c || inL rightLeftL c || inL besideLL c)
  | _, c => inL bannedL c
/-- Is the way right? -/
def wayB (l : List Nat) : Bool := !(l.any rl) || (rl (l.headD 0) && rl (l.getLastD 0) && !(l.any letter))
/-- Are all kept? -/
def prepC (k : Nat) (l : List Nat) : List UInt8 × Nat := if l.any (wrong k) then ([], 15) else if wayB l then (flat l, 0) else ([], 16)
/-- A text as it is kept, or why not. -/
def prepL (k : Nat) (s : List UInt8) : List UInt8 × Nat := if valid s then prepC k (mapL (k != 3) (runes s)) else ([], 3)

theorem prepL_bad {k : Nat} {s : List UInt8} (h : valid s = false) : prepL k s = ([], 3) := by unfold prepL; rw [h]; rfl
theorem prepL_good {k : Nat} {s : List UInt8} (h : valid s = true) : prepL k s = prepC k (mapL (k != 3) (runes s)) := by unfold prepL; rw [h]; rfl
theorem prepC_char {k : Nat} {l : List Nat} (h : l.any (wrong k) = true) : prepC k l = ([], 15) := by unfold prepC; rw [h]; rfl
theorem prepC_ways {k : Nat} {l : List Nat} (h : l.any (wrong k) = false) (h2 : wayB l = false) : prepC k l = ([], 16) := by unfold prepC; rw [h, h2]; rfl
theorem prepC_kept {k : Nat} {l : List Nat} (h : l.any (wrong k) = false) (h2 : wayB l = true) : prepC k l = (flat l, 0) := by unfold prepC; rw [h, h2]; rfl
theorem prepL_ch {k : Nat} {s : List UInt8} {l : List Nat} (h : ch s = some l) : prepL k s = prepC k (mapL (k != 3) l) := by rw [prepL_good (valid_some h), runes_some h]

theorem gone_iff {c : Nat} : gone c = true ↔ c = 173 ∨ c = 847 ∨ c = 6150 ∨ 8203 ≤ c ∧ c ≤ 8205 ∨ c = 8288 ∨ 65024 ≤ c ∧ c ≤ 65039 ∨ c = 65279 := by
  simp [gone, inL, goneL]
  omega
theorem gone_small {c : Nat} (h : c < 173) : gone c = false := by
  cases e : gone c with
  | false => rfl
  | true => have := gone_iff.1 e; omega
theorem capital_iff {c : Nat} : capital c = true ↔ 65 ≤ c ∧ c ≤ 90 ∨ 192 ≤ c ∧ c ≤ 222 ∧ c ≠ 215 := by
  simp [capital]
  omega
/-- It stays as it is. -/
def Stays (all : Bool) (c : Nat) : Prop := one all c = [c]
theorem one_stays (all : Bool) (c : Nat) : ∀ d ∈ one all c, Stays all d := by
  intro d hd
  unfold one at hd
  cases hg : gone c with
  | true => rw [hg] at hd; simp at hd
  | false =>
    rw [hg, if_neg (by simp)] at hd
    unfold put at hd
    unfold Stays one
    cases all with
    | false =>
      simp at hd
      subst hd
      rw [hg, if_neg (by simp)]
      rfl
    | true =>
      simp only [if_true] at hd
      unfold small at hd
      have key : gone d = false ∧ d ≠ 223 ∧ capital d = false → (if gone d = true then [] else put true d) = [d] := by
        rintro ⟨h1, h2, h3⟩
        unfold put small
        rw [h1, h3, if_neg h2]
        rfl
      apply key
      by_cases h2 : c = 223
      · rw [if_pos h2] at hd
        simp at hd
        subst hd
        exact ⟨gone_small (by omega), by omega, by decide⟩
      · rw [if_neg h2] at hd
        cases hc : capital c with
        | false =>
          rw [hc] at hd
          simp at hd
          subst hd
          exact ⟨hg, h2, hc⟩
        | true =>
          rw [hc] at hd
          simp at hd
          subst hd
          have h3 := capital_iff.1 hc
          refine ⟨?_, by omega, ?_⟩
          · cases e : gone (c + 32) with
            | false => rfl
            | true => have := gone_iff.1 e; omega
          · cases e : capital (c + 32) with
            | false => rfl
            | true => have := capital_iff.1 e; omega
/-- A character that a text may have. -/
def Fine (c : Nat) : Prop := sane c ∧ okc c = true
theorem okc_of {c : Nat} (h : 32 ≤ c) (h2 : c < 65534) : okc c = true := by
  rw [okc_eq]
  simp
  omega
theorem one_fine (all : Bool) {c : Nat} (h : Fine c) : ∀ d ∈ one all c, Fine d := by
  intro d hd
  unfold one at hd
  cases hg : gone c with
  | true => rw [hg] at hd; simp at hd
  | false =>
    rw [hg, if_neg (by simp)] at hd
    unfold put at hd
    cases all with
    | false => simp at hd; subst hd; exact h
    | true =>
      simp only [if_true] at hd
      unfold small at hd
      by_cases h2 : c = 223
      · rw [if_pos h2] at hd
        simp at hd
        subst hd
        exact ⟨.inl (by omega), okc_of (by omega) (by omega)⟩
      · rw [if_neg h2] at hd
        cases hc : capital c with
        | false => rw [hc] at hd; simp at hd; subst hd; exact h
        | true =>
          rw [hc] at hd
          simp at hd
          subst hd
          have h3 := capital_iff.1 hc
          exact ⟨.inl (by omega), okc_of (by omega) (by omega)⟩
theorem ch_fine {l : List Nat} (h : ∀ c ∈ l, Fine c) : ch (flat l) = some l := by
  induction l with
  | nil => rw [flat_nil]; exact ch_nil
  | cons c l ih =>
    have hc := h c (List.mem_cons_self ..)
    rw [show c :: l = [c] ++ l from rfl, flat_append, flat_one]
    have := ch_append (b := flat l) (ch_enc hc.1 hc.2)
    rw [ih (fun d hd => h d (List.mem_cons_of_mem _ hd))] at this
    exact this
theorem mapL_stays {all : Bool} {l : List Nat} (h : ∀ c ∈ l, Stays all c) : mapL all l = l := by
  induction l with
  | nil => rfl
  | cons c l ih =>
    have hc : one all c = [c] := h c (List.mem_cons_self ..)
    have h2 := ih (fun d hd => h d (List.mem_cons_of_mem _ hd))
    unfold mapL at h2 ⊢
    rw [List.flatMap_cons, hc, h2]
    rfl
theorem mapL_each {all : Bool} {l : List Nat} {p : Nat → Prop} (h : ∀ c ∈ l, ∀ d ∈ one all c, p d) : ∀ d ∈ mapL all l, p d := by
  intro d hd
  obtain ⟨c, hc, hd⟩ := List.mem_flatMap.1 hd
  exact h c hc d hd
theorem prepC_ok {k : Nat} {l : List Nat} {a : List UInt8} (h : prepC k l = (a, 0)) : l.any (wrong k) = false ∧ wayB l = true ∧ a = flat l := by
  cases h1 : l.any (wrong k) with
  | true => rw [prepC_char h1] at h; simp at h
  | false =>
    cases h2 : wayB l with
    | false => rw [prepC_ways h1 h2] at h; simp at h
    | true => rw [prepC_kept h1 h2] at h; simp at h; exact ⟨rfl, rfl, h.symm⟩
/-- What is kept is kept as it is. -/
theorem prepL_stays {k : Nat} {s a : List UInt8} (h : prepL k s = (a, 0)) : prepL k a = (a, 0) := by
  cases hv : ch s with
  | none => rw [prepL_bad (valid_none hv)] at h; simp at h
  | some l =>
    rw [prepL_ch hv] at h
    obtain ⟨h1, h2, rfl⟩ := prepC_ok h
    have hf : ∀ c ∈ mapL (k != 3) l, Fine c := mapL_each fun c hc => one_fine _ (ch_good_all _ _ _ (Nat.le_refl _) hv c hc)
    have hs : ∀ c ∈ mapL (k != 3) l, Stays (k != 3) c := mapL_each fun c _ => one_stays _ c
    rw [prepL_ch (ch_fine hf), mapL_stays hs]
    exact h
theorem prepL_len (k : Nat) (s : List UInt8) : (prepL k s).1.length ≤ 8 * s.length := by
  cases hv : ch s with
  | none => rw [prepL_bad (valid_none hv)]; simp
  | some l =>
    rw [prepL_ch hv]
    have hl := ch_length _ _ _ (Nat.le_refl _) hv
    have h1 : ∀ x : List Nat, (flat x).length ≤ 4 * x.length := by
      intro x
      induction x with
      | nil => rw [flat_nil]; simp
      | cons c x ih =>
        rw [show c :: x = [c] ++ x from rfl, flat_append, flat_one, List.length_append, List.length_append]
        have := (enc_len (n := c)).2
        simp only [List.length_singleton]
        omega
    have h2 : ∀ x : List Nat, (mapL (k != 3) x).length ≤ 2 * x.length := by
      intro x
      induction x with
      | nil => simp [mapL]
      | cons c x ih =>
        unfold mapL at ih ⊢
        rw [List.flatMap_cons, List.length_append, List.length_cons]
        have : (one (k != 3) c).length ≤ 2 := by
          unfold one put small
          repeat' split
          all_goals simp
        omega
    unfold prepC
    have h3 := h1 (mapL (k != 3) l)
    have h4 := h2 l
    repeat' split
    all_goals (simp only [List.length_nil]; omega)
end Go.Proofs.YtogjhpcjjmcjfaaGreatDoor.Pr
end
section
/- what is reached of it -/
namespace Go.Proofs.YtogjhpcjjmcjfaaGreatDoor
open Go.RowKit Rg
/-- A call makes such a slice. -/
def Makes (f : FuncId) (l : List R) : Prop := ∀ w : World, Calls Tryz.prog f #[] w fun e w' => ∃ v, e = .returned v ∧ OwnR w.heap.size w' v l ∧ Below w.heap.size w w'

theorem made_of {w : World} {n : Nat} {cs : Array Value} {l : List R} (hn : l.length = n) (hc : cs.toList = prs l) (hm : n ≤ maxLen) :
    OwnR w.heap.size (w.alloc (.cells cs 135)) (.slice (some ⟨w.heap.size, 0, none⟩) n n) l ∧ Below w.heap.size w (w.alloc (.cells cs 135)) := ⟨OwnR.made hn hc hm, (Below.refl _ w).alloc (Nat.le_refl _) _⟩

set_option maxHeartbeats 1000000 in
theorem letters_any : Makes 153 lettersL := by
  intro w
  go_enter Tryz.func153, Tryz.ntmps153
  go_wp2_with fail
  go_ret
  exact ⟨_, rfl, made_of (l := lettersL) rfl (by unfold lettersL; simp only [prs_cons, prs_nil]) (by decide)⟩
set_option maxHeartbeats 1000000 in
theorem banned_any : Makes 113 bannedL := by
  intro w
  go_enter Tryz.func113, Tryz.ntmps113
  go_wp2_with fail
  go_ret
  exact ⟨_, rfl, made_of (l := bannedL) rfl (by unfold bannedL; simp only [prs_cons, prs_nil]) (by decide)⟩
set_option maxHeartbeats 1000000 in
theorem rightLeft_any : Makes 154 rightLeftL := by
  intro w
  go_enter Tryz.func154, Tryz.ntmps154
  go_wp2_with fail
  go_ret
  exact ⟨_, rfl, made_of (l := rightLeftL) rfl (by unfold rightLeftL; simp only [prs_cons, prs_nil]) (by decide)⟩
set_option maxHeartbeats 1000000 in
theorem gone_any : Makes 165 goneL := by
  intro w
  go_enter Tryz.func165, Tryz.ntmps165
  go_wp2_with fail
  go_ret
  exact ⟨_, rfl, made_of (l := goneL) rfl (by unfold goneL; simp only [prs_cons, prs_nil]) (by decide)⟩

end Go.Proofs.YtogjhpcjjmcjfaaGreatDoor
end
