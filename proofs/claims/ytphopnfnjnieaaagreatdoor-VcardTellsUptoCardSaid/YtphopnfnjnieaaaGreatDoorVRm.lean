/- Texts laid together: VRa VRb VRp VRw VRm -/
import Derived.Test.YtphopnfnjnieaaaGreatDoorRows
import Derived.Test.YtphopnfnjnieaaaGreatDoorVce
import Derived.Test.YtphopnfnjnieaaaGreatDoorMem
import Derived.WalkKit
import Derived.WalkSpells
import Derived.WalkLawsBesides
import Derived.Deep.QuietTactic
import Derived.BigQuiet
import Derived.Test.YtphopnfnjnieaaaGreatDoorVUp
import Derived.Test.YtphopnfnjnieaaaGreatDoorVProp
/-
  The document's side of package vcard: cardexref08's letter, wordAt, oneRow.
-/
namespace Go.Proofs.YtphopnfnjnieaaaGreatDoor
open Go.RowKit Vc

theorem get_sign (s : ByteArray) (k : Nat) (hk : k < s.size) : s.data.toList[k]? = some s[k] := by
  rw [List.getElem?_eq_getElem (by rw [← Lib.size_eq]; exact hk)]
  rfl
theorem lett_eq (c : UInt8) : lett c = (decide ((65 : Int) ≤ (c.toNat : Nat)) && decide (((c.toNat : Nat) : Int) ≤ 90) || decide ((97 : Int) ≤ (c.toNat : Nat)) && decide (((c.toNat : Nat) : Int) ≤ 122)) := by
  have H : ∀ k : Fin 256, lett (UInt8.ofNat k.val) = (decide ((65 : Int) ≤ (k.val : Nat)) && decide (((k.val : Nat) : Int) ≤ 90) || decide ((97 : Int) ≤ (k.val : Nat)) && decide (((k.val : Nat) : Int) ≤ 122)) := by decide +kernel
  have := H ⟨c.toNat, c.toNat_lt⟩
  simpa only [UInt8.ofNat_toNat] using this
theorem wc_eq (c : UInt8) : wc c = (lett c || decide ((48 : Int) ≤ (c.toNat : Nat)) && decide (((c.toNat : Nat) : Int) ≤ 57) || decide (((c.toNat : Nat) : Int) = 45)) := by
  have H : ∀ k : Fin 256, wc (UInt8.ofNat k.val) = (lett (UInt8.ofNat k.val) || decide ((48 : Int) ≤ (k.val : Nat)) && decide (((k.val : Nat) : Int) ≤ 57) || decide (((k.val : Nat) : Int) = 45)) := by decide +kernel
  have := H ⟨c.toNat, c.toNat_lt⟩
  simpa only [UInt8.ofNat_toNat] using this
set_option maxHeartbeats 2000000 in
theorem letter_any (c : UInt8) (w : World) : Calls Tryz.prog 63 #[.int .u8 (c.toNat : Nat)] w fun e w' => e = .returned (.bool (lett c)) ∧ w' = w := by
  have HL := Lib.hid (lett_eq c)
  obtain ⟨z, hz⟩ : ∃ z : Int, ((c.toNat : Nat) : Int) = z := ⟨_, rfl⟩
  rw [hz] at HL ⊢
  clear hz
  go_enter Tryz.func63, Tryz.ntmps63
  by_cases h1 : 65 ≤ z <;> by_cases h2 : z ≤ 90 <;> by_cases h3 : 97 ≤ z <;> by_cases h4 : z ≤ 122
  all_goals
    go_wp2_with fail
    go_ret
    exact ⟨by rw [HL.out]; simp [h1, h2, h3, h4], rfl⟩
/-- how far a word goes -/
def reach (l : List UInt8) (k : Nat) : Nat := k + ((l.drop k).takeWhile wc).length
theorem reach_more {l : List UInt8} {k : Nat} {c : UInt8} (h : l[k]? = some c) (hc : wc c = true) : reach l (k + 1) = reach l k := by
  obtain ⟨hk, e⟩ := List.getElem?_eq_some_iff.1 h
  unfold reach
  rw [List.drop_eq_getElem_cons hk, e, List.takeWhile_cons, if_pos hc, List.length_cons]
  omega
theorem reach_end {l : List UInt8} {k : Nat} (h : ∀ c, l[k]? = some c → wc c = false) : reach l k = k := by
  unfold reach
  rcases Nat.lt_or_ge k l.length with hk | hk
  · rw [List.drop_eq_getElem_cons hk, List.takeWhile_cons, h _ (List.getElem?_eq_getElem hk)]
    simp
  · rw [List.drop_eq_nil_of_le hk]
    simp
end Go.Proofs.YtphopnfnjnieaaaGreatDoor
/-
  The document's side of package vcard: cardexref08.oneRow.
-/
namespace Go.Proofs.YtphopnfnjnieaaaGreatDoor
open Go.RowKit Vc

set_option maxHeartbeats 4000000 in
set_option maxRecDepth 100000 in
theorem oneRow_any (s : ByteArray) (w : World) (hs : s.size ≤ 1000000000000) :
    Calls Tryz.prog 50 #[.string s] w fun e w' => (∃ b : Bool, e = .returned (.bool b) ∧ (b = true ↔ Tx.clean s.data.toList)) ∧ w' = w := by
  go_enter Tryz.func50, Tryz.ntmps50
  go_wp2_with fail
  have HC0 : Hid (Tx.clean (s.data.toList.take 0)) := fun c hc => by rw [List.take_zero] at hc; cases hc
  go_loopw [3] (fun iv wr => ∃ (k : Nat), iv = .int .i64 k ∧ k ≤ s.size ∧ Hid (Tx.clean (s.data.toList.take k)) ∧ wr = w) (fun iv _ => s.size - (intOf iv).toNat)
  case atStart => exact ⟨0, rfl, Nat.zero_le _, HC0, rfl⟩
  case round =>
    obtain ⟨k, rfl, hk, HC, rfl⟩ := hrel
    by_cases hlt : k < s.size
    · have hg := get_sign s k hlt
      have HG := Lib.hid hg
      clear hg
      obtain ⟨c, hc⟩ : ∃ c, s[k] = c := ⟨_, rfl⟩
      have hc' : (s[k].toNat : Int) = (c.toNat : Nat) := by rw [hc]
      rw [hc] at HG
      by_cases h1 : c = 10 ∨ c = 13
      · have hno : Hid (¬ Tx.clean s.data.toList) := fun h => by
          have := h c (List.mem_of_getElem? HG.out)
          rcases h1 with h1 | h1
          · exact this.1 h1
          · exact this.2 h1
        have hex : (c.toNat : Int) = 10 ∨ (c.toNat : Int) = 13 := by
          rcases h1 with rfl | rfl
          · exact .inl rfl
          · exact .inr rfl
        clear hc h1
        rw [← hc'] at hex
        clear hc'
        rcases hex with h1 | h1
        all_goals
          go_wp2_with fail
          go_ret
          exact ⟨⟨false, rfl, by simp [hno.out]⟩, rfl⟩
      · have hx : (c.toNat : Int) ≠ 10 ∧ (c.toNat : Int) ≠ 13 := by
          constructor
          · intro e; exact h1 (.inl (UInt8.toNat_inj.1 (by show c.toNat = 10; omega)))
          · intro e; exact h1 (.inr (UInt8.toNat_inj.1 (by show c.toNat = 13; omega)))
        have hnx : Hid (Tx.clean (s.data.toList.take (k + 1))) := by
          unfold Hid
          rw [List.take_add_one, HG.out]
          intro d hd
          rcases List.mem_append.1 hd with hd | hd
          · exact HC.out d hd
          · have : d = c := by simpa using hd
            subst this
            exact ⟨fun e => h1 (.inl e), fun e => h1 (.inr e)⟩
        rw [← hc'] at hx
        have hx1 : (((s[k].toNat : Nat) : Int) == 10) = false := beq_false_of_ne hx.1
        have hx2 : (((s[k].toNat : Nat) : Int) == 13) = false := beq_false_of_ne hx.2
        clear hx
        clear hc hc' h1
        go_wp2_with fail
        go_roundw
        case rel => exact ⟨k + 1, by go_num, by omega, hnx, trivial⟩
        case measure => simp [intOf]; omega
    · have hall : Hid (Tx.clean s.data.toList) := by
        have := HC.out
        rwa [List.take_of_length_le (by rw [← Lib.size_eq]; omega)] at this
      go_wp2_with fail
      go_ret
      exact ⟨⟨true, rfl, by simp [hall.out]⟩, rfl⟩
end Go.Proofs.YtphopnfnjnieaaaGreatDoor
/-
  Places in a line: how far signs of a kind go from a place; a parameter, a head, parameters, by places. Nothing of any program.
-/
namespace Go.Proofs.YtphopnfnjnieaaaGreatDoor
open Go.RowKit Vc

/-- how far signs of a kind go -/
def far (p : UInt8 → Bool) (l : List UInt8) (k : Nat) : Nat := k + ((l.drop k).takeWhile p).length
section
variable {p : UInt8 → Bool} {l : List UInt8} {i j k f : Nat} {c : UInt8}
theorem far_more (h : l[k]? = some c) (hc : p c = true) : far p l (k + 1) = far p l k := by
  obtain ⟨hk, e⟩ := List.getElem?_eq_some_iff.1 h
  unfold far
  rw [List.drop_eq_getElem_cons hk, e, List.takeWhile_cons, if_pos hc, List.length_cons]
  omega
theorem far_end (h : ∀ c, l[k]? = some c → p c = false) : far p l k = k := by
  unfold far
  rcases Nat.lt_or_ge k l.length with hk | hk
  · rw [List.drop_eq_getElem_cons hk, List.takeWhile_cons, h _ (List.getElem?_eq_getElem hk)]
    simp
  · rw [List.drop_eq_nil_of_le hk]
    simp
theorem reach_far : reach l k = far wc l k := rfl
theorem far_ge : k ≤ far p l k := by unfold far; omega
theorem while_le (p : UInt8 → Bool) (l : List UInt8) : (l.takeWhile p).length ≤ l.length := (List.takeWhile_sublist p).length_le
theorem far_le (h : k ≤ l.length) : far p l k ≤ l.length := by
  have := while_le p (l.drop k)
  rw [List.length_drop] at this
  unfold far
  omega
theorem while_take (p : UInt8 → Bool) : ∀ l : List UInt8, l.take (l.takeWhile p).length = l.takeWhile p ∧ l.drop (l.takeWhile p).length = l.dropWhile p
  | [] => ⟨rfl, rfl⟩
  | c :: t => by
    rw [List.takeWhile_cons, List.dropWhile_cons]
    cases p c with
    | true => simp only [if_true, List.length_cons, List.take_succ_cons, List.drop_succ_cons]; exact ⟨by rw [(while_take p t).1], (while_take p t).2⟩
    | false => simp
theorem far_take : (l.drop k).takeWhile p = (l.drop k).take (far p l k - k) := by
  have := (while_take p (l.drop k)).1
  unfold far
  rw [Nat.add_sub_cancel_left, this]
theorem far_drop : (l.drop k).dropWhile p = l.drop (far p l k) := by
  have := (while_take p (l.drop k)).2
  unfold far
  rw [← this, List.drop_drop]
theorem drop_at (h : l[k]? = some c) : l.drop k = c :: l.drop (k + 1) := by
  obtain ⟨hk, e⟩ := List.getElem?_eq_some_iff.1 h
  rw [List.drop_eq_getElem_cons hk, e]
theorem drop_none (h : l[k]? = none) : l.drop k = [] := List.drop_eq_nil_of_le (List.getElem?_eq_none_iff.1 h)
theorem par_none1 (h : reach l i = i) : parL (l.drop i) = none := by
  have h1 : (l.drop i).takeWhile wc = [] := by rw [far_take, ← reach_far, h, Nat.sub_self]; rfl
  unfold parL
  rw [if_pos h1]
theorem par_none2 (hk : reach l i = k) (h : l[k]? ≠ some 61) : parL (l.drop i) = none := by
  unfold parL
  rw [far_drop, ← reach_far, hk]
  split
  · rfl
  · split
    · rename_i r e
      refine absurd ?_ h
      have : (l.drop k)[0]? = some 61 := by rw [e]; rfl
      rwa [List.getElem?_drop] at this
    · rfl
theorem par_some (hk : reach l i = k) (h1 : i ≠ k) (h61 : l[k]? = some 61) : parL (l.drop i) = (pvalL (l.drop (k + 1))).map fun v => ((up ((l.drop i).take (k - i)), v.1), v.2) := by
  have hne : (l.drop i).takeWhile wc ≠ [] := by
    intro e
    apply h1
    rw [← hk]
    unfold reach
    rw [e]
    rfl
  have ht : (l.drop i).takeWhile wc = (l.drop i).take (k - i) := by rw [far_take, ← reach_far, hk]
  have hd : (l.drop i).dropWhile wc = 61 :: l.drop (k + 1) := by rw [far_drop, ← reach_far, hk, drop_at h61]
  unfold parL
  rw [if_neg hne, hd, ht]
  rfl
theorem pval_quote (h : l[f]? = some 34) (hj : far (· != 34) l (f + 1) = j) (hl : l[j]? = some c) : pvalL (l.drop f) = some ((l.drop (f + 1)).take (j - (f + 1)), l.drop (j + 1)) := by
  rw [drop_at h]
  have hd : (l.drop (f + 1)).dropWhile (· != 34) = c :: l.drop (j + 1) := by rw [far_drop, hj, drop_at hl]
  have ht : (l.drop (f + 1)).takeWhile (· != 34) = (l.drop (f + 1)).take (j - (f + 1)) := by rw [far_take, hj]
  show (match (l.drop (f + 1)).dropWhile (· != 34) with
    | [] => none
    | _ :: m => some ((l.drop (f + 1)).takeWhile (· != 34), m)) = _
  rw [hd, ht]
theorem pval_open (h : l[f]? = some 34) (hj : far (· != 34) l (f + 1) = j) (hl : l[j]? = none) : pvalL (l.drop f) = none := by
  rw [drop_at h]
  have hd : (l.drop (f + 1)).dropWhile (· != 34) = [] := by rw [far_drop, hj, drop_none hl]
  show (match (l.drop (f + 1)).dropWhile (· != 34) with
    | [] => none
    | _ :: m => some ((l.drop (f + 1)).takeWhile (· != 34), m)) = _
  rw [hd]
theorem pval_plain (h : l[f]? ≠ some 34) (hj : far free l f = j) : pvalL (l.drop f) = some ((l.drop f).take (j - f), l.drop j) := by
  have ht : (l.drop f).takeWhile free = (l.drop f).take (j - f) := by rw [far_take, hj]
  have hd : (l.drop f).dropWhile free = l.drop j := by rw [far_drop, hj]
  rw [← ht, ← hd]
  unfold pvalL
  split
  · rename_i q e
    refine absurd ?_ h
    have : (l.drop f)[0]? = some 34 := by rw [e]; rfl
    rwa [List.getElem?_drop] at this
  · rfl
theorem head_dot (hi : reach l 0 = i) (h0 : 0 < i) (hd : l[i]? = some 46) (hk : reach l (i + 1) = k) : headL l = (l.take i, up ((l.drop (i + 1)).take (k - (i + 1))), l.drop k) := by
  have ht : l.takeWhile wc = l.take i := by
    have := far_take (p := wc) (l := l) (k := 0)
    rwa [← reach_far, hi, List.drop_zero] at this
  have hdr : l.dropWhile wc = 46 :: l.drop (i + 1) := by
    have := far_drop (p := wc) (l := l) (k := 0)
    rw [← reach_far, hi, List.drop_zero] at this
    rw [this, drop_at hd]
  obtain ⟨c, t, hct⟩ : ∃ c t, l.take i = c :: t := by
    cases e : l.take i with
    | nil =>
      have h2 := congrArg List.length e
      obtain ⟨hk, _⟩ := List.getElem?_eq_some_iff.1 hd
      rw [List.length_take, List.length_nil] at h2
      omega
    | cons c t => exact ⟨c, t, rfl⟩
  have h1 : (l.drop (i + 1)).takeWhile wc = (l.drop (i + 1)).take (k - (i + 1)) := by rw [far_take, ← reach_far, hk]
  have h2 : (l.drop (i + 1)).dropWhile wc = l.drop k := by rw [far_drop, ← reach_far, hk]
  unfold headL
  rw [ht, hdr, hct, ← h1, ← h2]
  rfl
theorem head_plain (hi : reach l 0 = i) (h : ¬ (0 < i ∧ l[i]? = some 46)) : headL l = ([], up (l.take i), l.drop i) := by
  have ht : l.takeWhile wc = l.take i := by
    have := far_take (p := wc) (l := l) (k := 0)
    rwa [← reach_far, hi, List.drop_zero] at this
  have hdr : l.dropWhile wc = l.drop i := by
    have := far_drop (p := wc) (l := l) (k := 0)
    rwa [← reach_far, hi, List.drop_zero] at this
  unfold headL
  rw [ht, hdr]
  split
  · rename_i c w m e1 e2
    refine absurd ⟨?_, ?_⟩ h
    · have := congrArg List.length e1
      rw [List.length_take, List.length_cons] at this
      omega
    · have : (l.drop i)[0]? = some 46 := by rw [e2]; rfl
      rwa [List.getElem?_drop] at this
  · rfl
/-- parameters, one by one -/
theorem pars_step {ps : List Par} {a : Par} {m : List UInt8} (h59 : l[i]? = some 59) (hp : parL (l.drop (i + 1)) = some (a, m)) : parsF (f + 1) ps (l.drop i) = parsF f (ps ++ [a]) m := by
  rw [drop_at h59, parsF]
  simp only [hp]
theorem pars_bad {ps : List Par} (h59 : l[i]? = some 59) (hp : parL (l.drop (i + 1)) = none) : parsF (f + 1) ps (l.drop i) = none := by
  rw [drop_at h59, parsF]
  simp only [hp]
theorem pars_done {ps : List Par} (h59 : l[i]? ≠ some 59) : parsF f ps (l.drop i) = some (ps, l.drop i) := by
  cases f with
  | zero => rfl
  | succ f =>
    unfold parsF
    split
    · rename_i r e
      refine absurd ?_ h59
      have : (l.drop i)[0]? = some 59 := by rw [e]; rfl
      rwa [List.getElem?_drop] at this
    · rfl
end
end Go.Proofs.YtphopnfnjnieaaaGreatDoor
/-
  The document's side of package vcard: cardexref08.wordAt.
-/
namespace Go.Proofs.YtphopnfnjnieaaaGreatDoor
open Go.RowKit Vc

theorem wc_cases (c : UInt8) {z : Int} (h : ((c.toNat : Nat) : Int) = z) : (lett c = true ∧ wc c = true) ∨ (lett c = false ∧ (48 : Int) ≤ z ∧ z ≤ 57 ∧ wc c = true) ∨ (lett c = false ∧ (48 : Int) ≤ z ∧ ¬ z ≤ 57 ∧ z ≠ 45 ∧ wc c = false) ∨ (lett c = false ∧ ¬ (48 : Int) ≤ z ∧ z = 45 ∧ wc c = true) ∨ (lett c = false ∧ ¬ (48 : Int) ≤ z ∧ z ≠ 45 ∧ wc c = false) := by
  have hw := wc_eq c
  rw [h] at hw
  cases hl : lett c with
  | true => exact .inl ⟨rfl, by rw [hw, hl]; rfl⟩
  | false =>
    rw [hl] at hw
    by_cases h1 : (48 : Int) ≤ z
    · by_cases h2 : z ≤ 57
      · exact .inr (.inl ⟨rfl, h1, h2, by rw [hw]; simp [h1, h2]⟩)
      · have h3 : z ≠ 45 := by omega
        exact .inr (.inr (.inl ⟨rfl, h1, h2, h3, by rw [hw]; simp [h1, h2, h3]⟩))
    · by_cases h3 : z = 45
      · exact .inr (.inr (.inr (.inl ⟨rfl, h1, h3, by rw [hw]; simp [h3]⟩)))
      · exact .inr (.inr (.inr (.inr ⟨rfl, h1, h3, by rw [hw]; simp [h1, h3]⟩)))
set_option maxHeartbeats 4000000 in
set_option maxRecDepth 100000 in
theorem wordAt_any (s : ByteArray) (at_ : Nat) (w : World) (ha : at_ ≤ s.size) (hs : s.size ≤ 1000000000000) :
    Calls Tryz.prog 42 #[.string s, .int .i64 at_] w fun e w' => e = .returned (.int .i64 (reach s.data.toList at_ : Nat)) ∧ w' = w := by
  obtain ⟨l, hl⟩ : ∃ l, s.data.toList = l := ⟨_, rfl⟩
  have HL := Lib.hid hl
  rw [hl]
  obtain ⟨R, hR⟩ : ∃ R, reach l at_ = R := ⟨_, rfl⟩
  rw [hR]
  have H0 : Hid (reach l at_ = R) := hR
  clear hl hR
  go_enter Tryz.func42, Tryz.ntmps42
  go_wp2_with fail
  go_loopw [1] (fun iv wr => ∃ (k : Nat), iv = .int .i64 k ∧ k ≤ s.size ∧ Hid (reach l k = R) ∧ wr = w) (fun iv _ => s.size - (intOf iv).toNat)
  case atStart => exact ⟨at_, rfl, ha, H0, rfl⟩
  case round =>
    obtain ⟨k, rfl, hk, HR, rfl⟩ := hrel
    by_cases hlt : k < s.size
    · have gB : decide ((k : Int) < (s.size : Int)) = true := decide_eq_true (by omega)
      have hg := get_sign s k hlt
      rw [HL.out] at hg
      obtain ⟨c, hc⟩ : ∃ c : UInt8, s[k]'hlt = c := ⟨_, rfl⟩
      rw [hc] at hg
      obtain ⟨z, hz⟩ : ∃ z : Int, ((c.toNat : Nat) : Int) = z := ⟨_, rfl⟩
      have hcz : ((((s[k]'hlt).toNat : Nat)) : Int) = z := by rw [hc]; exact hz
      have hq := letter_any c
      rw [hz] at hq
      have hcs := wc_cases c hz
      have HMO := Lib.hid (fun (h : wc c = true) => reach_more hg h)
      have HEN := Lib.hid (fun (h : wc c = false) => reach_end (l := l) (k := k) fun d hd => by rw [hg] at hd; cases hd; exact h)
      clear hg hc hz
      rcases hcs with ⟨h0, hw⟩ | ⟨h0, h1, h2, hw⟩ | ⟨h0, h1, h2, h3, hw⟩ | ⟨h0, h1, h3, hw⟩ | ⟨h0, h1, h3, hw⟩
      · have hnx : Hid (reach l (k + 1) = R) := (HMO.out hw).trans HR.out
        rw [h0] at hq
        have HQ := Lib.hid hq
        clear hw HMO HEN hq h0 HL HR
        go_wp2_with (go_at_call 63; refine (HQ.out _).mono ?_; rintro e w1 ⟨rfl, rfl⟩)
        go_roundw
        case rel => exact ⟨k + 1, by go_num, by omega, hnx, trivial⟩
        case measure => simp [intOf]; omega
      · have d1 : decide ((48 : Int) ≤ z) = true := decide_eq_true h1
        have d2 : decide (z ≤ 57) = true := decide_eq_true h2
        have hnx : Hid (reach l (k + 1) = R) := (HMO.out hw).trans HR.out
        rw [h0] at hq
        have HQ := Lib.hid hq
        clear hw HMO HEN hq h0 HL HR
        go_wp2_with (go_at_call 63; refine (HQ.out _).mono ?_; rintro e w1 ⟨rfl, rfl⟩)
        go_roundw
        case rel => exact ⟨k + 1, by go_num, by omega, hnx, trivial⟩
        case measure => simp [intOf]; omega
      · have d1 : decide ((48 : Int) ≤ z) = true := decide_eq_true h1
        have d2 : decide (z ≤ 57) = false := decide_eq_false h2
        have d3 : (z == 45) = false := beq_false_of_ne h3
        have hr : Hid (k = R) := (HEN.out hw).symm.trans HR.out
        rw [h0] at hq
        have HQ := Lib.hid hq
        clear hw HMO HEN hq h0 HL HR
        go_wp2_with (go_at_call 63; refine (HQ.out _).mono ?_; rintro e w1 ⟨rfl, rfl⟩)
        go_ret
        exact ⟨by rw [← hr.out]; rfl, rfl⟩
      · have d1 : decide ((48 : Int) ≤ z) = false := decide_eq_false h1
        have d3 : (z == 45) = true := by rw [h3]; rfl
        clear h3
        have hnx : Hid (reach l (k + 1) = R) := (HMO.out hw).trans HR.out
        rw [h0] at hq
        have HQ := Lib.hid hq
        clear hw HMO HEN hq h0 HL HR
        go_wp2_with (go_at_call 63; refine (HQ.out _).mono ?_; rintro e w1 ⟨rfl, rfl⟩)
        go_roundw
        case rel => exact ⟨k + 1, by go_num, by omega, hnx, trivial⟩
        case measure => simp [intOf]; omega
      · have d1 : decide ((48 : Int) ≤ z) = false := decide_eq_false h1
        have d3 : (z == 45) = false := beq_false_of_ne h3
        have hr : Hid (k = R) := (HEN.out hw).symm.trans HR.out
        rw [h0] at hq
        have HQ := Lib.hid hq
        clear hw HMO HEN hq h0 HL HR
        go_wp2_with (go_at_call 63; refine (HQ.out _).mono ?_; rintro e w1 ⟨rfl, rfl⟩)
        go_ret
        exact ⟨by rw [← hr.out]; rfl, rfl⟩
    · have gB : decide ((k : Int) < (s.size : Int)) = false := decide_eq_false (by omega)
      have hend : reach l k = k := reach_end fun c hc => by
        rw [List.getElem?_eq_none (by rw [← HL.out, ← Lib.size_eq]; omega)] at hc
        cases hc
      have hr : Hid (k = R) := hend.symm.trans HR.out
      clear hend HL HR
      go_wp2_with fail
      go_ret
      exact ⟨by rw [← hr.out]; rfl, rfl⟩
end Go.Proofs.YtphopnfnjnieaaaGreatDoor
/-
  The document's side of package vcard: cardexref08.param.
-/
namespace Go.Proofs.YtphopnfnjnieaaaGreatDoor
open Go.RowKit Vc

/-- What the document's param answers. -/
def ParA (l : List UInt8) (i : Nat) (e : Ending) : Prop :=
  (parL (l.drop i) = none ∧ e = .returned (.tuple #[.agg #[.string ⟨#[]⟩, .string ⟨#[]⟩], .int .i64 0, .bool false])) ∨
  (∃ (a : Par) (p : Nat), parL (l.drop i) = some (a, l.drop p) ∧ i < p ∧ p ≤ l.length ∧ e = .returned (.tuple #[.agg #[.string (bts a.1), .string (bts a.2)], .int .i64 (p : Nat), .bool true]))
theorem ParA.yes {l v : List UInt8} {i k f p : Nat} (hk : reach l i = k) (h1 : i ≠ k) (h61 : l[k]? = some 61) (hf : f = k + 1) (hv : pvalL (l.drop f) = some (v, l.drop p)) (hip : i < p) (hp : p ≤ l.length) {ub vb : ByteArray} (hu : bts (up ((l.drop i).take (k - i))) = ub) (hvb : bts v = vb) {z : Int} (hz : (p : Int) = z) :
    ParA l i (.returned (.tuple #[.agg #[.string ub, .string vb], .int .i64 z, .bool true])) := by
  subst hf hu hvb hz
  exact .inr ⟨(up ((l.drop i).take (k - i)), v), p, by rw [par_some hk h1 h61, hv]; rfl, hip, hp, rfl⟩
theorem ParA.open {l : List UInt8} {i k : Nat} (hk : reach l i = k) (h1 : i ≠ k) (h61 : l[k]? = some 61) (hv : pvalL (l.drop (k + 1)) = none) : parL (l.drop i) = none := by
  rw [par_some hk h1 h61, hv]; rfl
theorem free_cases (c : UInt8) {z : Int} (h : ((c.toNat : Nat) : Int) = z) : (free c = true ∧ (z == 34) = false ∧ (z == 59) = false ∧ (z == 58) = false ∧ (z == 44) = false) ∨ (free c = false ∧ (z = 34 ∨ z = 59 ∨ z = 58 ∨ z = 44)) := by
  have H : ∀ k : Fin 256, (free (UInt8.ofNat k.val) = true ∧ (((k.val : Nat) : Int) == 34) = false ∧ (((k.val : Nat) : Int) == 59) = false ∧ (((k.val : Nat) : Int) == 58) = false ∧ (((k.val : Nat) : Int) == 44) = false) ∨ (free (UInt8.ofNat k.val) = false ∧ (((k.val : Nat) : Int) = 34 ∨ ((k.val : Nat) : Int) = 59 ∨ ((k.val : Nat) : Int) = 58 ∨ ((k.val : Nat) : Int) = 44)) := by decide +kernel
  have := H ⟨c.toNat, c.toNat_lt⟩
  rw [← h]
  simpa only [UInt8.ofNat_toNat] using this
theorem sign_of {c : UInt8} {z : Int} (h : ((c.toNat : Nat) : Int) = z) (n : Nat) (hn : n < 256) : (c = UInt8.ofNat n ∧ z = n) ∨ (c ≠ UInt8.ofNat n ∧ (z == (n : Int)) = false) := by
  by_cases hc : c.toNat = n
  · refine .inl ⟨?_, by omega⟩
    rw [← hc, UInt8.ofNat_toNat]
  · refine .inr ⟨fun e => hc ?_, beq_false_of_ne (by omega)⟩
    rw [e, UInt8.toNat_ofNat']
    omega
set_option maxHeartbeats 4000000 in
set_option maxRecDepth 100000 in
theorem param_any (s : ByteArray) (i : Nat) (w : World) (hi : i ≤ s.size) (hs : s.size ≤ 1000000000) :
    Calls Tryz.prog 43 #[.string s, .int .i64 i] w fun e w' => ParA s.data.toList i e ∧ Below w.heap.size w w' := by
  obtain ⟨l, hl⟩ : ∃ l, s.data.toList = l := ⟨_, rfl⟩
  have hsz := Lib.size_eq s
  have hw := fun W => wordAt_any s i W hi (by omega)
  have hgs := fun k (h : k < s.size) => get_sign s k h
  have hcut : ∀ a b, s.extract a b = bts ((l.drop a).take (b - a)) := fun a b => by rw [← hl]; exact bts_of mid_cut
  rw [hl] at hsz hw hgs ⊢
  obtain ⟨k, hk⟩ : ∃ k, reach l i = k := ⟨_, rfl⟩
  rw [hk] at hw
  have hik : i ≤ k := by rw [← hk, reach_far]; exact far_ge
  have hkl : k ≤ s.size := by rw [← hk, reach_far, hsz]; exact far_le (by omega)
  have HW := Lib.hid hw
  have HK := Lib.hid hk
  have HSZ := Lib.hid hsz
  have HGS := Lib.hid hgs
  have HCUT := Lib.hid hcut
  have HU := Lib.hid (fun (b : ByteArray) (W : World) (h : b.size ≤ 1000000000000) => rupper_any b W h)
  have hB0 : Hid (Below w.heap.size w (w.alloc (.cells #[.string ⟨#[]⟩, .string ⟨#[]⟩] 38))) := (Below.refl _ w).alloc (Nat.le_refl _) _
  have K0 := Lib.hid (Bk.new w 38 #[.string ⟨#[]⟩, .string ⟨#[]⟩])
  clear hsz hw hgs hcut hk hl
  by_cases hcase : i ≠ k ∧ l[k]? = some 61
  case' neg =>
    have HP : Hid (parL (l.drop i) = none) := by
      by_cases h1 : i = k
      · exact par_none1 (HK.out.trans h1.symm)
      · exact par_none2 HK.out (fun h => hcase ⟨h1, h⟩)
    have hg : (((k : Int) == (i : Int)) = true) ∨ (((k : Int) == (i : Int)) = false ∧ s.size ≤ k) ∨ (((k : Int) == (i : Int)) = false ∧ ∃ h : k < s.size, ((((s[k]'h).toNat : Nat) : Int) != 61) = true) := by
      by_cases h1 : i = k
      · exact .inl (by rw [h1]; exact beq_self_eq_true _)
      · have h1' : ((k : Int) == (i : Int)) = false := beq_false_of_ne (by omega)
        by_cases h2 : k < s.size
        · refine .inr (.inr ⟨h1', h2, bne_iff_ne.2 fun e => hcase ⟨h1, ?_⟩⟩)
          rw [HGS.out k h2]
          congr 1
          exact UInt8.toNat_inj.1 (by show (s[k]'h2).toNat = 61; omega)
        · exact .inr (.inl ⟨h1', by omega⟩)
    clear hcase
    go_enter Tryz.func43, Tryz.ntmps43
    go_wp2_with fail
    refine (HW.out _).mono ?_
    rintro e w1 ⟨rfl, rfl⟩
    obtain ⟨W1, hW1⟩ : ∃ W1, w.alloc (.cells #[.string ⟨#[]⟩, .string ⟨#[]⟩] 38) = W1 := ⟨_, rfl⟩
    have K1 := K0
    have B1 := hB0
    rw [hW1] at K1 B1
    rw [hW1]
    obtain ⟨v0, d0⟩ : ∃ v, W1.cell? ⟨w.heap.size, 0, none⟩ = some v := ⟨_, K1.out.cell 0⟩
    obtain ⟨v1, d1⟩ : ∃ v, W1.cell? ⟨w.heap.size, 1, none⟩ = some v := ⟨_, K1.out.cell 1⟩
    have f0 : W1.frozen? ⟨w.heap.size, 0, none⟩ = false := K1.out.free 0
    have f1 : W1.frozen? ⟨w.heap.size, 1, none⟩ = false := K1.out.free 1
    clear hW1 K0 hB0
    rcases hg with hg | ⟨hg, hg2⟩ | ⟨hg, hlt, hg2⟩
    · go_wp2_with fail
      have KF := two_of K1.out ⟨_, _, rfl⟩ (.string ⟨#[]⟩) (.string ⟨#[]⟩)
      have q0 : World.cell? ((W1.setCell ⟨w.heap.size, 0, none⟩ (.string ⟨#[]⟩)).setCell ⟨w.heap.size, 1, none⟩ (.string ⟨#[]⟩)) ⟨w.heap.size, 0, none⟩ = some (.string ⟨#[]⟩) := KF.cell 0
      have q1 : World.cell? ((W1.setCell ⟨w.heap.size, 0, none⟩ (.string ⟨#[]⟩)).setCell ⟨w.heap.size, 1, none⟩ (.string ⟨#[]⟩)) ⟨w.heap.size, 1, none⟩ = some (.string ⟨#[]⟩) := KF.cell 1
      refine bodyPost_ret (v := .tuple #[.agg #[.string ⟨#[]⟩, .string ⟨#[]⟩], .int .i64 0, .bool false]) (by simp [results, Tryz.results43, go_sem, q0, q1]) rfl ⟨.inl ⟨HP.out, rfl⟩, below_two B1.out (Nat.le_refl _) _ _⟩
    · go_wp2_with fail
      have KF := two_of K1.out ⟨_, _, rfl⟩ (.string ⟨#[]⟩) (.string ⟨#[]⟩)
      have q0 : World.cell? ((W1.setCell ⟨w.heap.size, 0, none⟩ (.string ⟨#[]⟩)).setCell ⟨w.heap.size, 1, none⟩ (.string ⟨#[]⟩)) ⟨w.heap.size, 0, none⟩ = some (.string ⟨#[]⟩) := KF.cell 0
      have q1 : World.cell? ((W1.setCell ⟨w.heap.size, 0, none⟩ (.string ⟨#[]⟩)).setCell ⟨w.heap.size, 1, none⟩ (.string ⟨#[]⟩)) ⟨w.heap.size, 1, none⟩ = some (.string ⟨#[]⟩) := KF.cell 1
      refine bodyPost_ret (v := .tuple #[.agg #[.string ⟨#[]⟩, .string ⟨#[]⟩], .int .i64 0, .bool false]) (by simp [results, Tryz.results43, go_sem, q0, q1]) rfl ⟨.inl ⟨HP.out, rfl⟩, below_two B1.out (Nat.le_refl _) _ _⟩
    · go_wp2_with fail
      have KF := two_of K1.out ⟨_, _, rfl⟩ (.string ⟨#[]⟩) (.string ⟨#[]⟩)
      have q0 : World.cell? ((W1.setCell ⟨w.heap.size, 0, none⟩ (.string ⟨#[]⟩)).setCell ⟨w.heap.size, 1, none⟩ (.string ⟨#[]⟩)) ⟨w.heap.size, 0, none⟩ = some (.string ⟨#[]⟩) := KF.cell 0
      have q1 : World.cell? ((W1.setCell ⟨w.heap.size, 0, none⟩ (.string ⟨#[]⟩)).setCell ⟨w.heap.size, 1, none⟩ (.string ⟨#[]⟩)) ⟨w.heap.size, 1, none⟩ = some (.string ⟨#[]⟩) := KF.cell 1
      refine bodyPost_ret (v := .tuple #[.agg #[.string ⟨#[]⟩, .string ⟨#[]⟩], .int .i64 0, .bool false]) (by simp [results, Tryz.results43, go_sem, q0, q1]) rfl ⟨.inl ⟨HP.out, rfl⟩, below_two B1.out (Nat.le_refl _) _ _⟩
  obtain ⟨hne, h61⟩ := hcase
  have hlt : k < s.size := by have := (List.getElem?_eq_some_iff.1 h61).1; have := HSZ.out; omega
  have hz61 : ((((s[k]'hlt).toNat : Nat)) : Int) = 61 := by
    have := HGS.out k hlt
    rw [h61] at this
    injection this with this
    rw [← this]
    rfl
  have hkb : ((k : Int) == (i : Int)) = false := beq_false_of_ne (by omega)
  have H61 := Lib.hid h61
  have HNE := Lib.hid hne
  have HC1 : Hid (bts (up (s.extract i k).data.toList) = bts (up ((l.drop i).take (k - i)))) := by unfold Hid; rw [HCUT.out]
  have HXS : Hid ((s.extract i k).size ≤ 1000000000000) := by unfold Hid; rw [ByteArray.size_extract]; omega
  clear h61 hne
  go_enter Tryz.func43, Tryz.ntmps43
  go_wp2_with fail
  refine (HW.out _).mono ?_
  rintro e w1 ⟨rfl, rfl⟩
  obtain ⟨W1, hW1⟩ : ∃ W1, w.alloc (.cells #[.string ⟨#[]⟩, .string ⟨#[]⟩] 38) = W1 := ⟨_, rfl⟩
  have K1 := K0
  have B1 := hB0
  rw [hW1] at K1 B1
  rw [hW1]
  clear hW1 K0 hB0
  go_wp2_with fail
  refine (HU.out _ _ HXS.out).mono ?_
  rintro e w2 ⟨rfl, b2⟩
  have B2 : Hid (Below w.heap.size w w2) := B1.out.trans (b2.mono B1.out.size)
  have K2 := Lib.hid (K1.out.below b2 K1.out.lt)
  obtain ⟨ub, hub⟩ : ∃ ub, bts (up (s.extract i k).data.toList) = ub := ⟨_, rfl⟩
  have HUB : Hid (bts (up ((l.drop i).take (k - i))) = ub) := by unfold Hid; rw [← HC1.out]; exact hub
  rw [hub]
  clear hub b2 HC1
  go_upto_region 5 with fail
  obtain ⟨W5, hW5⟩ : ∃ W5, w2.alloc (.cells #[.string ub, .string ⟨#[]⟩] 38) = W5 := ⟨_, rfl⟩
  obtain ⟨Y, hY⟩ : ∃ Y, w2.heap.size = Y := ⟨_, rfl⟩
  have b5 : Below w2.heap.size w2 W5 := by rw [← hW5]; exact (Below.refl _ _).alloc (Nat.le_refl _) _
  have k5 : Bk W5 Y 38 #[.string ub, .string ⟨#[]⟩] := by rw [← hW5, ← hY]; exact Bk.new _ _ _
  have K5 := Lib.hid (K2.out.below b5 K2.out.lt)
  have B5 : Hid (Below w.heap.size w W5) := B2.out.trans (b5.mono B2.out.size)
  have hYw : w.heap.size < Y := by rw [← hY]; exact K2.out.lt
  have HY5 := Lib.hid k5
  have y0 : W5.cell? ⟨Y, 0, none⟩ = some (.string ub) := k5.cell 0
  have y1 : W5.cell? ⟨Y, 1, none⟩ = some (.string ⟨#[]⟩) := k5.cell 1
  have g1 : W5.frozen? ⟨Y, 1, none⟩ = false := k5.free 1
  rw [hW5, hY]
  clear b5 k5 hW5 hY
  obtain ⟨f, hf⟩ : ∃ f, f = k + 1 := ⟨_, rfl⟩
  by_cases hq : ∃ h : f < s.size, ((((s[f]'h).toNat : Nat)) : Int) = 34
  · obtain ⟨hfl, hz34⟩ := hq
    have H34 : Hid (l[f]? = some 34) := by
      unfold Hid
      rw [HGS.out f hfl]
      congr 1
      exact UInt8.toNat_inj.1 (by show (s[f]'hfl).toNat = 34; omega)
    obtain ⟨J, hJ⟩ : ∃ J, far (· != 34) l (f + 1) = J := ⟨_, rfl⟩
    have HJ := Lib.hid hJ
    have hJl : J ≤ s.size := by rw [← hJ, HSZ.out]; exact far_le (by have := HSZ.out; omega)
    have hJf : f + 1 ≤ J := by rw [← hJ]; exact far_ge
    subst hf
    clear hJ hkb hz61
    go_wp2_with fail
    go_loopw [7] (fun iv wr => ∃ (j : Nat), iv = .int .i64 j ∧ k + 1 + 1 ≤ j ∧ j ≤ s.size ∧ Hid (far (· != 34) l j = J) ∧ wr = W5) (fun iv _ => s.size - (intOf iv).toNat)
    case atStart => exact ⟨k + 1 + 1, by go_num, Nat.le_refl _, hfl, HJ, rfl⟩
    case round =>
      obtain ⟨j, rfl, hj1, hj2, HR, rfl⟩ := hrel
      by_cases hjl : j < s.size
      · have gB : decide ((j : Int) < (s.size : Int)) = true := decide_eq_true (by omega)
        have hg := HGS.out j hjl
        obtain ⟨c, hc⟩ : ∃ c : UInt8, s[j]'hjl = c := ⟨_, rfl⟩
        rw [hc] at hg
        obtain ⟨z, hz⟩ : ∃ z : Int, ((c.toNat : Nat) : Int) = z := ⟨_, rfl⟩
        have hcz : ((((s[j]'hjl).toNat : Nat)) : Int) = z := by rw [hc]; exact hz
        rcases sign_of hz 34 (by decide) with ⟨hc34, hz34⟩ | ⟨hc34, hz34⟩
        · have hend : far (· != 34) l j = j := far_end fun d hd => by
            rw [hg] at hd
            cases hd
            rw [hc34]
            rfl
          have HPV : Hid (pvalL (l.drop (k + 1)) = some ((l.drop (k + 1 + 1)).take (j - (k + 1 + 1)), l.drop (j + 1))) :=
            pval_quote H34.out (HJ.out.trans (HR.out.symm.trans hend)) hg
          have gZ : (z != 34) = false := by rw [hz34]; rfl
          clear hg hc hz hc34 hz34 hend HJ HR
          go_upto_region 15 with fail
          obtain ⟨vb, hvb⟩ : ∃ vb, s.extract (k + 1 + 1) j = vb := ⟨_, rfl⟩
          have HVB : Hid (bts ((l.drop (k + 1 + 1)).take (j - (k + 1 + 1))) = vb) := by unfold Hid; rw [← HCUT.out]; exact hvb
          rw [hvb]
          obtain ⟨W6, hW6⟩ : ∃ W6, wr.setCell ⟨Y, 1, none⟩ (.string vb) = W6 := ⟨_, rfl⟩
          have k6 : Bk W6 Y 38 #[.string ub, .string vb] := by rw [← hW6]; exact HY5.out.put 1 _
          have K6 : Hid (Bk W6 w.heap.size 38 #[.string ⟨#[]⟩, .string ⟨#[]⟩]) := by rw [← hW6]; exact (Below.heap_setCell _ _ _ _ (by show w.heap.size ≠ Y; omega)).trans K5.out
          have B6 : Hid (Below w.heap.size w W6) := by rw [← hW6]; exact B5.out.setCell (p := ⟨Y, 1, none⟩) (by show w.heap.size ≤ Y; omega) _
          clear y0 y1 g1
          have y0 : W6.cell? ⟨Y, 0, none⟩ = some (.string ub) := k6.cell 0
          have y1 : W6.cell? ⟨Y, 1, none⟩ = some (.string vb) := k6.cell 1
          rw [hW6]
          clear hW6 k6 hvb
          obtain ⟨v0, d0⟩ : ∃ v, W6.cell? ⟨w.heap.size, 0, none⟩ = some v := ⟨_, K6.out.cell 0⟩
          obtain ⟨v1, d1⟩ : ∃ v, W6.cell? ⟨w.heap.size, 1, none⟩ = some v := ⟨_, K6.out.cell 1⟩
          have f0 : W6.frozen? ⟨w.heap.size, 0, none⟩ = false := K6.out.free 0
          have f1 : W6.frozen? ⟨w.heap.size, 1, none⟩ = false := K6.out.free 1
          go_wp2_with fail
          have KF := two_of K6.out ⟨_, _, rfl⟩ (.string ub) (.string vb)
          have q0 : World.cell? ((W6.setCell ⟨w.heap.size, 0, none⟩ (.string ub)).setCell ⟨w.heap.size, 1, none⟩ (.string vb)) ⟨w.heap.size, 0, none⟩ = some (.string ub) := KF.cell 0
          have q1 : World.cell? ((W6.setCell ⟨w.heap.size, 0, none⟩ (.string ub)).setCell ⟨w.heap.size, 1, none⟩ (.string vb)) ⟨w.heap.size, 1, none⟩ = some (.string vb) := KF.cell 1
          refine bodyPost_ret (v := .tuple #[.agg #[.string ub, .string vb], .int .i64 ((j : Int) + 1), .bool true]) (by simp [results, Tryz.results43, go_sem, q0, q1]) rfl ⟨ParA.yes HK.out HNE.out H61.out rfl HPV.out (by omega) (by have := HSZ.out; omega) HUB.out HVB.out (by omega), below_two B6.out (Nat.le_refl _) _ _⟩
        · have hp : (c != 34) = true := bne_iff_ne.2 hc34
          have hnx : Hid (far (· != 34) l (j + 1) = J) := (far_more (p := (· != 34)) hg hp).trans HR.out
          have gZ : (z != 34) = true := by rw [bne, show (z == 34) = false from hz34]; rfl
          clear hg hc hz hc34 hz34 HJ HR hp
          go_wp2_with fail
          go_roundw
          case rel => exact ⟨j + 1, by go_num, by omega, by omega, hnx, trivial⟩
          case measure => simp [intOf]; omega
      · have gB : decide ((j : Int) < (s.size : Int)) = false := decide_eq_false (by omega)
        have gE : s.size ≤ j := by omega
        have hno : l[j]? = none := List.getElem?_eq_none (by have := HSZ.out; omega)
        have hend : far (· != 34) l j = j := far_end fun d hd => by
          rw [hno] at hd
          cases hd
        have HP : Hid (parL (l.drop i) = none) := ParA.open HK.out HNE.out H61.out (pval_open H34.out (HJ.out.trans (HR.out.symm.trans hend)) hno)
        clear hno hend HJ HR
        have d9 := K5.out
        obtain ⟨v0, d0⟩ : ∃ v, wr.cell? ⟨w.heap.size, 0, none⟩ = some v := ⟨_, K5.out.cell 0⟩
        obtain ⟨v1, d1⟩ : ∃ v, wr.cell? ⟨w.heap.size, 1, none⟩ = some v := ⟨_, K5.out.cell 1⟩
        have f0 : wr.frozen? ⟨w.heap.size, 0, none⟩ = false := K5.out.free 0
        have f1 : wr.frozen? ⟨w.heap.size, 1, none⟩ = false := K5.out.free 1
        clear d9
        go_wp2_with fail
        have KF := two_of K5.out ⟨_, _, rfl⟩ (.string ⟨#[]⟩) (.string ⟨#[]⟩)
        have q0 : World.cell? ((wr.setCell ⟨w.heap.size, 0, none⟩ (.string ⟨#[]⟩)).setCell ⟨w.heap.size, 1, none⟩ (.string ⟨#[]⟩)) ⟨w.heap.size, 0, none⟩ = some (.string ⟨#[]⟩) := KF.cell 0
        have q1 : World.cell? ((wr.setCell ⟨w.heap.size, 0, none⟩ (.string ⟨#[]⟩)).setCell ⟨w.heap.size, 1, none⟩ (.string ⟨#[]⟩)) ⟨w.heap.size, 1, none⟩ = some (.string ⟨#[]⟩) := KF.cell 1
        refine bodyPost_ret (v := .tuple #[.agg #[.string ⟨#[]⟩, .string ⟨#[]⟩], .int .i64 0, .bool false]) (by simp [results, Tryz.results43, go_sem, q0, q1]) rfl ⟨.inl ⟨HP.out, rfl⟩, below_two B5.out (Nat.le_refl _) _ _⟩
  · have H34 : Hid (l[f]? ≠ some 34) := fun e => hq (by
      have hfl : f < s.size := by have := (List.getElem?_eq_some_iff.1 e).1; have := HSZ.out; omega
      refine ⟨hfl, ?_⟩
      have := HGS.out f hfl
      rw [e] at this
      injection this with this
      rw [← this]
      rfl)
    have hg7 : (¬ f < s.size) ∨ (∃ h : f < s.size, ((((s[f]'h).toNat : Nat) : Int) == 34) = false) := by
      by_cases h : f < s.size
      · exact .inr ⟨h, beq_false_of_ne fun e => hq ⟨h, e⟩⟩
      · exact .inl h
    obtain ⟨J, hJ⟩ : ∃ J, far free l f = J := ⟨_, rfl⟩
    have HJ := Lib.hid hJ
    have hfs : f ≤ s.size := by omega
    subst hf
    clear hJ hkb hz61 hq
    rcases hg7 with hfl | ⟨hfl, hg8⟩
    · go_wp2_with fail
      go_loopw [7] (fun iv wr => ∃ (j : Nat), iv = .int .i64 j ∧ k + 1 ≤ j ∧ j ≤ s.size ∧ Hid (far free l j = J) ∧ wr = W5) (fun iv _ => s.size - (intOf iv).toNat)
      case atStart => exact ⟨k + 1, by go_num, Nat.le_refl _, hfs, HJ, rfl⟩
      case round =>
        obtain ⟨j, rfl, hj1, hj2, HR, rfl⟩ := hrel
        have hstop : Hid (far free l j = j → pvalL (l.drop (k + 1)) = some ((l.drop (k + 1)).take (j - (k + 1)), l.drop j)) := fun e => pval_plain H34.out (HJ.out.trans (HR.out.symm.trans e))
        by_cases hjl : j < s.size
        · exact absurd (Nat.lt_of_le_of_lt hj1 hjl) hfl
        · have gB : decide ((j : Int) < (s.size : Int)) = false := decide_eq_false (by omega)
          have HPV := Lib.hid (hstop.out (far_end fun d hd => by
            rw [List.getElem?_eq_none (by have := HSZ.out; omega)] at hd
            cases hd))
          clear HJ HR hstop
          go_upto_region 19 with fail
          obtain ⟨vb, hvb⟩ : ∃ vb, s.extract (k + 1) j = vb := ⟨_, rfl⟩
          have HVB : Hid (bts ((l.drop (k + 1)).take (j - (k + 1))) = vb) := by unfold Hid; rw [← HCUT.out]; exact hvb
          rw [hvb]
          obtain ⟨W6, hW6⟩ : ∃ W6, wr.setCell ⟨Y, 1, none⟩ (.string vb) = W6 := ⟨_, rfl⟩
          have k6 : Bk W6 Y 38 #[.string ub, .string vb] := by rw [← hW6]; exact HY5.out.put 1 _
          have K6 : Hid (Bk W6 w.heap.size 38 #[.string ⟨#[]⟩, .string ⟨#[]⟩]) := by rw [← hW6]; exact (Below.heap_setCell _ _ _ _ (by show w.heap.size ≠ Y; omega)).trans K5.out
          have B6 : Hid (Below w.heap.size w W6) := by rw [← hW6]; exact B5.out.setCell (p := ⟨Y, 1, none⟩) (by show w.heap.size ≤ Y; omega) _
          clear y0 y1 g1
          have y0 : W6.cell? ⟨Y, 0, none⟩ = some (.string ub) := k6.cell 0
          have y1 : W6.cell? ⟨Y, 1, none⟩ = some (.string vb) := k6.cell 1
          rw [hW6]
          clear hW6 k6 hvb
          obtain ⟨v0, d0⟩ : ∃ v, W6.cell? ⟨w.heap.size, 0, none⟩ = some v := ⟨_, K6.out.cell 0⟩
          obtain ⟨v1, d1⟩ : ∃ v, W6.cell? ⟨w.heap.size, 1, none⟩ = some v := ⟨_, K6.out.cell 1⟩
          have f0 : W6.frozen? ⟨w.heap.size, 0, none⟩ = false := K6.out.free 0
          have f1 : W6.frozen? ⟨w.heap.size, 1, none⟩ = false := K6.out.free 1
          go_wp2_with fail
          have KF := two_of K6.out ⟨_, _, rfl⟩ (.string ub) (.string vb)
          have q0 : World.cell? ((W6.setCell ⟨w.heap.size, 0, none⟩ (.string ub)).setCell ⟨w.heap.size, 1, none⟩ (.string vb)) ⟨w.heap.size, 0, none⟩ = some (.string ub) := KF.cell 0
          have q1 : World.cell? ((W6.setCell ⟨w.heap.size, 0, none⟩ (.string ub)).setCell ⟨w.heap.size, 1, none⟩ (.string vb)) ⟨w.heap.size, 1, none⟩ = some (.string vb) := KF.cell 1
          refine bodyPost_ret (v := .tuple #[.agg #[.string ub, .string vb], .int .i64 ((j : Int)), .bool true]) (by simp [results, Tryz.results43, go_sem, q0, q1]) rfl ⟨ParA.yes HK.out HNE.out H61.out rfl HPV.out (by omega) (by have := HSZ.out; omega) HUB.out HVB.out (by omega), below_two B6.out (Nat.le_refl _) _ _⟩
    · go_wp2_with fail
      clear hg8 hfl
      go_loopw [7] (fun iv wr => ∃ (j : Nat), iv = .int .i64 j ∧ k + 1 ≤ j ∧ j ≤ s.size ∧ Hid (far free l j = J) ∧ wr = W5) (fun iv _ => s.size - (intOf iv).toNat)
      case atStart => exact ⟨k + 1, by go_num, Nat.le_refl _, hfs, HJ, rfl⟩
      case round =>
        obtain ⟨j, rfl, hj1, hj2, HR, rfl⟩ := hrel
        have hstop : Hid (far free l j = j → pvalL (l.drop (k + 1)) = some ((l.drop (k + 1)).take (j - (k + 1)), l.drop j)) := fun e => pval_plain H34.out (HJ.out.trans (HR.out.symm.trans e))
        by_cases hjl : j < s.size
        · have gB : decide ((j : Int) < (s.size : Int)) = true := decide_eq_true (by omega)
          have hg := HGS.out j hjl
          obtain ⟨c, hc⟩ : ∃ c : UInt8, s[j]'hjl = c := ⟨_, rfl⟩
          rw [hc] at hg
          obtain ⟨z, hz⟩ : ∃ z : Int, ((c.toNat : Nat) : Int) = z := ⟨_, rfl⟩
          have hcz : ((((s[j]'hjl).toNat : Nat)) : Int) = z := by rw [hc]; exact hz
          rcases free_cases c hz with ⟨hfc, y1, y2, y3, y4⟩ | ⟨hfc, hzz⟩
          · have hnx : Hid (far free l (j + 1) = J) := (far_more (p := free) hg hfc).trans HR.out
            have z1 : (z != 34) = true := by rw [bne, y1]; rfl
            have z2 : (z != 59) = true := by rw [bne, y2]; rfl
            have z3 : (z != 58) = true := by rw [bne, y3]; rfl
            have z4 : (z != 44) = true := by rw [bne, y4]; rfl
            clear hg hc hz HJ HR hfc hstop y1 y2 y3 y4
            go_wp2_with fail
            go_roundw
            case rel => exact ⟨j + 1, by go_num, by omega, by omega, hnx, trivial⟩
            case measure => simp [intOf]; omega
          · have HPV := Lib.hid (hstop.out (far_end fun d hd => by
              rw [hg] at hd
              cases hd
              exact hfc))
            have hz5 : (z != 34) = false ∨ ((z != 34) = true ∧ (z != 59) = false) ∨ ((z != 34) = true ∧ (z != 59) = true ∧ (z != 58) = false) ∨ ((z != 34) = true ∧ (z != 59) = true ∧ (z != 58) = true ∧ (z != 44) = false) := by
              rcases hzz with e | e | e | e <;> rw [e] <;> decide
            clear hg hc hz HJ HR hfc hstop hzz
            rcases hz5 with z1 | ⟨z1, z2⟩ | ⟨z1, z2, z3⟩ | ⟨z1, z2, z3, z4⟩
            all_goals
              go_upto_region 19 with fail
              obtain ⟨vb, hvb⟩ : ∃ vb, s.extract (k + 1) j = vb := ⟨_, rfl⟩
              have HVB : Hid (bts ((l.drop (k + 1)).take (j - (k + 1))) = vb) := by unfold Hid; rw [← HCUT.out]; exact hvb
              rw [hvb]
              obtain ⟨W6, hW6⟩ : ∃ W6, wr.setCell ⟨Y, 1, none⟩ (.string vb) = W6 := ⟨_, rfl⟩
              have k6 : Bk W6 Y 38 #[.string ub, .string vb] := by rw [← hW6]; exact HY5.out.put 1 _
              have K6 : Hid (Bk W6 w.heap.size 38 #[.string ⟨#[]⟩, .string ⟨#[]⟩]) := by rw [← hW6]; exact (Below.heap_setCell _ _ _ _ (by show w.heap.size ≠ Y; omega)).trans K5.out
              have B6 : Hid (Below w.heap.size w W6) := by rw [← hW6]; exact B5.out.setCell (p := ⟨Y, 1, none⟩) (by show w.heap.size ≤ Y; omega) _
              clear y0 y1 g1
              have y0 : W6.cell? ⟨Y, 0, none⟩ = some (.string ub) := k6.cell 0
              have y1 : W6.cell? ⟨Y, 1, none⟩ = some (.string vb) := k6.cell 1
              rw [hW6]
              clear hW6 k6 hvb
              obtain ⟨v0, d0⟩ : ∃ v, W6.cell? ⟨w.heap.size, 0, none⟩ = some v := ⟨_, K6.out.cell 0⟩
              obtain ⟨v1, d1⟩ : ∃ v, W6.cell? ⟨w.heap.size, 1, none⟩ = some v := ⟨_, K6.out.cell 1⟩
              have f0 : W6.frozen? ⟨w.heap.size, 0, none⟩ = false := K6.out.free 0
              have f1 : W6.frozen? ⟨w.heap.size, 1, none⟩ = false := K6.out.free 1
              go_wp2_with fail
              have KF := two_of K6.out ⟨_, _, rfl⟩ (.string ub) (.string vb)
              have q0 : World.cell? ((W6.setCell ⟨w.heap.size, 0, none⟩ (.string ub)).setCell ⟨w.heap.size, 1, none⟩ (.string vb)) ⟨w.heap.size, 0, none⟩ = some (.string ub) := KF.cell 0
              have q1 : World.cell? ((W6.setCell ⟨w.heap.size, 0, none⟩ (.string ub)).setCell ⟨w.heap.size, 1, none⟩ (.string vb)) ⟨w.heap.size, 1, none⟩ = some (.string vb) := KF.cell 1
              refine bodyPost_ret (v := .tuple #[.agg #[.string ub, .string vb], .int .i64 ((j : Int)), .bool true]) (by simp [results, Tryz.results43, go_sem, q0, q1]) rfl ⟨ParA.yes HK.out HNE.out H61.out rfl HPV.out (by omega) (by have := HSZ.out; omega) HUB.out HVB.out (by omega), below_two B6.out (Nat.le_refl _) _ _⟩
        · have gB : decide ((j : Int) < (s.size : Int)) = false := decide_eq_false (by omega)
          have HPV := Lib.hid (hstop.out (far_end fun d hd => by
            rw [List.getElem?_eq_none (by have := HSZ.out; omega)] at hd
            cases hd))
          clear HJ HR hstop
          go_upto_region 19 with fail
          obtain ⟨vb, hvb⟩ : ∃ vb, s.extract (k + 1) j = vb := ⟨_, rfl⟩
          have HVB : Hid (bts ((l.drop (k + 1)).take (j - (k + 1))) = vb) := by unfold Hid; rw [← HCUT.out]; exact hvb
          rw [hvb]
          obtain ⟨W6, hW6⟩ : ∃ W6, wr.setCell ⟨Y, 1, none⟩ (.string vb) = W6 := ⟨_, rfl⟩
          have k6 : Bk W6 Y 38 #[.string ub, .string vb] := by rw [← hW6]; exact HY5.out.put 1 _
          have K6 : Hid (Bk W6 w.heap.size 38 #[.string ⟨#[]⟩, .string ⟨#[]⟩]) := by rw [← hW6]; exact (Below.heap_setCell _ _ _ _ (by show w.heap.size ≠ Y; omega)).trans K5.out
          have B6 : Hid (Below w.heap.size w W6) := by rw [← hW6]; exact B5.out.setCell (p := ⟨Y, 1, none⟩) (by show w.heap.size ≤ Y; omega) _
          clear y0 y1 g1
          have y0 : W6.cell? ⟨Y, 0, none⟩ = some (.string ub) := k6.cell 0
          have y1 : W6.cell? ⟨Y, 1, none⟩ = some (.string vb) := k6.cell 1
          rw [hW6]
          clear hW6 k6 hvb
          obtain ⟨v0, d0⟩ : ∃ v, W6.cell? ⟨w.heap.size, 0, none⟩ = some v := ⟨_, K6.out.cell 0⟩
          obtain ⟨v1, d1⟩ : ∃ v, W6.cell? ⟨w.heap.size, 1, none⟩ = some v := ⟨_, K6.out.cell 1⟩
          have f0 : W6.frozen? ⟨w.heap.size, 0, none⟩ = false := K6.out.free 0
          have f1 : W6.frozen? ⟨w.heap.size, 1, none⟩ = false := K6.out.free 1
          go_wp2_with fail
          have KF := two_of K6.out ⟨_, _, rfl⟩ (.string ub) (.string vb)
          have q0 : World.cell? ((W6.setCell ⟨w.heap.size, 0, none⟩ (.string ub)).setCell ⟨w.heap.size, 1, none⟩ (.string vb)) ⟨w.heap.size, 0, none⟩ = some (.string ub) := KF.cell 0
          have q1 : World.cell? ((W6.setCell ⟨w.heap.size, 0, none⟩ (.string ub)).setCell ⟨w.heap.size, 1, none⟩ (.string vb)) ⟨w.heap.size, 1, none⟩ = some (.string vb) := KF.cell 1
          refine bodyPost_ret (v := .tuple #[.agg #[.string ub, .string vb], .int .i64 ((j : Int)), .bool true]) (by simp [results, Tryz.results43, go_sem, q0, q1]) rfl ⟨ParA.yes HK.out HNE.out H61.out rfl HPV.out (by omega) (by have := HSZ.out; omega) HUB.out HVB.out (by omega), below_two B6.out (Nat.le_refl _) _ _⟩
end Go.Proofs.YtphopnfnjnieaaaGreatDoor
