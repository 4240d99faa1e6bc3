/-
  LINES OUT OF CHARACTERS: what a row of characters is, written; and with a sign below the blank among them. Nothing of any program.
-/
import Derived.Test.YtphopnfnjnieaaaGreatDoorTxt
import Derived.Test.YtphopnfnjnieaaaGreatDoorMem
import Derived.Laws.IdiomStrings
import Derived.Laws.Cover4
namespace Go.Proofs.YtphopnfnjnieaaaGreatDoor.Tx
open Go.Lib

/-- A row of characters, written. -/
def flat (cs : List Nat) : List UInt8 := cs.flatMap enc
theorem flat_nil : flat [] = [] := rfl
theorem flat_append (a b : List Nat) : flat (a ++ b) = flat a ++ flat b := by simp [flat]
theorem flat_one (c : Nat) : flat [c] = enc c := by simp [flat]
/-- Characters that a line may have. -/
def Good (cs : List Nat) : Prop := ∀ c ∈ cs, sane c ∧ okc c = true ∧ 32 ≤ c
theorem Good.nil : Good [] := fun c h => by cases h
theorem Good.snoc {cs : List Nat} {c : Nat} (h : Good cs) (h1 : sane c) (h2 : okc c = true) (h3 : 32 ≤ c) : Good (cs ++ [c]) := by
  intro d hd
  rcases List.mem_append.1 hd with hd | hd
  · exact h d hd
  · rw [List.mem_singleton.1 hd]; exact ⟨h1, h2, h3⟩
theorem ch_flat {cs : List Nat} (h : Good cs) : ch (flat cs) = some cs := by
  induction cs with
  | nil => rw [flat_nil]; exact ch_nil
  | cons c cs ih =>
    have hc := h c (List.mem_cons_self ..)
    have := ch_append (b := flat cs) (ch_enc hc.1 hc.2.1)
    rw [ih (fun d hd => h d (List.mem_cons_of_mem _ hd))] at this
    exact this
theorem low_good {cs : List Nat} (h : Good cs) : low cs = 0 := by
  rw [low_def]
  refine List.length_eq_zero_iff.2 (List.filter_eq_nil_iff.2 fun a ha => ?_)
  have := (h a ha).2.2
  simp
  omega
theorem Good.take {cs : List Nat} (h : Good cs) (k : Nat) : Good (cs.take k) := fun c hc => h c (List.mem_of_mem_take hc)
theorem Good.drop {cs : List Nat} (h : Good cs) (k : Nat) : Good (cs.drop k) := fun c hc => h c (List.mem_of_mem_drop hc)
theorem sane_of {c : Nat} (h : c < 55296 ∨ (57343 < c ∧ c ≤ 1114111)) : sane c := h
theorem enc_97 : enc 97 = [97] := by rw [enc_sane (sane_of (by omega))]; decide
theorem enc_233 : enc 233 = [195, 169] := by rw [enc_sane (sane_of (by omega))]; decide
theorem enc_8364 : enc 8364 = [226, 130, 172] := by rw [enc_sane (sane_of (by omega))]; decide
theorem enc_128512 : enc 128512 = [240, 159, 152, 128] := by rw [enc_sane (sane_of (by omega))]; decide
theorem enc_32 : enc 32 = [32] := by rw [enc_sane (sane_of (by omega))]; decide
/-- A sign below 32 among them: a text where it may stand, else none; a line in no case. -/
theorem low_text {cs : List Nat} (h : Good cs) (q : Nat) (d : Nat) (hd : d < 32) :
    valid (flat (cs.take q) ++ [UInt8.ofNat d] ++ flat (cs.drop q)) = (d == 9 || d == 10 || d == 13) ∧ ∀ most, line (flat (cs.take q) ++ [UInt8.ofNat d] ++ flat (cs.drop q)) most = false := by
  have e1 : enc d = [UInt8.ofNat d] := by
    rw [enc_sane (sane_of (.inl (by omega)))]
    unfold encB
    rw [if_pos (by omega)]
  rw [← e1]
  have h0 := ch_flat (h.take q)
  have hk : okc d = (d == 9 || d == 10 || d == 13) := by
    rw [okc_eq]
    have : decide (32 ≤ d) = false := by simp; omega
    rw [this]
    simp
  rw [← hk, List.append_assoc]
  have h1 := ch_append (b := enc d ++ flat (cs.drop q)) h0
  cases hd2 : okc d with
  | false =>
    have hbad : ch (enc d ++ flat (cs.drop q)) = none := by
      refine ch_bad (by simp [enc_ne]) ?_
      have hn : dc (enc d ++ flat (cs.drop q)) = (d, 1) := by
        rw [e1, dc_bt]
        have b0 : bt ([UInt8.ofNat d] ++ flat (cs.drop q)) 0 = d := by rw [bt_def]; exact toNat_of _ (by omega)
        rw [b0]
        unfold decodeN
        rw [if_pos (by omega)]
      rw [nx_eq, hn, hd2]
      simp
    rw [hbad] at h1
    exact ⟨valid_none h1, fun most => line_none h1 most⟩
  | true =>
    have h2 := ch_append (b := flat (cs.drop q)) (ch_enc (sane_of (.inl (by omega))) hd2)
    rw [ch_flat (h.drop q)] at h2
    rw [h2] at h1
    refine ⟨valid_some h1, fun most => ?_⟩
    rw [line_some h1]
    have : low (cs.take q ++ ([d] ++ cs.drop q)) ≠ 0 := by
      rw [low_def]
      intro h3
      have hm : d ∈ (cs.take q ++ ([d] ++ cs.drop q)).filter (fun c => decide (c < 32)) := by
        rw [List.mem_filter]
        exact ⟨by simp, by simpa using hd⟩
      rw [List.eq_nil_of_length_eq_zero h3] at hm
      cases hm
    have e : (low (cs.take q ++ ([d] ++ cs.drop q)) == 0) = false := by simpa using this
    simp only [e, Bool.false_and]
theorem decode_drop (s : ByteArray) (i : Nat) (_h : i < s.size) : Utf8.decode s i = dc (s.data.toList.drop i) := by
  have g : ∀ k, (s.get! (i + k)) = (s.data.toList.drop i).getD k 0 := fun k => by
    have e : (s.data.toList.drop i).getD k 0 = s.data.toList.getD (i + k) 0 := by simp [List.getD, List.getElem?_drop]
    rw [e]
    cases s with
    | mk d =>
      show d[i + k]! = d.toList.getD (i + k) 0
      by_cases h : i + k < d.size
      · rw [getElem!_pos d _ h]; simp [List.getD, h]
      · rw [getElem!_neg d _ h]; simp [List.getD, h]; rfl
  have g0 := g 0
  rw [Nat.add_zero] at g0
  rw [decode_at, g0, g, g, g, dc_eq, List.length_drop, size_eq]
/-- What '[]rune(s)' reads. -/
def runeVals (cs : List Nat) : List Value := cs.map fun c => .int .i32 (c : Nat)
theorem runes_from (s : ByteArray) : ∀ (bound i : Nat) (acc : Array Value) (cs : List Nat), s.size - i ≤ bound → ch (s.data.toList.drop i) = some cs → Conv.runesFrom s bound i acc = acc ++ (runeVals cs).toArray := by
  intro bound
  induction bound with
  | zero =>
    intro i acc cs hb hc
    have : s.data.toList.drop i = [] := List.drop_eq_nil_of_le (by rw [← size_eq]; omega)
    rw [this, ch_nil] at hc
    obtain rfl : [] = cs := Option.some.inj hc
    unfold Conv.runesFrom runeVals
    simp
  | succ bound ih =>
    intro i acc cs hb hc
    unfold Conv.runesFrom
    by_cases hi : i < s.size
    · rw [if_pos hi]
      have hne := drop_ne (l := s.data.toList) (k := i) (by rw [← size_eq]; exact hi)
      rw [decode_drop s i hi]
      by_cases hn : (nx (s.data.toList.drop i)).2 = 0
      · rw [ch_bad hne hn] at hc; cases hc
      · have hd := (nx_some hn).1
        rw [ch_good hne hn, hd, List.drop_drop] at hc
        have hge := dc_ge1 (s.data.toList.drop i)
        obtain ⟨c, n, hcn⟩ : ∃ c n, dc (s.data.toList.drop i) = (c, n) := ⟨_, _, rfl⟩
        rw [hcn] at hc hge ⊢
        simp only at hc hge ⊢
        cases hr : ch (s.data.toList.drop (i + n)) with
        | none => rw [hr] at hc; cases hc
        | some rest =>
          rw [hr] at hc
          obtain rfl : c :: rest = cs := Option.some.inj hc
          rw [ih (i + n) _ rest (by omega) hr]
          unfold runeVals
          simp
    · rw [if_neg hi]
      have : s.data.toList.drop i = [] := List.drop_eq_nil_of_le (by rw [← size_eq]; omega)
      rw [this, ch_nil] at hc
      obtain rfl : [] = cs := Option.some.inj hc
      unfold runeVals
      simp
attribute [irreducible] flat
end Go.Proofs.YtphopnfnjnieaaaGreatDoor.Tx
