import Derived.Test.YtfbdnaclkfmiaaaGreatDoorG22
import Derived.Test.YtfbdnaclkfmiaaaGreatDoorG23
import Derived.Test.YtfbdnaclkfmiaaaGreatDoorG18
import Derived.Test.YtfbdnaclkfmiaaaGreatDoorG02
import Derived.Shelf.Strings.SlTrimAscii
import Derived.Lib.Case
section
/- what is reached of it -/
namespace Go.Proofs.YtfbdnaclkfmiaaaGreatDoor
open Go.RowKit Vc
theorem bts_of {a : ByteArray} {l : List UInt8} (h : a.data.toList = l) : a = bts l := by subst h; rfl
theorem bts_size (l : List UInt8) : (bts l).size = l.length := Lib.size_eq _
theorem toNat_to (c : UInt8) : (UInt8.ofNat c.toNat) = c := by simp
/-- signs -/
def signsL : List UInt8 := [65, 66, 67, 68, 69, 70, 71, 72, 73, 74, 75, 76, 77, 78, 79, 80, 81, 82, 83, 84, 85, 86, 87, 88, 89, 90, 97, 98, 99, 100, 101, 102, 103, 104, 105, 106, 107, 108, 109, 110, 111, 112, 113, 114, 115, 116, 117, 118, 119, 120, 121, 122, 48, 49, 50, 51, 52, 53, 54, 55, 56, 57, 45]
theorem signs_wc (c : UInt8) : signsL.contains c = wc c := by
  have key : ∀ x : Fin 256, signsL.contains (UInt8.ofNat x.val) = wc (UInt8.ofNat x.val) := by decide +kernel
  have := key ⟨c.toNat, UInt8.toNat_lt c⟩
  rwa [toNat_to] at this
theorem free_set (c : UInt8) : ([34, 59, 58, 44] : List UInt8).contains c = !free c := by
  have key : ∀ x : Fin 256, ([34, 59, 58, 44] : List UInt8).contains (UInt8.ofNat x.val) = !free (UInt8.ofNat x.val) := by decide +kernel
  have := key ⟨c.toNat, UInt8.toNat_lt c⟩
  rwa [toNat_to] at this
theorem upper_up (l : List UInt8) : Lib.toUpperA l = up l := by
  unfold Lib.toUpperA up
  refine List.map_congr_left fun c _ => ?_
  have key : ∀ x : Fin 256, Lib.upperB (UInt8.ofNat x.val) = upC (UInt8.ofNat x.val) := by decide +kernel
  have := key ⟨c.toNat, UInt8.toNat_lt c⟩
  rwa [toNat_to] at this
theorem extract_take (s : ByteArray) (n : Nat) : s.extract 0 n = bts (s.data.toList.take n) := bts_of (by rw [mid_cut]; simp)
theorem takeWhile_take_len (p : UInt8 → Bool) : ∀ l : List UInt8, l.take (l.takeWhile p).length = l.takeWhile p
  | [] => rfl
  | c :: t => by
    rw [List.takeWhile_cons]
    cases p c with
    | true => simp [takeWhile_take_len p t]
    | false => rfl
theorem take_while_len (p : UInt8 → Bool) (l : List UInt8) : l.take (l.length - (l.dropWhile p).length) = l.takeWhile p := by
  have h := List.takeWhile_append_dropWhile (p := p) (l := l)
  have h2 : l.length - (l.dropWhile p).length = (l.takeWhile p).length := by
    have := congrArg List.length h
    rw [List.length_append] at this
    omega
  rw [h2]
  exact takeWhile_take_len p l
set_option maxHeartbeats 1000000 in
/-- vcard.word -/
theorem word_any (s : ByteArray) (w : World) (hs : s.size ≤ 1000000000) :
    Calls Tryz.prog 279 #[.string s] w fun e w' => e = .returned (.tuple #[.string (bts (s.data.toList.takeWhile wc)), .string (bts (s.data.toList.dropWhile wc))]) ∧ Below w.heap.size w w' := by
  have H := Any.strings_TrimLeft_laid Tryz.lays161 (show (Tryz.prog.info? 245).map (fun i => (i.zero, i.size)) = some (some (.agg (Array.replicate 256 (.bool false))), 256) by kernel_rfl) s ⟨signsL.toArray⟩ w (by decide) (ascii_of_all (by decide +kernel))
  have e1 : Lib.trimLeftS s.data.toList (⟨signsL.toArray⟩ : ByteArray).data.toList = s.data.toList.dropWhile wc := by
    unfold Lib.trimLeftS
    congr 1
    funext c
    exact signs_wc c
  rw [e1] at H
  obtain ⟨R, hR⟩ : ∃ R, bts (s.data.toList.dropWhile wc) = R := ⟨_, rfl⟩
  have hRl : R.size = (s.data.toList.dropWhile wc).length := by rw [← hR, bts_size]
  have hle : (s.data.toList.dropWhile wc).length ≤ s.size := by rw [Lib.size_eq]; exact (List.dropWhile_sublist wc).length_le
  have hT := take_while_len wc s.data.toList
  rw [← Lib.size_eq, ← hRl] at hT
  obtain ⟨n, hn⟩ : ∃ n, s.size - R.size = n := ⟨_, rfl⟩
  have hni : (s.size : Int) - (R.size : Int) = (n : Int) := by omega
  have hns : n ≤ s.size := by omega
  rw [hn] at hT
  have HE : Hid (s.extract 0 n = bts (s.data.toList.takeWhile wc)) := by unfold Hid; rw [extract_take, hT]
  rw [show (⟨(s.data.toList.dropWhile wc).toArray⟩ : ByteArray) = R from hR] at H
  rw [hR]
  have HO := Lib.hid H
  clear H e1 hRl hle hT hn hR
  go_enter Tryz.func279, Tryz.ntmps279
  go_wp2_with fail
  refine HO.out.mono ?_
  rintro e w1 ⟨rfl, b1⟩
  go_wp2_with fail
  go_ret2
  rw [HE.out]
  exact ⟨rfl, b1⟩
/-- strings.CutPrefix, one sign -/
theorem cutp1_yes (c : UInt8) (s : ByteArray) (t : List UInt8) (w : World) (h : s.data.toList = c :: t) :
    Calls Tryz.prog 262 #[.string s, .string ⟨#[c]⟩] w fun e w' => e = .returned (.tuple #[.string (bts t), .bool true]) ∧ w' = w := by
  have H := Tryz.strings_CutPrefix s ⟨#[c]⟩ w
  rw [h, show (⟨#[c]⟩ : ByteArray).data.toList = [c] from rfl] at H
  have e1 : Lib.hasPrefix (c :: t) [c] = true := by simp [Lib.hasPrefix]
  have e2 : Lib.trimPrefix (c :: t) [c] = t := by unfold Lib.trimPrefix; rw [if_pos e1]; rfl
  rw [e1, e2] at H
  exact H
theorem cutp1_no (c : UInt8) (s : ByteArray) (w : World) (h : s.data.toList.head? ≠ some c) :
    Calls Tryz.prog 262 #[.string s, .string ⟨#[c]⟩] w fun e w' => e = .returned (.tuple #[.string s, .bool false]) ∧ w' = w := by
  have H := Tryz.strings_CutPrefix s ⟨#[c]⟩ w
  rw [show (⟨#[c]⟩ : ByteArray).data.toList = [c] from rfl] at H
  have e1 : Lib.hasPrefix s.data.toList [c] = false := by
    cases hl : s.data.toList with
    | nil => rfl
    | cons x t =>
      rw [hl] at h
      have hx : ¬ x = c := fun e => h (by rw [e]; rfl)
      have hx2 : (c == x) = false := beq_eq_false_iff_ne.2 (fun e => hx e.symm)
      unfold Lib.hasPrefix
      rw [List.isPrefixOf, hx2, Bool.false_and]
  have e2 : Lib.trimPrefix s.data.toList [c] = s.data.toList := by unfold Lib.trimPrefix; rw [if_neg (by rw [e1]; decide)]
  rw [e1, e2] at H
  exact H
/-- strings.Cut, one sign -/
theorem cut1_any (c : UInt8) (s : ByteArray) (w : World) (hM : MaxL w) (hs : s.size ≤ 1000000000) :
    Calls Tryz.prog 113 #[.string s, .string ⟨#[c]⟩] w fun e w' => (∃ p r, s.data.toList = p ++ c :: r ∧ (∀ x ∈ p, x ≠ c) ∧ e = .returned (.tuple #[.string (bts p), .string (bts r), .bool true]) ∨ (∀ x ∈ s.data.toList, x ≠ c) ∧ e = .returned (.tuple #[.string s, .string (bts []), .bool false])) ∧ Below w.heap.size w w' := by
  obtain ⟨m, hm⟩ := hM
  refine (Tryz.strings_Cut s ⟨#[c]⟩ m w (by omega) hm).mono ?_
  rintro e w' ⟨rfl, n, rfl⟩
  refine ⟨?_, below_drewNP w n⟩
  rw [show (⟨#[c]⟩ : ByteArray).data.toList = [c] from rfl]
  rcases cut_one c s.data.toList with ⟨h1, h2⟩ | ⟨p, r, h1, h2, h3⟩
  · rw [h1]
    exact ⟨[], [], .inr ⟨h2, rfl⟩⟩
  · rw [h3]
    exact ⟨p, r, .inl ⟨h1, h2, rfl⟩⟩
end Go.Proofs.YtfbdnaclkfmiaaaGreatDoor
end
section
/- what is reached of it -/
namespace Go.Proofs.YtfbdnaclkfmiaaaGreatDoor
open Go.RowKit Vc
theorem drop_le (p : UInt8 → Bool) (l : List UInt8) : (l.dropWhile p).length ≤ l.length := (List.dropWhile_sublist p).length_le
theorem take_le (p : UInt8 → Bool) (l : List UInt8) : (l.takeWhile p).length ≤ l.length := (List.takeWhile_sublist p).length_le
theorem pval_le {r v m : List UInt8} (h : pvalL r = some (v, m)) : v.length ≤ r.length ∧ m.length ≤ r.length := by
  unfold pvalL at h
  split at h
  · rename_i q
    split at h
    · cases h
    · rename_i m' hm
      injection h with h
      injection h with h1 h2
      have a := take_le (· != 34) q
      have b := drop_le (· != 34) q
      rw [hm] at b
      rw [← h1, ← h2]
      simp only [List.length_cons] at b ⊢
      omega
  · injection h with h
    injection h with h1 h2
    rw [← h1, ← h2]
    exact ⟨take_le _ _, drop_le _ _⟩
theorem par_le {r m : List UInt8} {a : Par} (h : parL r = some (a, m)) : m.length ≤ r.length ∧ a.1.length ≤ r.length ∧ a.2.length ≤ r.length := by
  unfold parL at h
  split at h
  · cases h
  · split at h
    · rename_i q hq
      obtain ⟨v, hv, e⟩ := Option.map_eq_some_iff.1 h
      obtain ⟨h1, h2⟩ := pval_le (v := v.1) (m := v.2) hv
      injection e with e1 e2
      have a := drop_le wc r
      have b := take_le wc r
      rw [hq] at a
      subst e1 e2
      simp only [List.length_cons] at a
      refine ⟨by omega, ?_, by show v.1.length ≤ _; omega⟩
      show (up (r.takeWhile wc)).length ≤ _
      unfold up
      rw [List.length_map]
      exact b
    · cases h
theorem pars_fuel : ∀ (f g : Nat) (t : List UInt8) (ps : List Par), t.length < f → t.length < g → parsF f ps t = parsF g ps t
  | 0, _, _, _, h, _ => by omega
  | _, 0, _, _, _, h => by omega
  | f + 1, g + 1, t, ps, hf, hg => by
    unfold parsF
    cases t with
    | nil => rfl
    | cons c r =>
      by_cases hc : c = 59
      · subst hc
        simp only
        cases hp : parL r with
        | none => rfl
        | some p =>
          obtain ⟨h1, -⟩ := par_le (a := p.1) (m := p.2) hp
          simp only [List.length_cons] at hf hg
          exact pars_fuel f g p.2 (ps ++ [p.1]) (by omega) (by omega)
      · split
        · rename_i e; injection e with e; exact absurd e hc
        · rfl
theorem pars_more (f : Nat) (ps : List Par) (r : List UInt8) : parsF (f + 1) ps (59 :: r) = match parL r with
    | some p => parsF f (ps ++ [p.1]) p.2
    | none => none := rfl
/-- How the parameters stand: ps are told, t is left. -/
def PStandV (l : List UInt8) (ps : List Par) (t : List UInt8) : Prop := t.length ≤ l.length ∧ parsF (l.length + 1) [] l = parsF (t.length + 1) ps t ∧ ps.length ≤ l.length - t.length
theorem PStandV.start (l : List UInt8) : PStandV l [] l := ⟨Nat.le_refl _, rfl, Nat.zero_le _⟩
theorem PStandV.stop {l t : List UInt8} {ps : List Par} (h : PStandV l ps t) (ht : t.head? ≠ some 59) : parsF (l.length + 1) [] l = some (ps, t) := by
  rw [h.2.1]
  unfold parsF
  cases t with
  | nil => rfl
  | cons c r =>
    split
    · rename_i e; injection e with e; exact absurd (by rw [e]; rfl) ht
    · rfl
theorem PStandV.bad {l r : List UInt8} {ps : List Par} (h : PStandV l ps (59 :: r)) (hp : parL r = none) : parsF (l.length + 1) [] l = none := by
  rw [h.2.1, List.length_cons, pars_more, hp]
theorem PStandV.on {l r m : List UInt8} {ps : List Par} {a : Par} (h : PStandV l ps (59 :: r)) (hp : parL r = some (a, m)) : PStandV l (ps ++ [a]) m ∧ m.length < r.length + 1 := by
  obtain ⟨h1, h2, h3⟩ := h
  obtain ⟨h4, -⟩ := par_le hp
  simp only [List.length_cons] at h1 h3
  refine ⟨⟨by omega, ?_, by simp only [List.length_append, List.length_cons, List.length_nil]; omega⟩, by omega⟩
  rw [h2, List.length_cons, pars_more, hp]
  exact pars_fuel (r.length + 1) (m.length + 1) m _ (by omega) (by omega)
/-- a group and a name as they stand, and what is behind them -/
def namesL (l : List UInt8) : List UInt8 × List UInt8 × List UInt8 :=
  match l.takeWhile wc, l.dropWhile wc with
  | c :: w, 46 :: m => (c :: w, m.takeWhile wc, m.dropWhile wc)
  | w, r => ([], w, r)
theorem names_none {l : List UInt8} (h : l.takeWhile wc = [] ∨ (l.dropWhile wc).head? ≠ some 46) : namesL l = ([], l.takeWhile wc, l.dropWhile wc) := by
  unfold namesL
  split
  · rename_i c w m h1 h2
    rw [h1, h2] at h
    rcases h with h | h
    · cases h
    · exact absurd rfl h
  · rfl
theorem names_some {l m : List UInt8} (h1 : l.takeWhile wc ≠ []) (h2 : l.dropWhile wc = 46 :: m) : namesL l = (l.takeWhile wc, m.takeWhile wc, m.dropWhile wc) := by
  unfold namesL
  split
  · rename_i c w m' e1 e2
    rw [e2] at h2
    injection h2 with _ h2
    subst h2
    rw [e1]
  · rename_i hx
    cases ht : l.takeWhile wc with
    | nil => exact absurd ht h1
    | cons c w => exact absurd h2 (fun e => hx c w m ht e)
theorem head_names (l : List UInt8) : headL l = ((namesL l).1, up (namesL l).2.1, (namesL l).2.2) := by
  by_cases h : l.takeWhile wc = [] ∨ (l.dropWhile wc).head? ≠ some 46
  · rw [names_none h]
    unfold headL
    split
    · rename_i c w m h1 h2
      rw [h1, h2] at h
      rcases h with h | h
      · cases h
      · exact absurd rfl h
    · rfl
  · obtain ⟨h1, h2⟩ := not_or.1 h
    obtain ⟨m, hm⟩ : ∃ m, l.dropWhile wc = 46 :: m := by
      cases hd : l.dropWhile wc with
      | nil => rw [hd] at h2; exact absurd (by simp) h2
      | cons x m =>
        rw [hd] at h2
        have h3 : x = 46 := by
          by_cases hx : x = 46
          · exact hx
          · exact absurd (by simpa using hx) h2
        exact ⟨m, by rw [h3]⟩
    rw [names_some h1 hm]
    unfold headL
    split
    · rename_i c w m' e1 e2
      rw [e2] at hm
      injection hm with _ hm
      subst hm
      rw [e1]
    · rename_i hx
      cases ht : l.takeWhile wc with
      | nil => exact absurd ht h1
      | cons c w => exact absurd hm (fun e => hx c w m ht e)
theorem names_le (l : List UInt8) : (namesL l).1.length ≤ l.length ∧ (namesL l).2.1.length ≤ l.length ∧ (namesL l).2.2.length ≤ l.length := by
  have h1 := take_le wc l
  have h2 := drop_le wc l
  unfold namesL
  split
  · rename_i c w m e1 e2
    rw [e1] at h1
    rw [e2] at h2
    have h3 := take_le wc m
    have h4 := drop_le wc m
    simp only [List.length_cons] at h2
    exact ⟨h1, by show (m.takeWhile wc).length ≤ _; omega, by show (m.dropWhile wc).length ≤ _; omega⟩
  · exact ⟨Nat.zero_le _, h1, h2⟩
theorem any_free : ∀ l : List UInt8, (Lib.indexAny l [34, 59, 58, 44] = -1 ∧ l.takeWhile free = l ∧ l.dropWhile free = []) ∨ ∃ i : Nat, Lib.indexAny l [34, 59, 58, 44] = i ∧ i < l.length ∧ l.takeWhile free = l.take i ∧ l.dropWhile free = l.drop i
  | [] => .inl ⟨rfl, rfl, rfl⟩
  | c :: t => by
    have hs := free_set c
    unfold Lib.indexAny
    cases hc : free c with
    | false =>
      rw [hc] at hs
      rw [if_pos (by rw [hs]; rfl)]
      exact .inr ⟨0, rfl, by simp, by rw [List.takeWhile_cons, hc]; rfl, by rw [List.dropWhile_cons, hc]; rfl⟩
    | true =>
      rw [hc] at hs
      rw [if_neg (by rw [hs]; decide), List.takeWhile_cons, List.dropWhile_cons, hc, if_pos rfl, if_pos rfl]
      rcases any_free t with ⟨h1, h2, h3⟩ | ⟨i, h1, h2, h3, h4⟩
      · exact .inl ⟨by rw [h1]; rfl, by rw [h2], h3⟩
      · refine .inr ⟨i + 1, ?_, by simp only [List.length_cons]; omega, by rw [h3, List.take_succ_cons], by rw [h4, List.drop_succ_cons]⟩
        rw [h1]
        have : (((i : Nat) : Int) == -1) = false := beq_eq_false_iff_ne.2 (by omega)
        rw [this]
        simp

set_option maxHeartbeats 2000000 in
set_option maxRecDepth 100000 in
/-- vcard.firstValue -/
theorem firstValue_any (s : ByteArray) (w : World) (hM : MaxL w) (hs : s.size ≤ 1000000000) :
    Calls Tryz.prog 288 #[.string s] w fun e w' => (∃ v m, e = .returned (.tuple #[.string (bts v), .string (bts m), .bool (pvalL s.data.toList).isSome]) ∧ (∀ x, pvalL s.data.toList = some x → x = (v, m))) ∧ Below w.heap.size w w' := by
  have hsz := Lib.size_eq s
  by_cases hq : s.data.toList.head? = some 34
  · obtain ⟨t, ht⟩ : ∃ t, s.data.toList = 34 :: t := by
      cases hl : s.data.toList with
      | nil => rw [hl] at hq; cases hq
      | cons x t => rw [hl] at hq; obtain rfl : x = 34 := by simpa using hq
                    exact ⟨t, rfl⟩
    have HC := Lib.hid (cutp1_yes 34 s t w ht)
    have HK := Lib.hid (fun (W : World) (h : Below w.heap.size w W) => cut1_any 34 (bts t) W (hM.below h) (by rw [bts_size]; rw [ht] at hsz; simp only [List.length_cons] at hsz; omega))
    have HT := Lib.hid ht
    clear hq ht hM
    go_enter Tryz.func288, Tryz.ntmps288
    go_wp2_with fail
    refine HC.out.mono ?_
    rintro e w1 ⟨rfl, rfl⟩
    go_wp2_with fail
    refine (HK.out _ (Below.refl _ _)).mono ?_
    rintro e w2 ⟨⟨p, r, hcase⟩, b2⟩
    rcases hcase with ⟨h1, h2, rfl⟩ | ⟨h2, rfl⟩
    · have HP : Hid (pvalL s.data.toList = some (p, r)) := by
        unfold Hid
        have h1' : t = p ++ 34 :: r := h1
        rw [HT.out, h1']
        have hall : ∀ c ∈ p, (c != 34) = true := fun c hc => bne_iff_ne.2 (h2 c hc)
        unfold pvalL
        simp only
        rw [List.dropWhile_append_of_pos hall, List.takeWhile_append_of_pos hall]
        simp
      clear h1 h2
      go_wp2_with fail
      go_ret3
      rw [HP.out]
      exact ⟨⟨p, r, rfl, fun x hx => (Option.some.inj hx).symm⟩, b2⟩
    · have HP : Hid (pvalL s.data.toList = none) := by
        unfold Hid
        rw [HT.out]
        unfold pvalL
        simp only
        have hall : t.dropWhile (· != 34) = [] := by
          have h3 := (take_all (p := (· != 34)) (w := t) (r := []) (fun c hc => bne_iff_ne.2 (h2 c hc)) (fun c u e => by cases e)).2
          rwa [List.append_nil] at h3
        rw [hall]
      clear h2
      go_wp2_with fail
      go_ret3
      rw [HP.out]
      exact ⟨⟨t, [], rfl, fun x hx => by cases hx⟩, b2⟩
  · have HC := Lib.hid (cutp1_no 34 s w hq)
    have HI := Lib.hid (anyOf_any ⟨#[34, 59, 58, 44]⟩ s w (Asc.of (by decide)) (by decide) (by decide) (by omega))
    have hp : pvalL s.data.toList = some (s.data.toList.takeWhile free, s.data.toList.dropWhile free) := by
      unfold pvalL
      split
      · rename_i e; rw [e] at hq; exact absurd rfl hq
      · rfl
    rw [hp]
    have HP := Lib.hid hp
    clear hq hp hM
    rcases any_free s.data.toList with ⟨h1, h2, h3⟩ | ⟨i, h1, h2, h3, h4⟩
    · rw [show (⟨#[34, 59, 58, 44]⟩ : ByteArray).data.toList = [34, 59, 58, 44] from rfl, h1] at HI
      rw [h2, h3]
      clear h1 h2 h3 hsz
      go_enter Tryz.func288, Tryz.ntmps288
      go_wp2_with fail
      refine HC.out.mono ?_
      rintro e w1 ⟨rfl, rfl⟩
      go_wp2_with fail
      refine HI.out.mono ?_
      rintro e w2 ⟨rfl, b2⟩
      go_wp2_with fail
      go_region
      all_goals
        go_wp2_with fail
        go_ret3
        exact ⟨⟨s.data.toList, [], rfl, fun x hx => (Option.some.inj hx).symm⟩, b2.drew⟩
    · rw [show (⟨#[34, 59, 58, 44]⟩ : ByteArray).data.toList = [34, 59, 58, 44] from rfl, h1] at HI
      rw [h3, h4]
      have HE1 : Hid (s.extract 0 i = bts (s.data.toList.take i)) := extract_take s i
      have HE2 : Hid (s.extract i s.size = bts (s.data.toList.drop i)) := bts_of (Lib.extract_to_end s i)
      have hi2 : i ≤ s.size := by omega
      clear h1 h2 h3 h4 hsz
      go_enter Tryz.func288, Tryz.ntmps288
      go_wp2_with fail
      refine HC.out.mono ?_
      rintro e w1 ⟨rfl, rfl⟩
      go_wp2_with fail
      refine HI.out.mono ?_
      rintro e w2 ⟨rfl, b2⟩
      go_wp2_with fail
      go_region
      all_goals
        go_wp2_with fail
        go_ret3
        rw [HE1.out, HE2.out]
        exact ⟨⟨_, _, rfl, fun x hx => (Option.some.inj hx).symm⟩, b2.drew⟩
end Go.Proofs.YtfbdnaclkfmiaaaGreatDoor
end
