/-
  package vcard: a word, what a text begins with, the value of a parameter, names: what they answer, at every string.
-/
import Derived.Test.YtphopnfnjnieaaaGreatDoorVEqf
import Derived.Test.YtphopnfnjnieaaaGreatDoorVAny
import Derived.Test.YtphopnfnjnieaaaGreatDoorAtt
import Derived.Test.YtphopnfnjnieaaaGreatDoorByt
import Derived.Shelf.Strings.SlTrimAscii
import Derived.Lib.Case
namespace Go.Proofs.YtphopnfnjnieaaaGreatDoor
open Go.RowKit Vc

theorem bts_of {a : ByteArray} {l : List UInt8} (h : a.data.toList = l) : a = bts l := by subst h; rfl
theorem bts_size (l : List UInt8) : (bts l).size = l.length := Lib.size_eq _
theorem toNat_to (c : UInt8) : (UInt8.ofNat c.toNat) = c := by simp
/-- signs -/
def signsL : List UInt8 := [65, 66, 67, 68, 69, 70, 71, 72, 73, 74, 75, 76, 77, 78, 79, 80, 81, 82, 83, 84, 85, 86, 87, 88, 89, 90, 97, 98, 99, 100, 101, 102, 103, 104, 105, 106, 107, 108, 109, 110, 111, 112, 113, 114, 115, 116, 117, 118, 119, 120, 121, 122, 48, 49, 50, 51, 52, 53, 54, 55, 56, 57, 45]
theorem signs_wc (c : UInt8) : signsL.contains c = wc c := by
  have key : ∀ x : Fin 256, signsL.contains (UInt8.ofNat x.val) = wc (UInt8.ofNat x.val) := by decide +kernel
  have := key ⟨c.toNat, UInt8.toNat_lt c⟩
  rwa [toNat_to] at this
theorem free_set (c : UInt8) : ([34, 59, 58, 44] : List UInt8).contains c = !free c := by
  have key : ∀ x : Fin 256, ([34, 59, 58, 44] : List UInt8).contains (UInt8.ofNat x.val) = !free (UInt8.ofNat x.val) := by decide +kernel
  have := key ⟨c.toNat, UInt8.toNat_lt c⟩
  rwa [toNat_to] at this
theorem upper_up (l : List UInt8) : Lib.toUpperA l = up l := by
  unfold Lib.toUpperA up
  refine List.map_congr_left fun c _ => ?_
  have key : ∀ x : Fin 256, Lib.upperB (UInt8.ofNat x.val) = upC (UInt8.ofNat x.val) := by decide +kernel
  have := key ⟨c.toNat, UInt8.toNat_lt c⟩
  rwa [toNat_to] at this
theorem extract_take (s : ByteArray) (n : Nat) : s.extract 0 n = bts (s.data.toList.take n) := bts_of (by rw [mid_cut]; simp)
theorem takeWhile_take_len (p : UInt8 → Bool) : ∀ l : List UInt8, l.take (l.takeWhile p).length = l.takeWhile p
  | [] => rfl
  | c :: t => by
    rw [List.takeWhile_cons]
    cases p c with
    | true => simp [takeWhile_take_len p t]
    | false => rfl
theorem take_while_len (p : UInt8 → Bool) (l : List UInt8) : l.take (l.length - (l.dropWhile p).length) = l.takeWhile p := by
  have h := List.takeWhile_append_dropWhile (p := p) (l := l)
  have h2 : l.length - (l.dropWhile p).length = (l.takeWhile p).length := by
    have := congrArg List.length h
    rw [List.length_append] at this
    omega
  rw [h2]
  exact takeWhile_take_len p l
set_option maxHeartbeats 1000000 in
/-- vcard.word -/
theorem word_any (s : ByteArray) (w : World) (hs : s.size ≤ 1000000000) :
    Calls Tryz.prog 94 #[.string s] w fun e w' => e = .returned (.tuple #[.string (bts (s.data.toList.takeWhile wc)), .string (bts (s.data.toList.dropWhile wc))]) ∧ Below w.heap.size w w' := by
  have H := Any.strings_TrimLeft_laid Tryz.lays161 (show (Tryz.prog.info? 129).map (fun i => (i.zero, i.size)) = some (some (.agg (Array.replicate 256 (.bool false))), 256) by kernel_rfl) s ⟨signsL.toArray⟩ w (by decide) (ascii_of_all (by decide +kernel))
  have e1 : Lib.trimLeftS s.data.toList (⟨signsL.toArray⟩ : ByteArray).data.toList = s.data.toList.dropWhile wc := by
    unfold Lib.trimLeftS
    congr 1
    funext c
    exact signs_wc c
  rw [e1] at H
  obtain ⟨R, hR⟩ : ∃ R, bts (s.data.toList.dropWhile wc) = R := ⟨_, rfl⟩
  have hRl : R.size = (s.data.toList.dropWhile wc).length := by rw [← hR, bts_size]
  have hle : (s.data.toList.dropWhile wc).length ≤ s.size := by rw [Lib.size_eq]; exact (List.dropWhile_sublist wc).length_le
  have hT := take_while_len wc s.data.toList
  rw [← Lib.size_eq, ← hRl] at hT
  obtain ⟨n, hn⟩ : ∃ n, s.size - R.size = n := ⟨_, rfl⟩
  have hni : (s.size : Int) - (R.size : Int) = (n : Int) := by omega
  have hns : n ≤ s.size := by omega
  rw [hn] at hT
  have HE : Hid (s.extract 0 n = bts (s.data.toList.takeWhile wc)) := by unfold Hid; rw [extract_take, hT]
  rw [show (⟨(s.data.toList.dropWhile wc).toArray⟩ : ByteArray) = R from hR] at H
  rw [hR]
  have HO := Lib.hid H
  clear H e1 hRl hle hT hn hR
  go_enter Tryz.func94, Tryz.ntmps94
  go_wp2_with fail
  refine HO.out.mono ?_
  rintro e w1 ⟨rfl, b1⟩
  go_wp2_with fail
  go_ret2
  rw [HE.out]
  exact ⟨rfl, b1⟩
/-- strings.CutPrefix, one sign -/
theorem cutp1_yes (c : UInt8) (s : ByteArray) (t : List UInt8) (w : World) (h : s.data.toList = c :: t) :
    Calls Tryz.prog 79 #[.string s, .string ⟨#[c]⟩] w fun e w' => e = .returned (.tuple #[.string (bts t), .bool true]) ∧ w' = w := by
  have H := Tryz.strings_CutPrefix s ⟨#[c]⟩ w
  rw [h, show (⟨#[c]⟩ : ByteArray).data.toList = [c] from rfl] at H
  have e1 : Lib.hasPrefix (c :: t) [c] = true := by simp [Lib.hasPrefix]
  have e2 : Lib.trimPrefix (c :: t) [c] = t := by unfold Lib.trimPrefix; rw [if_pos e1]; rfl
  rw [e1, e2] at H
  exact H
theorem cutp1_no (c : UInt8) (s : ByteArray) (w : World) (h : s.data.toList.head? ≠ some c) :
    Calls Tryz.prog 79 #[.string s, .string ⟨#[c]⟩] w fun e w' => e = .returned (.tuple #[.string s, .bool false]) ∧ w' = w := by
  have H := Tryz.strings_CutPrefix s ⟨#[c]⟩ w
  rw [show (⟨#[c]⟩ : ByteArray).data.toList = [c] from rfl] at H
  have e1 : Lib.hasPrefix s.data.toList [c] = false := by
    cases hl : s.data.toList with
    | nil => rfl
    | cons x t =>
      rw [hl] at h
      have hx : ¬ x = c := fun e => h (by rw [e]; rfl)
      have hx2 : (c == x) = false := beq_eq_false_iff_ne.2 (fun e => hx e.symm)
      unfold Lib.hasPrefix
      rw [List.isPrefixOf, hx2, Bool.false_and]
  have e2 : Lib.trimPrefix s.data.toList [c] = s.data.toList := by unfold Lib.trimPrefix; rw [if_neg (by rw [e1]; decide)]
  rw [e1, e2] at H
  exact H
/-- strings.Cut, one sign -/
theorem cut1_any (c : UInt8) (s : ByteArray) (w : World) (hM : MaxL w) (hs : s.size ≤ 1000000000) :
    Calls Tryz.prog 120 #[.string s, .string ⟨#[c]⟩] w fun e w' => (∃ p r, s.data.toList = p ++ c :: r ∧ (∀ x ∈ p, x ≠ c) ∧ e = .returned (.tuple #[.string (bts p), .string (bts r), .bool true]) ∨ (∀ x ∈ s.data.toList, x ≠ c) ∧ e = .returned (.tuple #[.string s, .string (bts []), .bool false])) ∧ Below w.heap.size w w' := by
  obtain ⟨m, hm⟩ := hM
  refine (Tryz.strings_Cut s ⟨#[c]⟩ m w (by omega) hm).mono ?_
  rintro e w' ⟨rfl, n, rfl⟩
  refine ⟨?_, below_drewNP w n⟩
  rw [show (⟨#[c]⟩ : ByteArray).data.toList = [c] from rfl]
  rcases cut_one c s.data.toList with ⟨h1, h2⟩ | ⟨p, r, h1, h2, h3⟩
  · rw [h1]
    exact ⟨[], [], .inr ⟨h2, rfl⟩⟩
  · rw [h3]
    exact ⟨p, r, .inl ⟨h1, h2, rfl⟩⟩
end Go.Proofs.YtphopnfnjnieaaaGreatDoor
