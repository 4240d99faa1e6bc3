/-
  package canon: a name.
-/
import Derived.Test.YtbkfmbkamocllaaDoorCanA
import Derived.Test.YtbkfmbkamocllaaDoorShelf
import Derived.Test.YtbkfmbkamocllaaDoorTkM
import Derived.Shelf.Strings.SlTrimAscii
import Derived.Lib.SlicesS
namespace Go.Proofs.YtbkfmbkamocllaaDoor
open Go.RowKit Tk Tr Cn

/-- What a name may begin with; what may stand within it. -/
abbrev letC : ByteArray := ⟨#[65, 66, 67, 68, 69, 70, 71, 72, 73, 74, 75, 76, 77, 78, 79, 80, 81, 82, 83, 84, 85, 86, 87, 88, 89, 90, 97, 98, 99, 100, 101, 102, 103, 104, 105, 106, 107, 108, 109, 110, 111, 112, 113, 114, 115, 116, 117, 118, 119, 120, 121, 122, 95]⟩
abbrev witC : ByteArray := ⟨#[65, 66, 67, 68, 69, 70, 71, 72, 73, 74, 75, 76, 77, 78, 79, 80, 81, 82, 83, 84, 85, 86, 87, 88, 89, 90, 97, 98, 99, 100, 101, 102, 103, 104, 105, 106, 107, 108, 109, 110, 111, 112, 113, 114, 115, 116, 117, 118, 119, 120, 121, 122, 95, 48, 49, 50, 51, 52, 53, 54, 55, 56, 57, 45, 46]⟩
theorem let_beg (c : UInt8) : decide (0 ≤ Lib.indexByte letC.data.toList c) = beg c := by
  have H : ∀ k : Fin 256, decide (0 ≤ Lib.indexByte letC.data.toList (UInt8.ofNat k.val)) = beg (UInt8.ofNat k.val) := by decide +kernel
  have h := H ⟨c.toNat, c.toNat_lt⟩
  simpa using h
theorem wit_wi (c : UInt8) : witC.data.toList.contains c = wi c := by
  have H : ∀ k : Fin 256, witC.data.toList.contains (UInt8.ofNat k.val) = wi (UInt8.ofNat k.val) := by decide +kernel
  have h := H ⟨c.toNat, c.toNat_lt⟩
  simpa using h
theorem wit_ascii : ∀ (j : Nat) b, witC.data.toList[j]? = some b → b.toNat < 128 := ascii_of_all (by decide +kernel)
theorem dw_nil {p : UInt8 → Bool} : ∀ l : List UInt8, (∀ b ∈ l, p b = true) → l.dropWhile p = []
  | [], _ => rfl
  | a :: l, h => by
    rw [List.dropWhile_cons, h a List.mem_cons_self]
    exact dw_nil l (fun b hb => h b (List.mem_cons_of_mem _ hb))
theorem trim_empty (l cs : List UInt8) : Lib.trimS l cs = [] ↔ ∀ b ∈ l, cs.contains b = true := by
  unfold Lib.trimS Lib.trimLeftS Lib.trimRightS
  constructor
  · intro h
    have h1 : ∀ b ∈ (l.reverse.dropWhile (cs.contains ·)).reverse, cs.contains b = true := by
      have := List.takeWhile_append_dropWhile (p := (cs.contains ·)) (l := (l.reverse.dropWhile (cs.contains ·)).reverse)
      rw [h, List.append_nil] at this
      rw [← this]
      exact fun b hb => List.all_eq_true.1 List.all_takeWhile b hb
    have h2 : l.reverse.dropWhile (cs.contains ·) = [] := by
      cases hd : l.reverse.dropWhile (cs.contains ·) with
      | nil => rfl
      | cons a t =>
        have h3 := h1 a (by rw [hd]; simp)
        have h4 := List.head?_dropWhile_not (cs.contains ·) l.reverse
        rw [hd] at h4
        simp only [List.head?_cons] at h4
        rw [h3] at h4
        cases h4
    intro b hb
    have := List.takeWhile_append_dropWhile (p := (cs.contains ·)) (l := l.reverse)
    rw [h2, List.append_nil] at this
    have hb2 : b ∈ l.reverse := List.mem_reverse.2 hb
    rw [← this] at hb2
    exact List.all_eq_true.1 List.all_takeWhile b hb2
  · intro h
    have e : l.reverse.dropWhile (cs.contains ·) = [] := dw_nil _ (fun b hb => h b (List.mem_reverse.1 hb))
    rw [e]
    rfl
theorem trim_wi (l : List UInt8) : (⟨(Lib.trimS l witC.data.toList).toArray⟩ : ByteArray).toList.isEmpty = l.all wi := by
  rw [ByteArray.toList_mk, Bool.eq_iff_iff, List.isEmpty_iff, trim_empty, List.all_eq_true]
  constructor
  · intro h b hb
    rw [← wit_wi]
    exact h b hb
  · intro h b hb
    rw [wit_wi]
    exact h b hb
set_option maxHeartbeats 1000000 in
set_option maxRecDepth 100000 in
theorem name_any (s : ByteArray) (w : World) (hs : s.size ≤ 140737488355328) :
    Calls Tryd.prog 31 #[.string s] w fun e w' => e = .returned (.bool (nameT s.data.toList)) ∧ Below w.heap.size w w' := by
  have HT := Lib.hid (fun (W : World) => Any.strings_Trim_laid Tryd.lays160 (by kernel_rfl) s witC W (by omega) (by decide) wit_ascii)
  have HTW := Lib.hid (trim_wi s.data.toList)
  have HNT : Hid (nameT s.data.toList = (s.data.toList.all wi && (match s.data.toList with | c :: _ => beg c | [] => false))) := rfl
  by_cases h0 : s.size = 0
  · have hd : s.data.toList = [] := List.eq_nil_of_length_eq_zero (by rw [← Lib.size_eq]; exact h0)
    have HR : Hid (nameT s.data.toList = false) := by unfold Hid; rw [hd]; rfl
    have g0 : s.toList.isEmpty = true := by
      rw [show s = (⟨s.data.toList.toArray⟩ : ByteArray) from rfl, ByteArray.toList_mk, hd]
      rfl
    clear hd h0
    go_enter Tryd.func31, Tryd.ntmps31
    go_wp2_with fail
    go_ret
    exact ⟨by rw [HR.out]; rfl, Below.refl _ _⟩
  · have hpos : 0 < s.size := by omega
    obtain ⟨c, hc⟩ : ∃ c, s[0]'hpos = c := ⟨_, rfl⟩
    obtain ⟨t, ht⟩ : ∃ t, s.data.toList = c :: t := by
      cases hd : s.data.toList with
      | nil => rw [Lib.size_eq, hd] at hpos; cases hpos
      | cons a t =>
        refine ⟨t, ?_⟩
        have := Lib.data_getElem? s 0 hpos
        rw [hd, hc] at this
        simp only [List.getElem?_cons_zero, Option.some.injEq] at this
        rw [this]
    have he : s.extract 0 1 = ⟨#[c]⟩ := by
      rw [show s = (⟨s.data.toList.toArray⟩ : ByteArray) from rfl, ht]
      apply ByteArray.ext
      rw [ByteArray.data_extract, List.extract_toArray, List.extract_eq_take_drop]
      rfl
    have g0 : s.toList.isEmpty = false := by
      rw [show s = (⟨s.data.toList.toArray⟩ : ByteArray) from rfl, ByteArray.toList_mk, ht]
      rfl
    have HR : Hid (nameT s.data.toList = (s.data.toList.all wi && beg c)) := by unfold Hid nameT; rw [ht]
    have HC := Lib.hid (fun (W : World) => Tryd.strings_Contains_one letC c W)
    rw [let_beg c] at HC
    obtain ⟨tr, htr⟩ : ∃ tr : ByteArray, (⟨(Lib.trimS s.data.toList witC.data.toList).toArray⟩ : ByteArray) = tr := ⟨_, rfl⟩
    rw [htr] at HT HTW
    clear htr ht hc h0
    cases hb : beg c with
    | false =>
      rw [hb] at HC HR
      have HR2 : Hid (nameT s.data.toList = false) := by unfold Hid; rw [HR.out, Bool.and_false]
      clear hb
      go_enter Tryd.func31, Tryd.ntmps31
      go_wp2_with (first | (go_at_call 44; refine (HC.out _).mono ?_; rintro e w1 ⟨rfl, rfl⟩))
      go_ret
      exact ⟨by rw [HR2.out]; rfl, Below.refl _ _⟩
    | true =>
      rw [hb] at HC HR
      cases ha : s.data.toList.all wi with
      | false =>
        have HR2 : Hid (nameT s.data.toList = false) := by unfold Hid; rw [HR.out, ha]; rfl
        have g1 : tr.toList.isEmpty = false := by rw [HTW.out, ha]
        clear hb ha
        go_enter Tryd.func31, Tryd.ntmps31
        go_wp2_with (first | (go_at_call 44; refine (HC.out _).mono ?_; rintro e w1 ⟨rfl, rfl⟩) | (go_at_call 45; refine (HT.out _).mono ?_; rintro e w2 ⟨rfl, b2⟩))
        go_ret
        exact ⟨by rw [HR2.out]; rfl, b2⟩
      | true =>
        have HR2 : Hid (nameT s.data.toList = true) := by unfold Hid; rw [HR.out, ha]; rfl
        have g1 : tr.toList.isEmpty = true := by rw [HTW.out, ha]
        clear hb ha
        go_enter Tryd.func31, Tryd.ntmps31
        go_wp2_with (first | (go_at_call 44; refine (HC.out _).mono ?_; rintro e w1 ⟨rfl, rfl⟩) | (go_at_call 45; refine (HT.out _).mono ?_; rintro e w2 ⟨rfl, b2⟩))
        go_ret
        exact ⟨by rw [HR2.out]; rfl, b2⟩
end Go.Proofs.YtbkfmbkamocllaaDoor
