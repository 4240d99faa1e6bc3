/-
  THE DOCUMENT's OWN ANSWER for escape.Text: cardexref01.Escape; and its numeral.
-/
import Derived.Test.YtbkfmbkamocllaaDoorTxt
import Derived.Test.YtbkfmbkamocllaaDoorVal
import Derived.Test.YtbkfmbkamocllaaDoorByt
namespace Go.Proofs.YtbkfmbkamocllaaDoor
open Go.RowKit Tx

theorem sign_cases (c : UInt8) : c = 38 ∨ c = 60 ∨ c = 62 ∨ c = 34 ∨ c = 39 ∨ c = 9 ∨ c = 10 ∨ c = 13 ∨
    ((c.toNat ≠ 38 ∧ c.toNat ≠ 60 ∧ c.toNat ≠ 62 ∧ c.toNat ≠ 34 ∧ c.toNat ≠ 39 ∧ c.toNat ≠ 9 ∧ c.toNat ≠ 10 ∧ c.toNat ≠ 13) ∧ escB c = [c]) := by
  have H : ∀ k : Fin 256, UInt8.ofNat k.val = 38 ∨ UInt8.ofNat k.val = 60 ∨ UInt8.ofNat k.val = 62 ∨ UInt8.ofNat k.val = 34 ∨ UInt8.ofNat k.val = 39 ∨ UInt8.ofNat k.val = 9 ∨ UInt8.ofNat k.val = 10 ∨ UInt8.ofNat k.val = 13 ∨
    (((UInt8.ofNat k.val).toNat ≠ 38 ∧ (UInt8.ofNat k.val).toNat ≠ 60 ∧ (UInt8.ofNat k.val).toNat ≠ 62 ∧ (UInt8.ofNat k.val).toNat ≠ 34 ∧ (UInt8.ofNat k.val).toNat ≠ 39 ∧ (UInt8.ofNat k.val).toNat ≠ 9 ∧ (UInt8.ofNat k.val).toNat ≠ 10 ∧ (UInt8.ofNat k.val).toNat ≠ 13) ∧ escB (UInt8.ofNat k.val) = [UInt8.ofNat k.val]) := by decide +kernel
  have h := H ⟨c.toNat, c.toNat_lt⟩
  simpa using h

set_option maxHeartbeats 1000000 in
theorem rescape_any (s : ByteArray) (w : World) (hs : s.size < 10000000000000) :
    Calls Tryd.prog 12 #[.string s] w fun e w' => e = .returned (.string ⟨(esc s.data.toList).toArray⟩) ∧ w = w' := by
  have hsz := Lib.hid (Lib.size_eq s)
  go_enter Tryd.func12, Tryd.ntmps12
  go_wp2_with fail
  go_loop [3, 4] (fun out at_ => ∃ (k : Nat) (o : ByteArray), k ≤ s.size ∧ out = .string o ∧ at_ = .int .i64 k ∧ Hid (o.data.toList = esc (s.data.toList.take k))) (fun _ at_ => s.size - (intOf at_).toNat)
  case atStart => exact ⟨0, ⟨#[]⟩, Nat.zero_le _, rfl, rfl, Lib.hid rfl⟩
  case round =>
    obtain ⟨k, o, hk, rfl, rfl, ho⟩ := hrel
    by_cases hlt : k < s.size
    · have hst : Hid (esc (s.data.toList.take (k + 1)) = esc (s.data.toList.take k) ++ escB (s[k]'hlt)) := by
        unfold Hid
        rw [take_next hlt, esc_append, esc_cons, esc_nil, List.append_nil]
      have hcut := Lib.hid (one_cut hlt)
      have hosz : o.size ≤ 60000000000000 := by
        rw [Lib.size_eq, ho.out]
        have := esc_len (s.data.toList.take k)
        rw [List.length_take] at this
        omega
      obtain ⟨z, hz⟩ : ∃ z : Int, ((s[k]'hlt).toNat : Int) = z := ⟨_, rfl⟩
      rcases sign_cases (s[k]'hlt) with h | h | h | h | h | h | h | h | ⟨h, he⟩
      case' inr.inr.inr.inr.inr.inr.inr.inr =>
        obtain ⟨e1, e2, e3, e4, e5, e6, e7, e8⟩ := h
        have f1 : (z == 38) = false := by simp; omega
        have f2 : (z == 60) = false := by simp; omega
        have f3 : (z == 62) = false := by simp; omega
        have f4 : (z == 34) = false := by simp; omega
        have f5 : (z == 39) = false := by simp; omega
        have f6 : (z == 9) = false := by simp; omega
        have f7 : (z == 10) = false := by simp; omega
        have f8 : (z == 13) = false := by simp; omega
        have HST : Hid (esc (s.data.toList.take (k + 1)) = esc (s.data.toList.take k) ++ (s.extract k (k + 1)).data.toList) := by unfold Hid; rw [hst.out, he, hcut.out]
        clear e1 e2 e3 e4 e5 e6 e7 e8 he
        go_wp2_with fail
        go_round
        case rel => exact ⟨k + 1, _, by omega, rfl, by go_num, by unfold Hid; rw [cat_list, ho.out, HST.out]⟩
        case measure => simp [intOf]; omega
      all_goals
        have HST := hst.out
        rw [h] at HST
        have HS2 := Lib.hid HST
        rw [h] at hz
        have h' : ((s[k]'hlt).toNat : Int) = z := by rw [h]; exact hz
        simp only [UInt8.reduceToNat] at hz
        subst hz
        clear HST h hst
        go_wp2_with fail
        go_round
        case rel => exact ⟨k + 1, _, by omega, rfl, by go_num, by unfold Hid; rw [cat_list, ho.out, HS2.out]; rfl⟩
        case measure => simp [intOf]; omega
    · have hke : k = s.data.toList.length := by rw [← hsz.out]; omega
      have hall : Hid (o.data.toList = esc s.data.toList) := by
        have := ho.out
        rw [hke, List.take_length] at this
        exact this
      clear hke
      go_wp2_with fail
      go_ret
      exact ⟨by rw [bytes_of hall.out]; rfl, rfl⟩
end Go.Proofs.YtbkfmbkamocllaaDoor
