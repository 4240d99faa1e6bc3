/-
  The law TokenRefuses.
-/
import Derived.Test.YtlpjealcmnnbnaaDoorTkW
import Derived.Test.YtlpjealcmnnbnaaDoorUint
import Derived.Test.YtlpjealcmnnbnaaDoorHolds
namespace Go.Proofs.YtlpjealcmnnbnaaDoor
open Go.RowKit Tk

def odds : List ByteArray := [⟨#[60]⟩, ⟨#[60, 97]⟩, ⟨#[60, 97, 32, 98, 62]⟩, ⟨#[60, 97, 32, 98, 61, 99, 62]⟩, ⟨#[60, 97, 32, 98, 61, 39, 49, 39, 99, 61, 39, 50, 39, 62]⟩, ⟨#[60, 97, 32, 98, 61, 39, 49, 39, 32, 98, 61, 39, 50, 39, 62]⟩, ⟨#[60, 97, 32, 98, 61, 39, 60, 39, 62]⟩, ⟨#[60, 33, 45, 45, 32, 97, 32, 45, 45, 62]⟩, ⟨#[60, 33, 91, 67, 68, 65, 84, 65, 91, 97, 93, 93, 62]⟩, ⟨#[60, 63, 120, 63, 62]⟩, ⟨#[38, 120, 59]⟩, ⟨#[60, 47, 32, 97, 62]⟩, ⟨#[60, 49, 62]⟩, ⟨#[60, 97, 58, 98, 47, 62]⟩, ⟨#[60, 33, 68, 79, 67, 84, 89, 80, 69, 32, 97, 62]⟩, ⟨#[60, 97, 32, 98, 61, 39, 34, 38, 39, 47, 62]⟩]
theorem odd_elem : ∀ (i : Nat) (h : i < 16), ([.string ⟨#[60]⟩, .string ⟨#[60, 97]⟩, .string ⟨#[60, 97, 32, 98, 62]⟩, .string ⟨#[60, 97, 32, 98, 61, 99, 62]⟩, .string ⟨#[60, 97, 32, 98, 61, 39, 49, 39, 99, 61, 39, 50, 39, 62]⟩, .string ⟨#[60, 97, 32, 98, 61, 39, 49, 39, 32, 98, 61, 39, 50, 39, 62]⟩, .string ⟨#[60, 97, 32, 98, 61, 39, 60, 39, 62]⟩, .string ⟨#[60, 33, 45, 45, 32, 97, 32, 45, 45, 62]⟩, .string ⟨#[60, 33, 91, 67, 68, 65, 84, 65, 91, 97, 93, 93, 62]⟩, .string ⟨#[60, 63, 120, 63, 62]⟩, .string ⟨#[38, 120, 59]⟩, .string ⟨#[60, 47, 32, 97, 62]⟩, .string ⟨#[60, 49, 62]⟩, .string ⟨#[60, 97, 58, 98, 47, 62]⟩, .string ⟨#[60, 33, 68, 79, 67, 84, 89, 80, 69, 32, 97, 62]⟩, .string ⟨#[60, 97, 32, 98, 61, 39, 34, 38, 39, 47, 62]⟩] : List Value)[i]'h = .string (odds.getD i ⟨#[]⟩) := by
  intro i h
  obtain rfl | rfl | rfl | rfl | rfl | rfl | rfl | rfl | rfl | rfl | rfl | rfl | rfl | rfl | rfl | rfl : i = 0 ∨ i = 1 ∨ i = 2 ∨ i = 3 ∨ i = 4 ∨ i = 5 ∨ i = 6 ∨ i = 7 ∨ i = 8 ∨ i = 9 ∨ i = 10 ∨ i = 11 ∨ i = 12 ∨ i = 13 ∨ i = 14 ∨ i = 15 := by omega
  all_goals rfl
def lead : List UInt8 := [120, 60, 98, 47, 62]
theorem odd_told : ∀ i, i < 16 → tokensL (lead ++ (odds.getD i ⟨#[]⟩).data.toList) = ([], 5, 5) ∧ (odds.getD i ⟨#[]⟩).size ≤ 20 := by
  intro i h
  obtain rfl | rfl | rfl | rfl | rfl | rfl | rfl | rfl | rfl | rfl | rfl | rfl | rfl | rfl | rfl | rfl : i = 0 ∨ i = 1 ∨ i = 2 ∨ i = 3 ∨ i = 4 ∨ i = 5 ∨ i = 6 ∨ i = 7 ∨ i = 8 ∨ i = 9 ∨ i = 10 ∨ i = 11 ∨ i = 12 ∨ i = 13 ∨ i = 14 ∨ i = 15 := by omega
  all_goals exact ⟨by decide +kernel, by decide +kernel⟩
/-- n attributes -/
def manyB : Nat → ByteArray
  | 0 => ⟨#[60, 97]⟩
  | k + 1 => manyB k ++ ⟨#[32]⟩ ++ ⟨#[UInt8.ofNat (97 + k)]⟩ ++ ⟨#[61, 39, 39]⟩
theorem manyB_size : ∀ k, (manyB k).size = 2 + 5 * k
  | 0 => rfl
  | k + 1 => by
    show (manyB k ++ _ ++ _ ++ _).size = _
    rw [ByteArray.size_append, ByteArray.size_append, ByteArray.size_append, manyB_size k]
    show 2 + 5 * k + 1 + 1 + 3 = _
    omega
theorem many_told : ∀ x, x < 5 → (tokensL ((manyB (8 + x)).data.toList ++ [47, 62])).2 = (0, if 8 + x ≤ 10 then 0 else 4) := by
  intro x h
  obtain rfl | rfl | rfl | rfl | rfl : x = 0 ∨ x = 1 ∨ x = 2 ∨ x = 3 ∨ x = 4 := by omega
  all_goals decide +kernel
theorem head_told : (tokensL headL).2 = (0, 0) := by decide +kernel
theorem cat_lists (a b : ByteArray) : (a ++ b).data.toList = a.data.toList ++ b.data.toList := by simp
set_option maxHeartbeats 4000000 in
set_option maxRecDepth 100000 in
theorem tokenRefuses_any (a b : Int) (w : World) (hT : Tabs w) (hE : ErrS w) :
    Calls Tryd.prog 5 #[.int .i64 a, .int .i64 b] w (Holds w) := by
  have HTab := Lib.hid (fun (W : World) (h : Below w.heap.size w W) => And.intro (hT.below h) (hE.below h))
  have HA := Lib.hid (fun (W : World) (h : Below w.heap.size w W) => awake_any W (HTab.out W h).1 (HTab.out W h).2)
  have HTk := Lib.hid (fun (s : ByteArray) (W : World) (h : Below w.heap.size w W) (h2 : s.size < 4000000000) => tokens_any s W (HTab.out W h).1 (HTab.out W h).2 h2)
  obtain ⟨i, hi, hi16⟩ := uintMod a 16 (by omega) (by omega)
  obtain ⟨x, hx, hx5⟩ := uintMod b 5 (by omega) (by omega)
  have hi' : i < 16 := by omega
  have hx' : x < 5 := by omega
  have hel := odd_elem i hi'
  obtain ⟨ho, hsz⟩ := odd_told i hi'
  obtain ⟨bs, hbs⟩ : ∃ bs, odds.getD i ⟨#[]⟩ = bs := ⟨_, rfl⟩
  rw [hbs] at hel ho hsz
  have HO := Lib.hid ho
  have HX := Lib.hid (many_told x hx')
  obtain ⟨n, hn⟩ : ∃ n, 8 + x = n := ⟨_, rfl⟩
  rw [hn] at HX
  have hn2 : (8 : Int) + (x : Int) = (n : Int) := by omega
  have hn3 : n ≤ 12 := by omega
  have HN := Lib.hid hn
  have HX5 := Lib.hid hx'
  have hl1 : ((⟨#[120, 60, 98, 47, 62]⟩ : ByteArray) ++ bs).data.toList = lead ++ bs.data.toList := cat_lists _ _
  have H1 := Lib.hid (fun (W : World) (h : Below w.heap.size w W) => HTk.out (⟨#[120, 60, 98, 47, 62]⟩ ++ bs) W h (by rw [ByteArray.size_append]; show 5 + bs.size < _; omega))
  rw [hl1, HO.out] at H1
  have hl2 : (manyB n ++ (⟨#[47, 62]⟩ : ByteArray)).data.toList = (manyB n).data.toList ++ [47, 62] := cat_lists _ _
  have hms := manyB_size n
  have H2 := Lib.hid (fun (W : World) (h : Below w.heap.size w W) => HTk.out (manyB n ++ ⟨#[47, 62]⟩) W h (by rw [ByteArray.size_append, hms]; show 2 + 5 * n + 2 < _; omega))
  rw [hl2] at H2
  have H3 := Lib.hid (fun (W : World) (h : Below w.heap.size w W) => HTk.out headB W h (by show 38 < 4000000000; omega))
  rw [headB_list] at H3
  unfold headB at H3
  clear hT hE hbs ho hn hx5 hl1 hl2 hms
  go_enter Tryd.func5, Tryd.ntmps5
  go_wp2_with fail
  refine (H1.out _ ((Below.refl _ w).alloc (Nat.le_refl _) _)).mono ?_
  rintro e w1 ⟨⟨v1, rfl, o1⟩, b1⟩
  have B1 : Hid (Below w.heap.size w w1) := ((Below.refl _ w).alloc (Nat.le_refl _) _).trans (b1.mono (by simp))
  obtain ⟨A1, cap1, rfl⟩ := o1.len
  clear b1 o1
  go_wp2_with fail
  clear hel hi
  go_loopw [10, 11] (fun sv iv wr => ∃ k : Nat, k ≤ n ∧ sv = .string (manyB k) ∧ iv = .int .i64 k ∧ Hid (Below w.heap.size w wr)) (fun _ iv _ => n - (intOf iv).toNat)
  case atStart => exact ⟨0, Nat.zero_le _, rfl, rfl, B1.out⟩
  case round =>
    obtain ⟨k, hk, rfl, rfl, hbw⟩ := hrel
    have hms := manyB_size k
    have hsw := hbw.out.size
    by_cases hlt : k < n
    · have hcv : (convert 37 9 (.slice (some ⟨wr.heap.size, 0, none⟩) 1 1)).run Tryd.prog (wr.alloc (.cells #[.int .u8 ((97 : Int) + (k : Int))] 5)) = .ok (.string ⟨#[UInt8.ofNat (97 + k)]⟩) (wr.alloc (.cells #[.int .u8 ((97 : Int) + (k : Int))] 5)) := by
        have := oneByte (P := Tryd.prog) Tryd.underlying37 Tryd.underlying5 Tryd.underlying9 ((97 : Int) + (k : Int)) wr
        rw [this]
        congr 4
      have hw1 : IntKind.u8.wrap (k : Int) = (k : Int) := by simp [IntKind.wrap, IntKind.bits, IntKind.signed]; omega
      have hw2 : IntKind.u8.wrap ((97 : Int) + (k : Int)) = (97 : Int) + (k : Int) := by simp [IntKind.wrap, IntKind.bits, IntKind.signed]; omega
      have hS : Hid (manyB k ++ (⟨#[32]⟩ : ByteArray) ++ (⟨#[UInt8.ofNat (97 + k)]⟩ : ByteArray) ++ (⟨#[61, 39, 39]⟩ : ByteArray) = manyB (k + 1)) := rfl
      obtain ⟨S, hSk⟩ : ∃ S, manyB k = S := ⟨_, rfl⟩
      obtain ⟨c, hc⟩ : ∃ c : ByteArray, ⟨#[UInt8.ofNat (97 + k)]⟩ = c := ⟨_, rfl⟩
      have hcs : c.size = 1 := by rw [← hc]; rfl
      rw [hSk, hc] at hS
      rw [hSk] at hms
      rw [hc] at hcv
      rw [hSk]
      clear hSk hc
      go_wp2_with fail
      refine ⟨⟨k + 1, by omega, by rw [← hS.out], by go_num, hbw.out.alloc hsw _⟩, ?_⟩
      simp [intOf]
      omega
    · obtain rfl : k = n := by omega
      obtain ⟨S, hSk⟩ : ∃ S, manyB k = S := ⟨_, rfl⟩
      rw [hSk] at hms H2 HX
      rw [hSk]
      have hle : (k ≤ 10 ∧ decide ((k : Int) ≤ 10) = true ∧ (if k ≤ 10 then (0 : Nat) else 4) = 0) ∨ (decide ((k : Int) ≤ 10) = false ∧ (if k ≤ 10 then (0 : Nat) else 4) = 4) := by
        by_cases h : k ≤ 10
        · exact .inl ⟨h, decide_eq_true (by omega), if_pos h⟩
        · exact .inr ⟨decide_eq_false (by omega), if_neg h⟩
      clear hSk
      rcases hle with ⟨_, hd, hif⟩ | ⟨hd, hif⟩
      all_goals
        rw [hif] at HX
        clear hif
        go_wp2_with fail
        refine (H2.out _ hbw.out).mono ?_
        rintro e w2 ⟨⟨v2, he, o2⟩, b2⟩
        rw [HX.out] at he
        subst he
        have B2 := Lib.hid (hbw.out.trans (b2.mono hsw))
        obtain ⟨A2, cap2, rfl⟩ := o2.len
        clear b2 o2
        go_wp2_with fail
        refine (H3.out _ B2.out).mono ?_
        rintro e w3 ⟨⟨v3, he, o3⟩, b3⟩
        rw [head_told] at he
        subst he
        have B3 := Lib.hid (B2.out.trans (b3.mono B2.out.size))
        obtain ⟨A3, cap3, rfl⟩ := o3.len
        clear b3 o3
        go_wp2_with fail
        refine (HA.out _ B3.out).mono ?_
        rintro e w4 ⟨rfl, b4⟩
        have B4 := Lib.hid (B3.out.trans (b4.mono B3.out.size))
        clear b4
        go_wp2_with fail
        go_ret
        exact ⟨rfl, B4.out⟩
end Go.Proofs.YtlpjealcmnnbnaaDoor
