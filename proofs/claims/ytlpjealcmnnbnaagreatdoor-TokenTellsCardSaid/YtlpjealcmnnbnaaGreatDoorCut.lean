/-
  strings.Cut(s, ";"), and what an index of "&<" says of a text on its way back.
-/
import Derived.Test.YtlpjealcmnnbnaaGreatDoorIdx
import Derived.Test.YtlpjealcmnnbnaaGreatDoorEntP
namespace Go.Proofs.YtlpjealcmnnbnaaGreatDoor
open Go.RowKit Tx

theorem index_cut : ∀ l : List UInt8, (Lib.indexByte l 59 = -1 ∧ cutS l = none) ∨ ∃ i : Nat, Lib.indexByte l 59 = i ∧ i < l.length ∧ cutS l = some (l.take i, l.drop (i + 1))
  | [] => .inl ⟨rfl, rfl⟩
  | b :: l => by
    by_cases h : b = 59
    · subst h
      exact .inr ⟨0, rfl, by simp, rfl⟩
    · have hb : (b == 59) = false := by simpa using h
      rcases index_cut l with ⟨h1, h2⟩ | ⟨i, h1, h2, h3⟩
      · left
        unfold Lib.indexByte cutS
        rw [h1, h2]
        simp [h]
      · right
        refine ⟨i + 1, ?_, by simpa using h2, ?_⟩
        · unfold Lib.indexByte
          rw [h1]
          simp [h]
          try omega
        · unfold cutS
          rw [h3, if_neg h]
          rfl
/-- where the first sign of "&<" is: none is ahead of it -/
theorem index_amp : ∀ l : List UInt8, (Lib.indexAny l [38, 60] = -1 ∧ ∀ c ∈ l, c ≠ 60 ∧ c ≠ 38) ∨
    ∃ i : Nat, Lib.indexAny l [38, 60] = i ∧ (∀ c ∈ l.take i, c ≠ 60 ∧ c ≠ 38) ∧ ∃ x, l[i]? = some x ∧ (x = 38 ∨ x = 60)
  | [] => .inl ⟨rfl, fun c hc => by cases hc⟩
  | b :: l => by
    by_cases h : b = 38 ∨ b = 60
    · right
      refine ⟨0, ?_, fun c hc => by simp at hc, b, rfl, h⟩
      unfold Lib.indexAny
      rw [if_pos (by rcases h with h | h <;> subst h <;> decide)]
      try rfl
    · have hn : ([38, 60] : List UInt8).contains b = false := by
        have h1 : b ≠ 38 := fun e => h (.inl e)
        have h2 : b ≠ 60 := fun e => h (.inr e)
        simp [h1, h2]
      have hb : b ≠ 60 ∧ b ≠ 38 := ⟨fun e => h (.inr e), fun e => h (.inl e)⟩
      rcases index_amp l with ⟨h1, h2⟩ | ⟨i, h1, h2, h3⟩
      · left
        refine ⟨?_, fun c hc => ?_⟩
        · unfold Lib.indexAny
          rw [hn, h1]
          rfl
        · rcases List.mem_cons.1 hc with rfl | hc
          · exact hb
          · exact h2 c hc
      · right
        refine ⟨i + 1, ?_, fun c hc => ?_, ?_⟩
        · unfold Lib.indexAny
          rw [hn, h1]
          have : ((i : Int) == -1) = false := by simp
          rw [this]
          simp
        · rw [List.take_succ_cons] at hc
          rcases List.mem_cons.1 hc with rfl | hc
          · exact hb
          · exact h2 c hc
        · obtain ⟨x, h4, h5⟩ := h3
          exact ⟨x, by simpa using h4, h5⟩

set_option maxHeartbeats 1000000 in
set_option maxRecDepth 100000 in
theorem sindex1 (s : ByteArray) (w : World) : Calls Tryz.prog 85 #[.string s, .string ⟨#[59]⟩] w fun e w' => e = .returned (.int .i64 (Lib.indexByte s.data.toList 59)) ∧ w' = w := by
  have hi : ∀ W : World, Calls Tryz.prog 89 #[.string s, .int .u8 59] W fun e w' => e = .returned (.int .i64 (Lib.indexByte s.data.toList 59)) ∧ w' = W := fun W => Tryz.stringslite_IndexByte s 59 W
  have HI := Lib.hid hi
  clear hi
  have fidx : (((⟨#[59]⟩ : ByteArray)[0]'(by decide)).toNat : Int) = 59 := rfl
  by_cases h : s = ⟨#[59]⟩
  · subst h
    have H0 : Lib.indexByte (⟨#[59]⟩ : ByteArray).data.toList 59 = 0 := rfl
    rw [H0]
    go_enter Tryz.func85, Tryz.ntmps85
    go_wp2_with fail
    go_ret
    exact ⟨rfl, rfl⟩
  · have hne : ((⟨#[59]⟩ : ByteArray).toList == s.toList) = false := (Lib.bytes_beq_false_iff _ _).2 (fun e => h e.symm)
    have hne2 : (([59] : List UInt8) == s.toList) = false := by rw [← show (⟨#[59]⟩ : ByteArray).toList = [59] from ByteArray.toList_mk [59]]; exact hne
    clear h hne
    go_enter Tryz.func85, Tryz.ntmps85
    go_wp2_with (go_at_call 89; refine (HI.out _).mono ?_; rintro e w2 ⟨rfl, rfl⟩)
    go_ret
    exact ⟨rfl, rfl⟩
/-- strings.Cut(s, ";") -/
def cutV (s : ByteArray) : Value := match cutS s.data.toList with
  | some p => .tuple #[.string ⟨p.1.toArray⟩, .string ⟨p.2.toArray⟩, .bool true]
  | none => .tuple #[.string s, .string ⟨#[]⟩, .bool false]
set_option maxHeartbeats 2000000 in
set_option maxRecDepth 100000 in
theorem icut_any (s : ByteArray) (w : World) (hs : s.size < 10000000000000) : Calls Tryz.prog 74 #[.string s, .string ⟨#[59]⟩] w fun e w' => e = .returned (cutV s) ∧ Below w.heap.size w w' := by
  have HI := Lib.hid (fun (W : World) => sindex1 s W)
  have hsz := Lib.hid (Lib.size_eq s)
  rcases index_cut s.data.toList with ⟨h1, h2⟩ | ⟨i, h1, h2, h3⟩
  · rw [h1] at HI
    have HF : Hid (cutV s = .tuple #[.string s, .string ⟨#[]⟩, .bool false]) := by unfold Hid cutV; rw [h2]
    clear h1 h2
    go_enter Tryz.func74, Tryz.ntmps74
    go_wp2_with (go_at_call 85; refine (HI.out _).mono ?_; rintro e w2 ⟨rfl, rfl⟩)
    refine bodyPost_ret (v := .tuple #[.string s, .string ⟨#[]⟩, .bool false]) (by simp [results, Tryz.results74, go_sem]) rfl ⟨by rw [HF.out], Below.refl _ _⟩
  · rw [h1] at HI
    have hlt : i < s.size := by rw [hsz.out]; exact h2
    have HF : Hid (cutV s = .tuple #[.string (s.extract 0 i), .string (s.extract (i + 1) s.size), .bool true]) := by
      unfold Hid cutV
      rw [h3]
      simp only
      rw [← bytes_of (show (s.extract 0 i).data.toList = s.data.toList.take i by rw [mid_cut]; simp), ← bytes_of (Lib.extract_to_end s (i + 1))]
    clear h1 h2 h3
    go_enter Tryz.func74, Tryz.ntmps74
    go_wp2_with (go_at_call 85; refine (HI.out _).mono ?_; rintro e w2 ⟨rfl, rfl⟩)
    go_region
    all_goals
      go_wp2_with fail
      refine bodyPost_ret (v := .tuple #[.string (s.extract 0 i), .string (s.extract (i + 1) s.size), .bool true]) (by simp [results, Tryz.results74, go_sem]) rfl ⟨by rw [HF.out], (Below.refl _ _).drew⟩
theorem cutV_some {s : ByteArray} {n r : List UInt8} (h : cutS s.data.toList = some (n, r)) : cutV s = .tuple #[.string ⟨n.toArray⟩, .string ⟨r.toArray⟩, .bool true] := by unfold cutV; rw [h]
theorem cutV_none {s : ByteArray} (h : cutS s.data.toList = none) : cutV s = .tuple #[.string s, .string ⟨#[]⟩, .bool false] := by unfold cutV; rw [h]
set_option maxHeartbeats 1000000 in
set_option maxRecDepth 100000 in
theorem scut_any (s : ByteArray) (w : World) (hs : s.size < 10000000000000) : Calls Tryz.prog 61 #[.string s, .string ⟨#[59]⟩] w fun e w' => e = .returned (cutV s) ∧ Below w.heap.size w w' := by
  have HI := Lib.hid (fun (W : World) => icut_any s W hs)
  cases h : cutS s.data.toList with
  | none =>
    rw [cutV_none h] at HI ⊢
    go_enter Tryz.func61, Tryz.ntmps61
    go_wp2_with (go_at_call 74; refine (HI.out _).mono ?_; rintro e w2 ⟨rfl, b2⟩)
    refine bodyPost_ret (v := .tuple #[.string s, .string ⟨#[]⟩, .bool false]) (by simp [results, Tryz.results61, go_sem]) rfl ⟨rfl, b2⟩
  | some p =>
    obtain ⟨n, r⟩ := p
    rw [cutV_some h] at HI ⊢
    go_enter Tryz.func61, Tryz.ntmps61
    go_wp2_with (go_at_call 74; refine (HI.out _).mono ?_; rintro e w2 ⟨rfl, b2⟩)
    refine bodyPost_ret (v := .tuple #[.string ⟨n.toArray⟩, .string ⟨r.toArray⟩, .bool true]) (by simp [results, Tryz.results61, go_sem]) rfl ⟨rfl, b2⟩
end Go.Proofs.YtlpjealcmnnbnaaGreatDoor
