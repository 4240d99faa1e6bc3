/-
  cardexplay.Line: a line that may be, near to a text.
-/
import Derived.Test.YtphopnfnjnieaaaGreatDoorRefL
import Derived.Test.YtphopnfnjnieaaaGreatDoorFldA
import Derived.Test.YtphopnfnjnieaaaGreatDoorVce
import Derived.Test.YtphopnfnjnieaaaGreatDoorHolds
namespace Go.Proofs.YtphopnfnjnieaaaGreatDoor
open Go.RowKit Tx

theorem seen_valid : ∀ l : List UInt8, (∀ c ∈ l, 32 ≤ c ∧ c < 127) → valid l = true
  | [], _ => valid_some ch_nil
  | c :: l, h => by
    have H : ∀ k : Fin 256, 32 ≤ UInt8.ofNat k.val → UInt8.ofNat k.val < 127 → valid [UInt8.ofNat k.val] = true := by decide +kernel
    obtain ⟨h1, h2⟩ := h c List.mem_cons_self
    have h3 := H ⟨c.toNat, c.toNat_lt⟩
    simp only [UInt8.ofNat_toNat] at h3
    exact (valid_append (a := [c]) (h3 h1 h2) (seen_valid l fun d hd => h d (List.mem_cons_of_mem _ hd))).1
theorem seen_clean {l : List UInt8} (h : ∀ c ∈ l, 32 ≤ c ∧ c < 127) : clean l := fun c hc => by
  have h1 := (h c hc).1
  constructor <;> (intro e; subst e; revert h1; decide)
theorem flat_clean : ∀ {cs : List Nat}, (∀ c ∈ cs, sane c ∧ okc c = true ∧ 32 ≤ c) → clean (flat cs)
  | [], _ => fun c hc => by rw [flat_nil] at hc; cases hc
  | c :: t, h => by
    obtain ⟨h1, h2, h3⟩ := h c List.mem_cons_self
    have e : flat (c :: t) = enc c ++ flat t := by rw [show c :: t = [c] ++ t from rfl, flat_append, flat_one]
    rw [e]
    intro x hx
    rcases List.mem_append.1 hx with hx | hx
    · exact (enc_line h1 h2 h3).1 x hx
    · exact flat_clean (fun d hd => h d (List.mem_cons_of_mem _ hd)) x hx
theorem line_fine {l : List UInt8} {most : Int} (h : line l most = true) : valid l = true ∧ clean l := by
  obtain ⟨cs, h1, h2, h3⟩ := line_chars h
  exact ⟨valid_some h1, by rw [← h2]; exact flat_clean h3⟩
theorem one_sign (s : ByteArray) (k : Nat) (hk : k < s.size) : (s.extract k (k + 1)).data.toList = [s[k]] := by
  have h : k < s.data.toList.length := by rw [← Lib.size_eq]; exact hk
  rw [ByteArray.data_extract, Array.toList_extract, List.extract_eq_take_drop, List.drop_eq_getElem_cons h, Nat.add_sub_cancel_left]
  rfl
theorem seen_more {o : ByteArray} {s : ByteArray} {k : Nat} (hk : k < s.size) (ho : ∀ c ∈ o.data.toList, (32 : UInt8) ≤ c ∧ c < 127) (h1 : (32 : Int) ≤ s[k].toNat) (h2 : (s[k].toNat : Int) < 127) :
    ∀ c ∈ (o ++ s.extract k (k + 1)).data.toList, (32 : UInt8) ≤ c ∧ c < 127 := by
  intro c hc
  rw [ByteArray.data_append, Array.toList_append, one_sign s k hk] at hc
  rcases List.mem_append.1 hc with hc | hc
  · exact ho c hc
  · rw [List.mem_singleton] at hc
    subst hc
    constructor
    · rw [UInt8.le_iff_toNat_le]
      show 32 ≤ _
      omega
    · rw [UInt8.lt_iff_toNat_lt]
      show _ < 127
      omega
theorem more_size (o s : ByteArray) (k : Nat) (hk : k < s.size) : (o ++ s.extract k (k + 1)).size = o.size + 1 := by
  rw [Lib.size_eq, ByteArray.data_append, Array.toList_append, one_sign s k hk, List.length_append, ← Lib.size_eq]
  rfl
set_option maxHeartbeats 4000000 in
set_option maxRecDepth 100000 in
theorem playLine_any (s : ByteArray) (most : Int) (w : World) (hs : s.size ≤ 1000000000) :
    Calls Tryz.prog 14 #[.string s, .int .i64 most] w fun e w' => (∃ v : ByteArray, e = .returned (.string v) ∧ valid v.data.toList = true ∧ clean v.data.toList ∧ v.size ≤ s.size) ∧ Below w.heap.size w w' := by
  have HL := Lib.hid (rline_any s most w (by omega))
  obtain ⟨b, hb⟩ : ∃ b, line s.data.toList most = b := ⟨_, rfl⟩
  have HB := Lib.hid hb
  rw [hb] at HL
  clear hb
  go_enter Tryz.func14, Tryz.ntmps14
  go_wp2_with fail
  refine HL.out.mono ?_
  rintro e w1 ⟨rfl, b1⟩
  have B1 := Lib.hid b1
  clear b1
  cases b
  · have HS0 : Hid (∀ c ∈ (⟨#[]⟩ : ByteArray).data.toList, (32 : UInt8) ≤ c ∧ c < 127) := fun c hc => by cases hc
    go_wp2_with fail
    go_loopw [5, 6] (fun ov iv wr => ∃ (k : Nat) (o : ByteArray), ov = .string o ∧ iv = .int .i64 k ∧ k ≤ s.size ∧ o.size ≤ k ∧ Hid (∀ c ∈ o.data.toList, (32 : UInt8) ≤ c ∧ c < 127) ∧ wr = w1) (fun _ iv _ => s.size - (intOf iv).toNat)
    case atStart => exact ⟨0, _, rfl, rfl, Nat.zero_le _, Nat.zero_le _, HS0, rfl⟩
    case round =>
      obtain ⟨k, o, rfl, rfl, hk, ho, HS, rfl⟩ := hrel
      by_cases hlt : k < s.size
      · by_cases hm : (o.size : Int) < most
        · go_wp2_with fail
          · rename_i h1 h2
            have hsz := more_size o s k hlt
            have hnx := Lib.hid (seen_more hlt HS.out h1 h2)
            go_roundw
            case rel => exact ⟨k + 1, _, rfl, by go_num, by omega, by omega, hnx, trivial⟩
            case measure => simp [intOf]; omega
          all_goals
            go_roundw
            case rel => exact ⟨k + 1, _, rfl, by go_num, by omega, by omega, HS, trivial⟩
            case measure => simp [intOf]; omega
        · go_wp2_with fail
          go_ret
          exact ⟨⟨_, rfl, seen_valid _ HS.out, seen_clean HS.out, by omega⟩, B1.out⟩
      · go_wp2_with fail
        go_ret
        exact ⟨⟨_, rfl, seen_valid _ HS.out, seen_clean HS.out, by omega⟩, B1.out⟩
  · obtain ⟨h1, h2⟩ := line_fine HB.out
    have H1 := Lib.hid h1
    have H2 := Lib.hid h2
    clear h1 h2
    go_wp2_with fail
    go_ret
    exact ⟨⟨_, rfl, H1.out, H2.out, Nat.le_refl _⟩, B1.out⟩
end Go.Proofs.YtphopnfnjnieaaaGreatDoor
