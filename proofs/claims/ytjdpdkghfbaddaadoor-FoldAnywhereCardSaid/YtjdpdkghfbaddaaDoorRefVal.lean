/-
  THE DOCUMENT's OWN ANSWER for fold.Value and fold.Plain: cardexref01.Value, cardexref01.Plain.
-/
import Derived.Test.YtjdpdkghfbaddaaDoorFldV
import Derived.Test.YtjdpdkghfbaddaaDoorRefV
import Derived.Test.YtjdpdkghfbaddaaDoorByt
namespace Go.Proofs.YtjdpdkghfbaddaaDoor
open Go.RowKit Tx

theorem byte_ne {c : UInt8} {z : Int} (hz : (c.toNat : Int) = z) {d : UInt8} (h : c ≠ d) : (z == (d.toNat : Int)) = false := by
  rw [beq_eq_false_iff_ne]
  intro e
  exact h (UInt8.toNat_inj.1 (by omega))
theorem valB_of {c : UInt8} : (c = 92 ∨ c = 44 ∨ c = 59) ∨ c = 10 ∨ c = 13 ∨ (c ≠ 92 ∧ c ≠ 44 ∧ c ≠ 59 ∧ c ≠ 10 ∧ c ≠ 13 ∧ valB c = [c]) := by
  by_cases h1 : c = 92 ∨ c = 44 ∨ c = 59
  · exact .inl h1
  by_cases h2 : c = 10
  · exact .inr (.inl h2)
  by_cases h3 : c = 13
  · exact .inr (.inr (.inl h3))
  · refine .inr (.inr (.inr ⟨fun e => h1 (.inl e), fun e => h1 (.inr (.inl e)), fun e => h1 (.inr (.inr e)), h2, h3, ?_⟩))
    unfold valB
    rw [if_neg h1, if_neg h2, if_neg h3]

set_option maxHeartbeats 1000000 in
theorem rvalue_any (s : ByteArray) (w : World) (hs : s.size < 10000000000000) :
    Calls Tryd.prog 18 #[.string s] w fun e w' => e = .returned (.string ⟨(val s.data.toList).toArray⟩) ∧ w = w' := by
  have hsz := Lib.hid (Lib.size_eq s)
  go_enter Tryd.func18, Tryd.ntmps18
  go_wp2_with fail
  go_loop [3, 4] (fun out at_ => ∃ (k : Nat) (o : ByteArray), k ≤ s.size ∧ out = .string o ∧ at_ = .int .i64 k ∧ Hid (o.data.toList = val (s.data.toList.take k))) (fun _ at_ => s.size - (intOf at_).toNat)
  case atStart => exact ⟨0, ⟨#[]⟩, Nat.zero_le _, rfl, rfl, Lib.hid rfl⟩
  case round =>
    obtain ⟨k, o, hk, rfl, rfl, ho⟩ := hrel
    by_cases hlt : k < s.size
    · have hst : Hid (val (s.data.toList.take (k + 1)) = val (s.data.toList.take k) ++ valB (s[k]'hlt)) := by
        unfold Hid
        rw [take_next hlt, val_snoc]
      have hcut := Lib.hid (one_cut hlt)
      have hosz : o.size ≤ 60000000000000 := by
        rw [Lib.size_eq, ho.out]
        have := val_len (s.data.toList.take k)
        rw [List.length_take] at this
        omega
      obtain ⟨z, hz⟩ : ∃ z : Int, ((s[k]'hlt).toNat : Int) = z := ⟨_, rfl⟩
      rcases valB_of (c := s[k]'hlt) with h | h | h | ⟨h1, h2, h3, h4, h5, he⟩
      · have hz3 : z = 92 ∨ z = 44 ∨ z = 59 := by
          rcases h with h | h | h
          · left; rw [← hz, h]; rfl
          · right; left; rw [← hz, h]; rfl
          · right; right; rw [← hz, h]; rfl
        have HST : Hid (val (s.data.toList.take (k + 1)) = val (s.data.toList.take k) ++ ([92] ++ (s.extract k (k + 1)).data.toList)) := by
          unfold Hid; rw [hst.out, hcut.out]; unfold valB; rw [if_pos h]; rfl
        clear h hst
        rcases hz3 with rfl | rfl | rfl
        all_goals
          go_wp2_with fail
          go_round
          case rel => exact ⟨k + 1, _, by omega, rfl, by go_num, by unfold Hid; rw [cat_list, cat_list, ho.out, HST.out, List.append_assoc]⟩
          case measure => simp [intOf]; omega
      · have HST : Hid (val (s.data.toList.take (k + 1)) = val (s.data.toList.take k) ++ [92, 110]) := by unfold Hid; rw [hst.out, h]; rfl
        obtain rfl : z = 10 := by rw [← hz, h]; rfl
        clear h hst
        go_wp2_with fail
        go_round
        case rel => exact ⟨k + 1, _, by omega, rfl, by go_num, by unfold Hid; rw [cat_list, ho.out, HST.out]⟩
        case measure => simp [intOf]; omega
      · have HST : Hid (val (s.data.toList.take (k + 1)) = val (s.data.toList.take k)) := by unfold Hid; rw [hst.out, h]; exact List.append_nil _
        obtain rfl : z = 13 := by rw [← hz, h]; rfl
        clear h hst
        go_wp2_with fail
        go_round
        case rel => exact ⟨k + 1, _, by omega, rfl, by go_num, by unfold Hid; rw [ho.out, HST.out]⟩
        case measure => simp [intOf]; omega
      · have f1 : (z == 92) = false := byte_ne hz h1
        have f2 : (z == 44) = false := byte_ne hz h2
        have f3 : (z == 59) = false := byte_ne hz h3
        have f4 : (z == 10) = false := byte_ne hz h4
        have f5 : (z == 13) = false := byte_ne hz h5
        have HST : Hid (val (s.data.toList.take (k + 1)) = val (s.data.toList.take k) ++ (s.extract k (k + 1)).data.toList) := by unfold Hid; rw [hst.out, he, hcut.out]
        clear h1 h2 h3 h4 h5 he hst
        go_wp2_with fail
        go_round
        case rel => exact ⟨k + 1, _, by omega, rfl, by go_num, by unfold Hid; rw [cat_list, ho.out, HST.out]⟩
        case measure => simp [intOf]; omega
    · have hke : k = s.data.toList.length := by rw [← hsz.out]; omega
      have hall : Hid (o.data.toList = val s.data.toList) := by
        have := ho.out
        rw [hke, List.take_length] at this
        exact this
      clear hke
      go_wp2_with fail
      go_ret
      exact ⟨by rw [bytes_of hall.out]; rfl, rfl⟩

/-- What a value comes back as: its two values. -/
def plainV (l : List UInt8) : Value := match plain l with
  | some x => .tuple #[.string ⟨x.toArray⟩, .int .i64 0]
  | none => .tuple #[.string ⟨#[]⟩, .int .i64 18]
theorem plainV_some {l x : List UInt8} (h : plain l = some x) : plainV l = .tuple #[.string ⟨x.toArray⟩, .int .i64 0] := by unfold plainV; rw [h]
theorem plainV_none {l : List UInt8} (h : plain l = none) : plainV l = .tuple #[.string ⟨#[]⟩, .int .i64 18] := by unfold plainV; rw [h]
/-- how the document's loop stands: o ahead, the rest from k on -/
def PStand (l : List UInt8) (k : Nat) (o : List UInt8) : Prop := plain l = (plain (l.drop k)).map (o ++ ·)
theorem PStand.start (l : List UInt8) : PStand l 0 [] := by unfold PStand; rw [List.drop_zero]; cases plain l <;> rfl
theorem PStand.done {l o : List UInt8} {k : Nat} (h : PStand l k o) (hk : l.length ≤ k) : plain l = some o := by
  unfold PStand at h
  rw [List.drop_eq_nil_of_le hk, plain_nil] at h
  simpa using h
section
variable {s : ByteArray} {k : Nat} {o : List UInt8}
theorem PStand.on (h : PStand s.data.toList k o) (hk : k < s.size) (h1 : (s[k]'hk) ≠ 92) : PStand s.data.toList (k + 1) (o ++ [s[k]'hk]) := by
  unfold PStand at h ⊢
  rw [h, drop_step hk, plain_on _ h1]
  cases plain (List.drop (k + 1) s.data.toList) <;> simp
theorem PStand.last (h : PStand s.data.toList k o) (hk : k < s.size) (h1 : (s[k]'hk) = 92) (h2 : ¬ k + 1 < s.size) : plain s.data.toList = none := by
  unfold PStand at h
  rw [h, drop_step hk, h1, List.drop_eq_nil_of_le (by rw [← Lib.size_eq]; omega), plain_end]
  rfl
theorem PStand.bad (h : PStand s.data.toList k o) (hk : k < s.size) (h1 : (s[k]'hk) = 92) (h2 : k + 1 < s.size) (h3 : unb (s[k + 1]'h2) = none) : plain s.data.toList = none := by
  unfold PStand at h
  rw [h, drop_step hk, h1, drop_step h2, plain_bad _ h3]
  rfl
theorem PStand.esc (h : PStand s.data.toList k o) (hk : k < s.size) (h1 : (s[k]'hk) = 92) (h2 : k + 1 < s.size) {x : UInt8} (h3 : unb (s[k + 1]'h2) = some x) : PStand s.data.toList (k + 1 + 1) (o ++ [x]) := by
  unfold PStand at h ⊢
  rw [h, drop_step hk, h1, drop_step h2, plain_esc _ h3]
  cases plain (List.drop (k + 1 + 1) s.data.toList) <;> simp
end
theorem unb_of {c : UInt8} : ((c = 92 ∨ c = 44 ∨ c = 59) ∧ unb c = some c) ∨ ((c = 110 ∨ c = 78) ∧ unb c = some 10) ∨ (c ≠ 92 ∧ c ≠ 44 ∧ c ≠ 59 ∧ c ≠ 110 ∧ c ≠ 78 ∧ unb c = none) := by
  unfold unb
  by_cases h1 : c = 92 ∨ c = 44 ∨ c = 59
  · rw [if_pos h1]; exact .inl ⟨h1, rfl⟩
  rw [if_neg h1]
  by_cases h2 : c = 110 ∨ c = 78
  · rw [if_pos h2]; exact .inr (.inl ⟨h2, rfl⟩)
  · rw [if_neg h2]
    exact .inr (.inr ⟨fun e => h1 (.inl e), fun e => h1 (.inr (.inl e)), fun e => h1 (.inr (.inr e)), fun e => h2 (.inl e), fun e => h2 (.inr e), rfl⟩)

set_option maxHeartbeats 2000000 in
theorem rplain_any (s : ByteArray) (w : World) (hs : s.size < 10000000000000) :
    Calls Tryd.prog 13 #[.string s] w fun e w' => e = .returned (plainV s.data.toList) ∧ w = w' := by
  have hsz := Lib.hid (Lib.size_eq s)
  have HNone := Lib.hid (fun h => plainV_none (l := s.data.toList) h)
  have HSome := Lib.hid (fun x h => plainV_some (l := s.data.toList) (x := x) h)
  go_enter Tryd.func13, Tryd.ntmps13
  go_wp2_with fail
  go_loop [4, 5] (fun out at_ => ∃ (k : Nat) (o : ByteArray), k ≤ s.size ∧ out = .string o ∧ at_ = .int .i64 k ∧ o.size ≤ k ∧ Hid (PStand s.data.toList k o.data.toList)) (fun _ at_ => s.size - (intOf at_).toNat)
  case atStart => exact ⟨0, ⟨#[]⟩, Nat.zero_le _, rfl, rfl, Nat.le_refl _, Lib.hid (PStand.start _)⟩
  case round =>
    obtain ⟨k, o, hk, rfl, rfl, hosz, ho⟩ := hrel
    by_cases hlt : k < s.size
    · have hcut := Lib.hid (one_cut hlt)
      obtain ⟨z, hz⟩ : ∃ z : Int, ((s[k]'hlt).toNat : Int) = z := ⟨_, rfl⟩
      by_cases h92 : (s[k]'hlt) = 92
      · obtain rfl : z = 92 := by rw [← hz, h92]; rfl
        by_cases hl2 : k + 1 < s.size
        · obtain ⟨y, hy⟩ : ∃ y : Int, ((s[k + 1]'hl2).toNat : Int) = y := ⟨_, rfl⟩
          have hcut2 := Lib.hid (one_cut hl2)
          rcases unb_of (c := s[k + 1]'hl2) with ⟨h, hu⟩ | ⟨h, hu⟩ | ⟨h1, h2, h3, h4, h5, hu⟩
          · have HS := Lib.hid (ho.out.esc hlt h92 hl2 hu)
            have hy3 : y = 92 ∨ y = 44 ∨ y = 59 := by
              rcases h with h | h | h
              · left; rw [← hy, h]; rfl
              · right; left; rw [← hy, h]; rfl
              · right; right; rw [← hy, h]; rfl
            clear h hu h92
            rcases hy3 with rfl | rfl | rfl
            all_goals
              go_wp2_with fail
              go_round
              case rel => exact ⟨k + 1 + 1, _, by omega, rfl, by go_num, by rw [ByteArray.size_append, ByteArray.size_extract]; omega, by unfold Hid; rw [cat_list, hcut2.out]; exact HS.out⟩
              case measure => simp [intOf]; omega
          · have HS := Lib.hid (ho.out.esc hlt h92 hl2 hu)
            have hy3 : y = 110 ∨ y = 78 := by
              rcases h with h | h
              · left; rw [← hy, h]; rfl
              · right; rw [← hy, h]; rfl
            clear h hu h92
            rcases hy3 with rfl | rfl
            all_goals
              go_wp2_with fail
              go_round
              case rel => exact ⟨k + 1 + 1, _, by omega, rfl, by go_num, by rw [ByteArray.size_append]; show o.size + 1 ≤ _; omega, by unfold Hid; rw [cat_list]; exact HS.out⟩
              case measure => simp [intOf]; omega
          · have HF := Lib.hid (HNone.out (ho.out.bad hlt h92 hl2 hu))
            have f1 : (y == 92) = false := byte_ne hy h1
            have f2 : (y == 44) = false := byte_ne hy h2
            have f3 : (y == 59) = false := byte_ne hy h3
            have f4 : (y == 110) = false := byte_ne hy h4
            have f5 : (y == 78) = false := byte_ne hy h5
            clear h1 h2 h3 h4 h5 hu h92
            go_wp2_with fail
            go_ret2
            exact ⟨by rw [HF.out]; rfl, rfl⟩
        · have HF := Lib.hid (HNone.out (ho.out.last hlt h92 hl2))
          clear h92
          go_wp2_with fail
          go_ret2
          exact ⟨by rw [HF.out]; rfl, rfl⟩
      · have HS := Lib.hid (ho.out.on hlt h92)
        have f0 : (z == 92) = false := byte_ne hz h92
        have f1 : (z != 92) = true := by simp only [bne, f0, Bool.not_false]
        clear h92
        go_wp2_with fail
        go_round
        case rel => exact ⟨k + 1, _, by omega, rfl, by go_num, by rw [ByteArray.size_append, ByteArray.size_extract]; omega, by unfold Hid; rw [cat_list, hcut.out]; exact HS.out⟩
        case measure => simp [intOf]; omega
    · have hke : s.data.toList.length ≤ k := by rw [← hsz.out]; omega
      have HF := Lib.hid (HSome.out _ (ho.out.done hke))
      clear hke
      go_wp2_with fail
      go_ret2
      exact ⟨by rw [HF.out]; rfl, rfl⟩
end Go.Proofs.YtjdpdkghfbaddaaDoor
