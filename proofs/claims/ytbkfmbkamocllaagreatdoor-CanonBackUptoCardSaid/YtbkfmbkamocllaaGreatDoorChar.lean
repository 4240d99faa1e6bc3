/-
  escape.character: what a name between "&" and ";" stands for.
-/
import Derived.Test.YtbkfmbkamocllaaGreatDoorLines
import Derived.Test.YtbkfmbkamocllaaGreatDoorTurn
import Derived.Test.YtbkfmbkamocllaaGreatDoorNumb
import Derived.Test.YtbkfmbkamocllaaGreatDoorEntP
namespace Go.Proofs.YtbkfmbkamocllaaGreatDoor
open Go.RowKit Tx

def turnedT : List (ByteArray × Nat) := signsT.map fun e => (e.2, e.1)
theorem tellS_some (n : Nat) : tellS (some n) = .tuple #[.int .u8 n, .bool true] := rfl
theorem tellS_none : tellS none = .tuple #[.int .u8 0, .bool false] := rfl
theorem look_ent {s : ByteArray} {c : Nat} (h : lookS turnedT s = some c) : ent s.data.toList = some c ∧ c < 256 := by
  unfold lookS at h
  obtain ⟨e, he, rfl⟩ := Option.map_eq_some_iff.1 h
  have hm := List.mem_of_find?_eq_some he
  have hs0 : decide (e.1 = s) = true := List.find?_some (p := fun e : ByteArray × Nat => decide (e.1 = s)) he
  have hs := of_decide_eq_true hs0
  have hall : ∀ e ∈ turnedT, ent e.1.data.toList = some e.2 ∧ e.2 < 256 := by decide +kernel
  have := hall e hm
  rw [hs] at this
  exact this
theorem look_none {s : ByteArray} (h : lookS turnedT s = none) : ent s.data.toList = entT s.data.toList := by
  unfold lookS at h
  rw [Option.map_eq_none_iff, List.find?_eq_none] at h
  refine ent_miss (fun j b hj e => ?_)
  have hmem : ∀ b ∈ nmL, ∃ c, (b, c) ∈ turnedT := by
    intro b hb
    simp only [nmL, List.mem_cons, List.not_mem_nil, or_false] at hb
    rcases hb with rfl | rfl | rfl | rfl | rfl
    all_goals (unfold turnedT signsT; simp)
  obtain ⟨c, hc⟩ := hmem b (List.mem_of_getElem? hj)
  exact h (b, c) hc (decide_eq_true e)
theorem entT_hex {l : List UInt8} (h : Lib.hasPrefix l [35, 120] = true) : entT l = Tx.keep (num 16 6 (Lib.trimPrefix l [35, 120])) := by
  unfold Lib.trimPrefix
  rw [if_pos h]
  refine entT_x ?_
  unfold Lib.hasPrefix at h
  rw [List.isPrefixOf_iff_prefix] at h
  exact (List.prefix_iff_eq_take.1 h).symm
theorem entT_dec {l : List UInt8} (h : Lib.hasPrefix l [35, 120] = false) (h2 : Lib.hasPrefix l [35] = true) : entT l = Tx.keep (num 10 7 (Lib.trimPrefix l [35])) := by
  have h3 : ¬ l.take 2 = [35, 120] := fun e => by
    unfold Lib.hasPrefix at h
    have : ([35, 120] : List UInt8).isPrefixOf l = true := by rw [List.isPrefixOf_iff_prefix]; exact List.prefix_iff_eq_take.2 e.symm
    rw [this] at h; cases h
  unfold Lib.trimPrefix
  rw [if_pos h2]
  refine entT_d h3 ?_
  unfold Lib.hasPrefix at h2
  rw [List.isPrefixOf_iff_prefix] at h2
  obtain ⟨t, rfl⟩ := h2
  rfl
theorem entT_no {l : List UInt8} (h2 : Lib.hasPrefix l [35] = false) : entT l = none := by
  refine entT_n (fun e => ?_)
  have : ([35] : List UInt8).isPrefixOf l = true := by
    cases l with
    | nil => cases e
    | cons a t =>
      obtain rfl : a = 35 := by simpa using e
      rfl
  unfold Lib.hasPrefix at h2
  rw [this] at h2; cases h2
/-- what an entity stands for may stand in a text -/
theorem ent_good {l : List UInt8} {v : Nat} (h : ent l = some v) : sane v ∧ v ≤ 1114111 := by
  have hk : ∀ o, Tx.keep o = some v → sane v ∧ v ≤ 1114111 := fun o ho => by
    rcases keep_cases o with ⟨_, h2⟩ | ⟨_, _, _, h2⟩ | ⟨u, _, hg, h2⟩
    · rw [h2] at ho; cases ho
    · rw [h2] at ho; cases ho
    · rw [h2] at ho; cases ho; exact good_le hg
  unfold ent at h
  split at h
  · cases h; exact ⟨by unfold sane; omega, by omega⟩
  split at h
  · cases h; exact ⟨by unfold sane; omega, by omega⟩
  split at h
  · cases h; exact ⟨by unfold sane; omega, by omega⟩
  split at h
  · cases h; exact ⟨by unfold sane; omega, by omega⟩
  split at h
  · cases h; exact ⟨by unfold sane; omega, by omega⟩
  split at h
  · exact hk _ h
  · exact hk _ h
  · cases h

set_option maxHeartbeats 2000000 in
set_option maxRecDepth 100000 in
theorem character_any (g cap : Nat) (s : ByteArray) (w : World) (hT : Tabs w) (hE : ErrS w) (hg : g < w.heap.size) (he : EntsS w g turnedT) :
    Calls Tryz.prog 98 #[.slice (some ⟨g, 0, none⟩) 8 cap, .string s] w fun e w' => e = .returned (numbV (ent s.data.toList)) ∧ Below w.heap.size w w' := by
  have HF := findS_any g 8 cap s turnedT w hg he rfl (by omega)
  have HX := fun (W : World) => Tryz.strings_CutPrefix s ⟨#[35, 120]⟩ W
  have HD := fun (W : World) => Tryz.strings_CutPrefix s ⟨#[35]⟩ W
  have e1 : (⟨#[35, 120]⟩ : ByteArray).data.toList = [35, 120] := rfl
  have e2 : (⟨#[35]⟩ : ByteArray).data.toList = [35] := rfl
  rw [e1] at HX
  rw [e2] at HD
  cases hl : lookS turnedT s with
  | some c =>
    obtain ⟨h1, h2⟩ := look_ent hl
    rw [hl, tellS_some] at HF
    rw [h1, numbV_some]
    obtain ⟨z, hz⟩ : ∃ z : Int, (c : Int) = z := ⟨_, rfl⟩
    have z0 : 0 ≤ z := by omega
    have z1 : z < 256 := by omega
    rw [hz] at HF ⊢
    have HFO := Lib.hid HF
    clear hl h1 h2 hz HF HX HD he
    go_enter Tryz.func98, Tryz.ntmps98
    go_wp2_with (go_at_call 110; refine HFO.out.mono ?_; rintro e w2 ⟨rfl, b2⟩)
    go_ret2
    exact ⟨rfl, b2⟩
  | none =>
    rw [hl, tellS_none] at HF
    have HFO := Lib.hid HF
    have hel := look_none hl
    cases hx : Lib.hasPrefix s.data.toList [35, 120] with
    | true =>
      rw [hx] at HX
      rw [hel, entT_hex hx]
      have HN := fun (W : World) h1 h2 => numbered_any ⟨(Lib.trimPrefix s.data.toList [35, 120]).toArray⟩ 16 6 W h1 h2 (.inr rfl) (by omega)
      have HXO := Lib.hid HX
      rcases keep_cases (num 16 6 (Lib.trimPrefix s.data.toList [35, 120])) with ⟨_, hk⟩ | ⟨v, _, _, hk⟩ | ⟨v, _, hgd, hk⟩
      all_goals
        simp only [hk] at HN
        first | rw [numbV_none] at HN | rw [numbV_some] at HN
        have HNO := Lib.hid HN
        rw [hk]
        first | rw [numbV_none] | rw [numbV_some]
        clear hl hel hx hk HF HX HD HN he
        go_enter Tryz.func98, Tryz.ntmps98
        go_wp2_with (go_at_call 110; refine HFO.out.mono ?_; rintro e w2 ⟨rfl, b2⟩)
        refine (HXO.out _).mono ?_
        rintro e w3 ⟨rfl, rfl⟩
        go_wp2_with fail
        refine (HNO.out _ (hT.below b2) (hE.below b2)).mono ?_
        rintro e w4 ⟨rfl, b4⟩
        go_wp2_with fail
        go_ret2
        exact ⟨rfl, b2.trans (b4.mono b2.size)⟩
    | false =>
      rw [hx] at HX
      have HXO := Lib.hid HX
      cases hd : Lib.hasPrefix s.data.toList [35] with
      | true =>
        rw [hd] at HD
        rw [hel, entT_dec hx hd]
        have HN := fun (W : World) h1 h2 => numbered_any ⟨(Lib.trimPrefix s.data.toList [35]).toArray⟩ 10 7 W h1 h2 (.inl rfl) (by omega)
        have HDO := Lib.hid HD
        rcases keep_cases (num 10 7 (Lib.trimPrefix s.data.toList [35])) with ⟨_, hk⟩ | ⟨v, _, _, hk⟩ | ⟨v, _, hgd, hk⟩
        all_goals
          simp only [hk] at HN
          first | rw [numbV_none] at HN | rw [numbV_some] at HN
          have HNO := Lib.hid HN
          rw [hk]
          first | rw [numbV_none] | rw [numbV_some]
          clear hl hel hx hd hk HF HX HD HN he
          go_enter Tryz.func98, Tryz.ntmps98
          go_wp2_with (go_at_call 110; refine HFO.out.mono ?_; rintro e w2 ⟨rfl, b2⟩)
          refine (HXO.out _).mono ?_
          rintro e w3 ⟨rfl, rfl⟩
          go_wp2_with fail
          refine (HDO.out _).mono ?_
          rintro e w3 ⟨rfl, rfl⟩
          go_wp2_with fail
          refine (HNO.out _ (hT.below b2) (hE.below b2)).mono ?_
          rintro e w4 ⟨rfl, b4⟩
          go_wp2_with fail
          go_ret2
          exact ⟨rfl, b2.trans (b4.mono b2.size)⟩
      | false =>
        rw [hd] at HD
        have HDO := Lib.hid HD
        rw [hel, entT_no hd, numbV_none]
        clear hl hel hx hd HF HX HD he
        go_enter Tryz.func98, Tryz.ntmps98
        go_wp2_with (go_at_call 110; refine HFO.out.mono ?_; rintro e w2 ⟨rfl, b2⟩)
        refine (HXO.out _).mono ?_
        rintro e w3 ⟨rfl, rfl⟩
        go_wp2_with fail
        refine (HDO.out _).mono ?_
        rintro e w3 ⟨rfl, rfl⟩
        go_wp2_with fail
        go_ret2
        exact ⟨rfl, b2⟩
end Go.Proofs.YtbkfmbkamocllaaGreatDoor
