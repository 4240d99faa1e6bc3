/-
  THE DOCUMENT's OWN ANSWER, package cardexref01: its Line.
-/
import Derived.Test.YtphopnfnjnieaaaGreatDoorRefR
namespace Go.Proofs.YtphopnfnjnieaaaGreatDoor
open Go.RowKit Tx

theorem low_zero_iff (x : List Nat) : (low x = 0) ↔ ∀ i, i < x.length → 32 ≤ x.getD i 0 := by
  rw [low_def]
  constructor
  · intro h i hi
    rcases Nat.lt_or_ge (x.getD i 0) 32 with hc | hc
    · exfalso
      have hm : x.getD i 0 ∈ x.filter (fun c => decide (c < 32)) := by
        rw [List.mem_filter]
        refine ⟨?_, by simpa using hc⟩
        rw [List.getD, List.getElem?_eq_getElem hi]
        exact List.getElem_mem hi
      rw [List.eq_nil_of_length_eq_zero h] at hm
      cases hm
    · exact hc
  · intro h
    refine List.length_eq_zero_iff.2 (List.filter_eq_nil_iff.2 fun a ha => ?_)
    obtain ⟨i, hi, rfl⟩ := List.getElem_of_mem ha
    have := h i hi
    rw [List.getD, List.getElem?_eq_getElem hi] at this
    simpa using this

set_option maxHeartbeats 1000000 in
/-- The document's Line. -/
theorem rline_any (s : ByteArray) (most : Int) (w : World) (hs : s.size < 10000000000000) :
    Calls Tryz.prog 28 #[.string s, .int .i64 most] w fun e w' => e = .returned (.bool (line s.data.toList most)) ∧ Below w.heap.size w w' := by
  have HR := Lib.hid (rrunes_any s w hs)
  have HV := Lib.hid (fun W => rvalid_any s W hs)
  obtain ⟨x, hx⟩ : ∃ x, runes s.data.toList = x := ⟨_, rfl⟩
  have hrl := runes_length s.data.toList
  rw [← Lib.size_eq, hx] at hrl
  have hR : Hid (∀ e w', RRunes w.heap.size w s.data.toList e w' → ∃ v, e = .returned v ∧ Owned w.heap.size w' v x ∧ Below w.heap.size w w') := fun e w' ⟨v, h1, h2, h3⟩ => ⟨v, h1, by rw [← hx]; exact h2, h3⟩
  obtain ⟨b, hb⟩ : ∃ b, valid s.data.toList = b := ⟨_, rfl⟩
  obtain ⟨r, hr⟩ : ∃ r, line s.data.toList most = r := ⟨_, rfl⟩
  have hlow : Hid (r = (b && (low x == 0) && decide ((x.length : Int) ≤ most))) := by
    unfold Hid
    rw [← hr, ← hb, ← hx]
    cases h : ch s.data.toList with
    | none => rw [line_none h, valid_none h]; rfl
    | some y => rw [line_some h, valid_some h, runes_some h]; rfl
  rw [hb] at HV
  rw [hr]
  clear hx hb hr
  go_enter Tryz.func28, Tryz.ntmps28
  go_wp2_with (go_at_call 53; refine HR.out.mono ?_; intro e w1 hd; obtain ⟨v, rfl, hown, hbw⟩ := hR.out _ _ hd)
  obtain ⟨A, cap, hv, hcell⟩ := hown.reads
  subst hv
  go_wp2_with fail
  go_loop [6] (fun i => ∃ k : Nat, k ≤ x.length ∧ i = .int .i64 k ∧ Hid (∀ j, j < k → 32 ≤ x.getD j 0)) (fun i => x.length - (intOf i).toNat)
  case atStart => exact ⟨0, Nat.zero_le _, rfl, fun j hj => absurd hj (by omega)⟩
  case round =>
    obtain ⟨k, hk, rfl, hall⟩ := hrel
    by_cases hlt : k < x.length
    · obtain ⟨ad, rfl, hlb, hc⟩ := hcell (by omega)
      have c1 := hc k hlt
      obtain ⟨p, hp⟩ : ∃ p, x.getD k 0 = p := ⟨_, rfl⟩
      rw [hp] at c1
      have HP := Lib.hid hp
      clear hp hc hcell
      by_cases hp32 : (p : Int) < 32
      · have hr : Hid (r = false) := by
          unfold Hid
          rw [hlow.out]
          have : (low x == 0) = false := by
            cases h : low x == 0 with
            | false => rfl
            | true =>
              have := (low_zero_iff x).1 (eq_of_beq h) k hlt
              rw [HP.out] at this
              omega
          rw [this]; simp
        go_wp2_with fail
        go_ret
        exact ⟨ret_bool hr.out.symm, hbw⟩
      · go_wp2_with fail
        go_round
        case rel =>
          refine ⟨k + 1, by omega, by go_num, fun j hj => ?_⟩
          rcases Nat.lt_or_ge j k with h | h
          · exact hall.out j h
          · rw [show j = k by omega, HP.out]; omega
        case measure => simp [intOf]; omega
    · have hke : k = x.length := by omega
      have hz : (low x == 0) = true := by
        rw [beq_iff_eq, low_zero_iff]
        rw [← hke]; exact hall.out
      have hr : Hid (r = (b && decide ((x.length : Int) ≤ most))) := by unfold Hid; rw [hlow.out, hz, Bool.and_true]
      clear hke hz hcell
      cases b with
      | false =>
        go_wp2_with (go_at_call 41; refine (HV.out _).mono ?_; rintro e w2 ⟨rfl, rfl⟩)
        go_ret
        exact ⟨ret_bool (by rw [hr.out]; rfl), hbw⟩
      | true =>
        go_wp2_with (go_at_call 41; refine (HV.out _).mono ?_; rintro e w2 ⟨rfl, rfl⟩)
        go_ret
        exact ⟨ret_bool (by rw [hr.out]; rfl), hbw⟩
end Go.Proofs.YtphopnfnjnieaaaGreatDoor
