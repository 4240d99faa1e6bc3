/-
  cardexref01: In.
-/
import Derived.Test.YtjclfpeccdlaoaaGreatDoorPrs
import Derived.Lib.Hide
namespace Go.Proofs.YtjclfpeccdlaoaaGreatDoor
open Go.RowKit Rg

set_option maxHeartbeats 4000000 in
theorem refIn_any (v : Value) (l : List R) (c : Int) (w : World) (hv : ReadR w.heap.size w v l) (hl : l.length ≤ 140737488355328) : Calls Tryz.prog 113 #[v, .int .i64 c] w fun e w' => e = .returned (.bool (inL l c)) ∧ Below w.heap.size w w' := by
  obtain ⟨A, cap, rfl, _, hx⟩ := hv
  have HX := Lib.hid hx
  have HH := Lib.hid (fun (k : Nat) (r : R) (h : l[k]? = some r) (h1 : r.1 ≤ c) (h2 : c ≤ r.2) => inL_hit h h1 h2)
  have HM := Lib.hid (fun (h : ∀ (j : Nat) r, j < l.length → l[j]? = some r → ¬(r.1 ≤ c ∧ c ≤ r.2)) => inL_miss h)
  clear hx
  go_enter Tryz.func113, Tryz.ntmps113
  go_wp2_with fail
  go_loop [5] (fun i => ∃ (k : Nat), k ≤ l.length ∧ i = .int .i64 k ∧ Hid (∀ (j : Nat) r, j < k → l[j]? = some r → ¬(r.1 ≤ c ∧ c ≤ r.2))) (fun i => l.length - (intOf i).toNat)
  case atStart => exact ⟨0, Nat.zero_le _, rfl, Lib.hid (fun j r h => absurd h (Nat.not_lt_zero _))⟩
  case round =>
    obtain ⟨k, hk, rfl, hno⟩ := hrel
    by_cases hlt : k < l.length
    · obtain ⟨ad, rfl, hlb, hc⟩ := HX.out (by omega)
      obtain ⟨⟨a, b⟩, hr⟩ : ∃ r, l[k]? = some r := ⟨_, List.getElem?_eq_getElem hlt⟩
      obtain ⟨c0, c1⟩ := hc k _ hr
      simp only at c0 c1
      by_cases h : a ≤ c ∧ c ≤ b
      · have hf := HH.out k _ hr h.1 h.2
        have h1 : decide (c ≥ a) = true := by simpa using h.1
        have h2 : decide (c ≤ b) = true := by simpa using h.2
        have h1' : decide (a ≤ c) = true := by simpa using h.1
        clear hc hr h
        go_wp2_with fail
        go_ret
        exact ⟨rfl, Below.refl _ _⟩
      · have hno2 : Hid (∀ (j : Nat) r, j < k + 1 → l[j]? = some r → ¬(r.1 ≤ c ∧ c ≤ r.2)) := Lib.hid (fun j r hj hjr => by
          rcases Nat.lt_or_ge j k with h3 | h3
          · exact hno.out j r h3 hjr
          · obtain rfl : j = k := by omega
            rw [hr] at hjr
            cases hjr
            exact h)
        rcases Bool.eq_false_or_eq_true (decide (a ≤ c)) with h1 | h1
        · have h2 : decide (c ≤ b) = false := by simp at h1 ⊢; omega
          clear hc hr h
          go_wp2_with fail
          go_round
          case rel => exact ⟨k + 1, by omega, by go_num, hno2⟩
          case measure => simp [intOf]; omega
        · clear hc hr h
          go_wp2_with fail
          go_round
          case rel => exact ⟨k + 1, by omega, by go_num, hno2⟩
          case measure => simp [intOf]; omega
    · have hke : k = l.length := by omega
      have hf := HM.out (fun j r hj hjr => hno.out j r (by omega) hjr)
      clear hke
      go_wp2_with fail
      go_ret
      exact ⟨rfl, Below.refl _ _⟩
end Go.Proofs.YtjclfpeccdlaoaaGreatDoor
