/-
  cardexref01: RightRanges, In.
-/
import Derived.Test.YtpaojmiemjndlaaPrs
import Derived.Lib.Hide
namespace Go.Proofs.Ytpaojmiemjndlaa
open Go.RowKit Rg

/-- what a place of a list shows, below all that turns -/
theorem two_at {w wr : World} {B : Nat} {ad : Addr} {k : Nat} {a b : Int} (hb : Below B w wr) (hl : ad.block < B) (h : w.cell? (ad.add (k * 2)) = some (.int .i64 a) ∧ w.cell? ⟨(ad.add (k * 2)).block, (ad.add (k * 2)).off + 1, none⟩ = some (.int .i64 b)) :
    wr.cell? (ad.add (k * 2)) = some (.int .i64 a) ∧ wr.cell? ⟨(ad.add (k * 2)).block, (ad.add (k * 2)).off + 1, none⟩ = some (.int .i64 b) := by
  rw [hb.cell (by rw [addBlock]; exact hl), hb.cell (by show (ad.add (k * 2)).block < B; rw [addBlock]; exact hl)]
  exact h

set_option maxHeartbeats 4000000 in
theorem refRight_any (v : Value) (l : List R) (w : World) (hv : ReadR w.heap.size w v l) (hl : l.length ≤ 140737488355328) : Calls Try.prog 10 #[v] w fun e w' => e = .returned (.bool (rightB l)) ∧ Below w.heap.size w w' := by
  obtain ⟨A, cap, rfl, _, hx⟩ := hv
  have HX := Lib.hid hx
  have HG := Lib.hid (fun (h : ∀ i, i < l.length → ¬Bad l i) => rightB_good h)
  have HB := Lib.hid (fun (i : Nat) (h : Bad l i) => rightB_bad h)
  clear hx
  go_enter Try.func10, Try.ntmps10
  go_wp2_with fail
  go_loopw [3] (fun i wr => ∃ (k : Nat), k ≤ l.length ∧ i = .int .i64 k ∧ Hid (∀ j, j < k → ¬Bad l j) ∧ Below w.heap.size w wr) (fun i _ => l.length - (intOf i).toNat)
  case atStart => exact ⟨0, Nat.zero_le _, rfl, Lib.hid (fun j h => absurd h (Nat.not_lt_zero _)), Below.refl _ _⟩
  case round =>
    obtain ⟨k, hk, rfl, hno, hb⟩ := hrel
    by_cases hlt : k < l.length
    · obtain ⟨ad, rfl, hlb, hc⟩ := HX.out (by omega)
      obtain ⟨⟨a, b⟩, hr⟩ : ∃ r, l[k]? = some r := ⟨_, List.getElem?_eq_getElem hlt⟩
      obtain ⟨c0, c1⟩ := two_at hb hlb (hc k _ hr)
      rcases Nat.eq_zero_or_pos k with h0 | h0
      · have hz : decide (0 < k) = false := by simp [h0]
        rcases Bool.eq_false_or_eq_true (decide (b < a)) with h | h
        · have hf := HB.out k (bad_at hr (by simpa using h))
          clear hc hr h0
          go_wp2_with fail
          go_big_quiet (fail)
          go_wp2_with fail
          go_ret
          exact ⟨ret_bool hf.symm, drewN_below hb _⟩
        · have hno2 : Hid (∀ j, j < k + 1 → ¬Bad l j) := Lib.hid (fun j hj => by
            obtain rfl : j = 0 := by omega
            rw [h0] at hr
            exact good_first hr (by simpa using h))
          clear hc hr h0
          go_wp2_with fail
          go_big_quiet (fail)
          go_wp2_with fail
          go_roundw
          case rel => exact ⟨k + 1, by omega, by go_num, hno2, drewN_below hb _⟩
          case measure => simp [intOf]; omega
      · obtain ⟨j, hj⟩ : ∃ j, k = j + 1 := ⟨k - 1, by omega⟩
        have hz : decide (0 < k) = true := decide_eq_true h0
        have hw : (k : Int) - 1 = (j : Int) := by omega
        have hjl : j < l.length := by omega
        obtain ⟨⟨x, y⟩, hp⟩ : ∃ p, l[j]? = some p := ⟨_, List.getElem?_eq_getElem hjl⟩
        obtain ⟨d0, d1⟩ := two_at hb hlb (hc j _ hp)
        have hr2 := hr
        rw [hj] at hr2
        rcases Bool.eq_false_or_eq_true (decide (b < a)) with h | h
        · have hf := HB.out k (bad_at hr (by simpa using h))
          clear hc hr hr2 hp h0 hj
          go_wp2_with fail
          go_big_quiet (fail)
          go_wp2_with fail
          go_ret
          exact ⟨ret_bool hf.symm, drewN_below hb _⟩
        · rcases Bool.eq_false_or_eq_true (decide (a ≤ y)) with h2 | h2
          · have hf := HB.out (j + 1) (bad_next hr2 hp (by simpa using h2))
            clear hc hr hr2 hp h0 hj
            go_wp2_with fail
            go_big_quiet (fail)
            go_wp2_with fail
            go_ret
            exact ⟨ret_bool hf.symm, drewN_below hb _⟩
          · have hno2 : Hid (∀ i, i < k + 1 → ¬Bad l i) := Lib.hid (fun i hi => by
              rcases Nat.lt_or_ge i k with h3 | h3
              · exact hno.out i h3
              · obtain rfl : i = j + 1 := by omega
                exact good_next hr2 hp (by simpa using h) (by simpa using h2))
            clear hc hr hr2 hp h0 hj
            go_wp2_with fail
            go_big_quiet (fail)
            go_wp2_with fail
            go_roundw
            case rel => exact ⟨k + 1, by omega, by go_num, hno2, drewN_below hb _⟩
            case measure => simp [intOf]; omega
    · have hke : k = l.length := by omega
      have hf := HG.out (fun i hi => hno.out i (by omega))
      clear hke
      go_wp2_with fail
      go_ret
      exact ⟨ret_bool hf.symm, hb⟩

set_option maxHeartbeats 4000000 in
theorem refIn_any (v : Value) (l : List R) (c : Int) (w : World) (hv : ReadR w.heap.size w v l) (hl : l.length ≤ 140737488355328) : Calls Try.prog 12 #[v, .int .i64 c] w fun e w' => e = .returned (.bool (inL l c)) ∧ Below w.heap.size w w' := by
  obtain ⟨A, cap, rfl, _, hx⟩ := hv
  have HX := Lib.hid hx
  have HH := Lib.hid (fun (k : Nat) (r : R) (h : l[k]? = some r) (h1 : r.1 ≤ c) (h2 : c ≤ r.2) => inL_hit h h1 h2)
  have HM := Lib.hid (fun (h : ∀ (j : Nat) r, j < l.length → l[j]? = some r → ¬(r.1 ≤ c ∧ c ≤ r.2)) => inL_miss h)
  clear hx
  go_enter Try.func12, Try.ntmps12
  go_wp2_with fail
  go_loop [5] (fun i => ∃ (k : Nat), k ≤ l.length ∧ i = .int .i64 k ∧ Hid (∀ (j : Nat) r, j < k → l[j]? = some r → ¬(r.1 ≤ c ∧ c ≤ r.2))) (fun i => l.length - (intOf i).toNat)
  case atStart => exact ⟨0, Nat.zero_le _, rfl, Lib.hid (fun j r h => absurd h (Nat.not_lt_zero _))⟩
  case round =>
    obtain ⟨k, hk, rfl, hno⟩ := hrel
    by_cases hlt : k < l.length
    · obtain ⟨ad, rfl, hlb, hc⟩ := HX.out (by omega)
      obtain ⟨⟨a, b⟩, hr⟩ : ∃ r, l[k]? = some r := ⟨_, List.getElem?_eq_getElem hlt⟩
      obtain ⟨c0, c1⟩ := hc k _ hr
      simp only at c0 c1
      by_cases h : a ≤ c ∧ c ≤ b
      · have hf := HH.out k _ hr h.1 h.2
        have h1 : decide (c ≥ a) = true := by simpa using h.1
        have h2 : decide (c ≤ b) = true := by simpa using h.2
        have h1' : decide (a ≤ c) = true := by simpa using h.1
        clear hc hr h
        go_wp2_with fail
        go_ret
        exact ⟨rfl, Below.refl _ _⟩
      · have hno2 : Hid (∀ (j : Nat) r, j < k + 1 → l[j]? = some r → ¬(r.1 ≤ c ∧ c ≤ r.2)) := Lib.hid (fun j r hj hjr => by
          rcases Nat.lt_or_ge j k with h3 | h3
          · exact hno.out j r h3 hjr
          · obtain rfl : j = k := by omega
            rw [hr] at hjr
            cases hjr
            exact h)
        rcases Bool.eq_false_or_eq_true (decide (a ≤ c)) with h1 | h1
        · have h2 : decide (c ≤ b) = false := by simp at h1 ⊢; omega
          clear hc hr h
          go_wp2_with fail
          go_round
          case rel => exact ⟨k + 1, by omega, by go_num, hno2⟩
          case measure => simp [intOf]; omega
        · clear hc hr h
          go_wp2_with fail
          go_round
          case rel => exact ⟨k + 1, by omega, by go_num, hno2⟩
          case measure => simp [intOf]; omega
    · have hke : k = l.length := by omega
      have hf := HM.out (fun j r hj hjr => hno.out j r (by omega) hjr)
      clear hke
      go_wp2_with fail
      go_ret
      exact ⟨rfl, Below.refl _ _⟩
end Go.Proofs.Ytpaojmiemjndlaa
