/-
  THE LAWS OF PACKAGE csv (stage 4): few, and what CsvBack keeps of its rows.
-/
import Derived.Test.YtakfcfjamgaekaaDoorCsvA
import Derived.Test.YtakfcfjamgaekaaDoorRefV
namespace Go.Proofs.YtakfcfjamgaekaaDoor
open Go.RowKit Tx

theorem heft_snoc (m : List (List (List UInt8))) (x : List (List UInt8)) : heft (m ++ [x]) = heft m + (3 + (x.map fun x => 3 + x.length).sum) := by
  unfold heft
  rw [List.map_append, List.sum_append, List.map_singleton, List.sum_singleton]
/-- what some fields come to -/
def hsum (xs : List ByteArray) : Nat := ((bts xs).map fun x => 3 + x.length).sum
theorem hsum_take {xs : List ByteArray} {p : ByteArray} {k : Nat} (h : xs[k]? = some p) : hsum (xs.take (k + 1)) = hsum (xs.take k) + (3 + p.size) := by
  unfold hsum
  rw [List.take_add_one, h, Option.toList_some, bts_snoc, List.map_append, List.sum_append, List.map_singleton, List.sum_singleton, Lib.size_eq]
theorem hsum_le (xs : List ByteArray) (k : Nat) : hsum (xs.take k) ≤ hsum xs := by
  induction xs generalizing k with
  | nil => simp
  | cons a t ih =>
    cases k with
    | zero => simp [hsum, bts]
    | succ k =>
      have := ih k
      simp only [hsum, bts, List.take_succ_cons, List.map_cons, List.sum_cons] at this ⊢
      omega
theorem heft_next {m : List (List ByteArray)} {p : List ByteArray} {k : Nat} (h : m[k]? = some p) : heft (btss (m.take (k + 1))) = heft (btss (m.take k)) + (3 + hsum p) := by
  unfold btss
  rw [List.take_add_one, h, Option.toList_some, List.map_append, List.map_singleton, heft_snoc]
  rfl
theorem heft_le (m : List (List ByteArray)) (k : Nat) : heft (btss (m.take k)) ≤ heft (btss m) := by
  rw [show btss (m.take k) = (btss m).take k by simp [btss, List.map_take]]
  exact heft_take _ k

set_option maxHeartbeats 2000000 in
set_option maxRecDepth 100000 in
theorem few_any (B : Nat) (v : Value) (m : List (List ByteArray)) (w : World) (hx : ReadTT B w v m) (hb : heft (btss m) ≤ 10000000) :
    Calls Tryd.prog 6 #[v] w fun e w' => e = .returned (.bool (decide (heft (btss m) ≤ 5000))) ∧ w = w' := by
  obtain ⟨A, cap, rfl, hx2⟩ := hx
  have HX := Lib.hid hx2
  have HLe := Lib.hid (heft_le m)
  have HNx := Lib.hid (fun (k : Nat) p h => heft_next (m := m) (k := k) (p := p) h)
  have HB := Lib.hid hb
  have hml := heft_len (btss m)
  rw [show (btss m).length = m.length by simp [btss]] at hml
  have hml2 : m.length ≤ 10000000 := by omega
  clear hx2 hb hml
  go_enter Tryd.func6, Tryd.ntmps6
  go_wp2_with fail
  go_loop [3, 4] (fun nv iv => ∃ (i N : Nat), i ≤ m.length ∧ nv = .int .i64 N ∧ iv = .int .i64 i ∧ Hid (N = heft (btss (m.take i))) ∧ N ≤ 10000000) (fun _ iv => m.length - (intOf iv).toNat)
  case atStart => exact ⟨0, 0, Nat.zero_le _, rfl, rfl, rfl, by omega⟩
  case round =>
    obtain ⟨i, N, hi, rfl, rfl, hN, hN2⟩ := hrel
    by_cases hlt : i < m.length
    · obtain ⟨ad, rfl, hlb, hc⟩ := HX.out (by omega)
      obtain ⟨p, hp⟩ : ∃ p, m[i]? = some p := ⟨_, List.getElem?_eq_getElem hlt⟩
      obtain ⟨pv, c0, ⟨pA, pcap, rfl, hpA⟩⟩ := hc i p hp
      have hn := HNx.out i p hp
      have hle := HLe.out (i + 1)
      have hbb := HB.out
      have HP := Lib.hid hpA
      have hsl := Lib.hid (hsum_le p)
      have hH : hsum p + N + 3 ≤ 10000000 := by have := hN.out; omega
      have hpl : p.length ≤ 10000000 := by
        have := len_sum p
        have h2 : hsum p = ((bts p).map fun x => 3 + x.length).sum := rfl
        omega
      have HNe := Lib.hid hn
      clear hc hp hpA hn hle hbb
      go_wp2_with fail
      go_loop [3, 5] (fun nv kv => ∃ (k n : Nat), k ≤ p.length ∧ nv = .int .i64 n ∧ kv = .int .i64 k ∧ Hid (n = N + 3 + hsum (p.take k)) ∧ n ≤ 10000000) (fun _ kv => p.length - (intOf kv).toNat)
      case atStart => exact ⟨0, N + 3, Nat.zero_le _, by go_num, rfl, by unfold Hid; rw [List.take_zero]; rfl, by omega⟩
      case round =>
        obtain ⟨k, n, hk, rfl, rfl, hn, hn2⟩ := hrel
        by_cases hltk : k < p.length
        · obtain ⟨bd, rfl, hlb2, hd⟩ := HP.out (by omega)
          obtain ⟨x, hx⟩ : ∃ x, p[k]? = some x := ⟨_, List.getElem?_eq_getElem hltk⟩
          have d0 := hd k x hx
          have hst := hsum_take hx
          have hle2 := hsl.out (k + 1)
          have hn3 : n + 3 + x.size ≤ 10000000 := by have := hn.out; omega
          have HN2 : Hid (n + 3 + x.size = N + 3 + hsum (p.take (k + 1))) := by unfold Hid; have := hn.out; omega
          clear hd hx hst hle2
          go_wp2_with fail
          go_round
          case rel => exact ⟨k + 1, n + 3 + x.size, by omega, by go_num, by go_num, HN2, hn3⟩
          case measure => simp [intOf]; omega
        · obtain rfl : k = p.length := by omega
          have hn3 : Hid (n = heft (btss (m.take (i + 1)))) := by
            unfold Hid
            have h1 := hn.out
            have h2 := HNe.out
            have h3 := hN.out
            rw [List.take_length] at h1
            omega
          clear hn
          go_wp2_with fail
          go_round
          case rel => exact ⟨i + 1, n, by omega, rfl, by go_num, hn3, hn2⟩
          case measure => simp [intOf]; omega
    · have hall : m.take i = m := List.take_of_length_le (by omega)
      have hfin : Hid (decide (heft (btss m) ≤ 5000) = decide ((N : Int) ≤ 5000)) := by
        have := hN.out
        rw [hall] at this
        unfold Hid
        rw [← this]
        exact decide_eq_decide.2 (by omega)
      clear hall
      go_wp2_with fail
      go_ret
      exact ⟨ret_bool hfin.out.symm, rfl⟩
/-- the rows that CsvBack keeps -/
def kept (m : List (List ByteArray)) : List (List ByteArray) := m.filter fun xs => decide (xs ≠ [] ∧ xs.length ≤ 30)
theorem kept_yes {m : List (List ByteArray)} {p : List ByteArray} {k : Nat} (h : m[k]? = some p) (h1 : p ≠ []) (h2 : p.length ≤ 30) : kept (m.take (k + 1)) = kept (m.take k) ++ [p] := by
  unfold kept
  rw [List.take_add_one, h, Option.toList_some, List.filter_append]
  congr 1
  simp [h1, h2]
theorem kept_no {m : List (List ByteArray)} {p : List ByteArray} {k : Nat} (h : m[k]? = some p) (h1 : p = [] ∨ 30 < p.length) : kept (m.take (k + 1)) = kept (m.take k) := by
  unfold kept
  rw [List.take_add_one, h, Option.toList_some, List.filter_append]
  have : List.filter (fun xs : List ByteArray => decide (xs ≠ [] ∧ xs.length ≤ 30)) [p] = [] := by
    rw [List.filter_eq_nil_iff]
    intro a ha
    rw [List.mem_singleton] at ha
    subst ha
    have : ¬ (a ≠ [] ∧ a.length ≤ 30) := by
      rintro ⟨h3, h4⟩
      rcases h1 with h1 | h1
      · exact h3 h1
      · omega
    simpa using this
  rw [this, List.append_nil]
theorem kept_mem {m : List (List ByteArray)} {xs : List ByteArray} (h : xs ∈ kept m) : xs ∈ m ∧ xs ≠ [] ∧ xs.length ≤ 30 := by
  unfold kept at h
  rw [List.mem_filter] at h
  exact ⟨h.1, of_decide_eq_true h.2⟩
theorem kept_heft : ∀ m : List (List ByteArray), heft (btss (kept m)) ≤ heft (btss m)
  | [] => Nat.le_refl _
  | x :: m => by
    have ih := kept_heft m
    unfold kept at ih ⊢
    rw [List.filter_cons]
    split
    · simp only [btss, List.map_cons, heft_cons] at ih ⊢
      omega
    · simp only [btss, List.map_cons, heft_cons] at ih ⊢
      omega
theorem kept_len (m : List (List ByteArray)) : (kept m).length ≤ m.length := List.length_filter_le _ _
theorem sum_part : ∀ m : List (List (List UInt8)), heft m = 3 * m.length + 3 * (m.map List.length).sum + (m.map fun xs => (xs.map List.length).sum).sum
  | [] => rfl
  | x :: m => by
    have h1 := sum_part m
    have h2 := sum3 x
    rw [heft_cons]
    simp only [List.length_cons, List.map_cons, List.sum_cons] at h1 h2 ⊢
    omega
theorem sum30 : ∀ m : List (List (List UInt8)), (∀ xs ∈ m, xs.length ≤ 30) → (m.map List.length).sum ≤ 30 * m.length
  | [], _ => by simp
  | x :: m, h => by
    have h1 := sum30 m (fun y hy => h y (by simp [hy]))
    have h2 := h x (by simp)
    simp only [List.map_cons, List.sum_cons, List.length_cons] at h1 ⊢
    omega
theorem read_heft {l : List UInt8} {m : List (List (List UInt8))} (h : readL l = .ok m) : heft m ≤ 38600 := by
  obtain ⟨h1, h2, h3, h4⟩ := read_good h
  have h5 := sum30 m (fun xs hxs => (h4 xs hxs).2.1)
  rw [sum_part]
  omega
theorem readL_wrong {l : List UInt8} {k : Int} (h : readL l = .error k) : k ≠ 0 := by
  have hrows : ∀ (n : Nat) (l : List UInt8) (k : Int), rowsL n l = .error k → k = 4 ∨ k = 19 := by
    intro n
    induction n with
    | zero =>
      intro l k h
      by_cases hl : l = []
      · subst hl; rw [rowsL_nil] at h; cases h
      · rw [rowsL_full hl] at h; injection h with h; exact .inl h.symm
    | succ n ih =>
      intro l k h
      by_cases hl : l = []
      · subst hl; rw [rowsL_nil] at h; cases h
      · cases hr : row 30 l with
        | error e =>
          rw [rowsL_bad hl hr] at h
          injection h with h
          subst h
          exact row_wrong _ _ _ hr
        | ok q =>
          obtain ⟨xs, r⟩ := q
          rw [rowsL_on hl hr] at h
          cases hs : rowsL n r with
          | ok ys => rw [hs] at h; cases h
          | error e =>
            rw [hs] at h
            injection h with h
            subst h
            exact ih r _ hs
  unfold readL at h
  split at h
  · injection h with h; rw [← h]; decide
  split at h
  · injection h with h; rw [← h]; decide
  · rcases hrows _ _ _ h with h | h <;> omega
theorem readL_big {l : List UInt8} (h : 20000 < l.length) : readL l = .error 4 := by
  unfold readL
  rw [if_pos h]
  rfl
end Go.Proofs.YtakfcfjamgaekaaDoor
