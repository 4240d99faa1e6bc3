/-
  SLICES OF INTEGERS held against each other (help.Plain).
-/
import Derived.Test.YtpomcamkkcggmaaGreatDoorIntsO
import Derived.Deep.QuietTactic
import Derived.BigQuiet
namespace Go.Proofs.YtpomcamkkcggmaaGreatDoor
open Go.RowKit

set_option maxHeartbeats 400000 in
theorem plainOne_any (a b : Int) (w : World) : Calls Tryz.prog 30 #[.int .i64 a, .int .i64 b] w fun e w' => e = .returned (.bool (a == b)) ∧ w = w' := by
  go_enter Tryz.func30, Tryz.ntmps30
  go_wp2
  go_ret
  exact ⟨rfl, rfl⟩

theorem take_succ_eq {x y : List Nat} {k : Nat} (hx : k < x.length) (hy : k < y.length) (h : x.take k = y.take k) (hk : x.getD k 0 = y.getD k 0) : x.take (k + 1) = y.take (k + 1) := by
  rw [List.take_succ_eq_append_getElem hx, List.take_succ_eq_append_getElem hy, h]
  simp only [List.getD, List.getElem?_eq_getElem hx, List.getElem?_eq_getElem hy, Option.getD_some] at hk
  rw [hk]

theorem below_drewN0 (w : World) (n : Nat) : Below w.heap.size w (w.drewN n) := ⟨rfl, rfl, rfl, Nat.le_refl _, fun _ _ => rfl⟩
theorem below_drewN2 (w : World) (n m : Nat) : Below w.heap.size w ((w.drewN n).drewN m) := ⟨rfl, rfl, rfl, Nat.le_refl _, fun _ _ => rfl⟩
set_option maxHeartbeats 1000000 in
theorem same_any (B : Nat) (v u : Value) (x y : List Nat) (w : World) (hx : Reads B w v x) (hy : Reads B w u y) (hl : x.length ≤ 140737488355328) (hm : y.length ≤ 140737488355328) :
    Calls Tryz.prog 29 #[v, u, .func (.func 30) #[] #[]] w fun e w' => e = .returned (.bool (x == y)) ∧ Below w.heap.size w w' := by
  obtain ⟨A, cap, rfl, hx2⟩ := hx
  obtain ⟨A', cap', rfl, hy2⟩ := hy
  by_cases hne : x.length = y.length
  · have HNE := Lib.hid hne
    have hbne : (((x.length : Nat) : Int) != ((y.length : Nat) : Int)) = false := by simp [hne]
    clear hne
    go_enter Tryz.func29, Tryz.ntmps29
    go_wp2_with fail
    go_loopw [7] (fun i wr => ∃ (k n : Nat), k ≤ x.length ∧ i = .int .i64 k ∧ Hid (x.take k = y.take k) ∧ wr = w.drewN n) (fun i _ => x.length - (intOf i).toNat)
    case atStart => exact ⟨0, 0, Nat.zero_le _, rfl, Lib.hid (by simp), rfl⟩
    case round =>
      obtain ⟨k, n, hk, rfl, hte, rfl⟩ := hrel
      by_cases hlt : k < x.length
      · have hlty : k < y.length := by rw [← HNE.out]; exact hlt
        obtain ⟨ad, rfl, hlb, hc⟩ := hx2 (by omega)
        obtain ⟨bd, rfl, hlb', hd⟩ := hy2 (by omega)
        have c1 := hc k hlt
        have d1 := hd k hlty
        obtain ⟨p, hp⟩ : ∃ p, x.getD k 0 = p := ⟨_, rfl⟩
        obtain ⟨q, hq⟩ : ∃ q, y.getD k 0 = q := ⟨_, rfl⟩
        rw [hp] at c1
        rw [hq] at d1
        have HP := Lib.hid hp
        have HQ := Lib.hid hq
        clear hp hq hc hd hx2 hy2
        go_wp2_with fail
        go_quiet ((go_at_call 30; exact (plainOne_any p q _).mono (fun _ _ h => ⟨h.1, _, h.2.symm⟩)))
        go_wp2_with fail
        · have hpq : ((p : Int) == (q : Int)) = false := by simpa using (show (!((p : Int) == (q : Int))) = true by assumption)
          have hq2 : (x == y) = false := by
            cases h : x == y with
            | false => rfl
            | true =>
              have e := eq_of_beq h
              have e2 : p = q := by rw [← HP.out, ← HQ.out, e]
              subst e2
              simp at hpq
          go_ret
          exact ⟨ret_bool hq2.symm, below_drewN2 w n nq⟩
        · have hpq : ((p : Int) == (q : Int)) = true := by simpa using (show (!((p : Int) == (q : Int))) = false by assumption)
          have e2 : p = q := Int.ofNat.inj (eq_of_beq hpq)
          go_roundw
          case rel => exact ⟨k + 1, n + nq, by omega, by go_num, take_succ_eq hlt hlty hte.out (by rw [HP.out, HQ.out, e2]), rfl⟩
          case measure => simp [intOf]; omega
      · have hke : k = x.length := by omega
        have hxy : (x == y) = true := by
          have h1 := hte.out
          rw [hke, List.take_length, HNE.out, List.take_length] at h1
          simp [h1]
        clear hke
        go_wp2_with fail
        go_ret
        exact ⟨ret_bool hxy.symm, below_drewN0 w n⟩
  · have hbne : (((x.length : Nat) : Int) != ((y.length : Nat) : Int)) = true := by simp; omega
    have hq : (x == y) = false := by
      cases h : x == y with
      | false => rfl
      | true => exact absurd (congrArg List.length (eq_of_beq h)) hne
    rw [hq]
    clear hq hne
    go_enter Tryz.func29, Tryz.ntmps29
    go_wp2_with fail
    go_ret
    exact ⟨rfl, Below.refl _ _⟩
set_option maxHeartbeats 400000 in
/-- help.Plain: two lists of numbers held against each other. -/
theorem plain_any (B : Nat) (v u : Value) (x y : List Nat) (w : World) (hx : Reads B w v x) (hy : Reads B w u y) (hl : x.length ≤ 140737488355328) (hm : y.length ≤ 140737488355328) :
    Calls Tryz.prog 16 #[v, u] w fun e w' => e = .returned (.bool (x == y)) ∧ Below w.heap.size w w' := by
  have HS := Lib.hid (same_any B v u x y w hx hy hl hm)
  clear hx hy
  go_enter Tryz.func16, Tryz.ntmps16
  go_wp2_with (go_at_call 29; refine HS.out.mono ?_; rintro e w2 ⟨rfl, hb⟩)
  go_ret
  exact ⟨rfl, hb⟩
end Go.Proofs.YtpomcamkkcggmaaGreatDoor
