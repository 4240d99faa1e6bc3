/-
  cardexhelp at ranges: Plain, Own, Kept.
-/
import Derived.Test.YtpaojmiemjndlaaPrs
import Derived.Lib.Hide
import Derived.Laws.StructEq
namespace Go.Proofs.Ytpaojmiemjndlaa
open Go.RowKit Rg

theorem eqGuardR (op : BinOp) (x y : Operand) (p q : R) (w : World) : (eqGuard op 26 x y (agR p) (agR q)).run Try.prog w = .ok () w := run_eqGuard_agg w op 26 x y _ _ (by kernel_rfl)
theorem equalR (p q : R) (w : World) : (Op.equalIn 10000 26 (agR p) (agR q)).run Try.prog w = .ok (decide (p = q)) w := by
  have u3 := Try.underlying3
  have a3 := Try.isAgg3
  have z3 := Try.sizeOf3
  have hS : Try.prog.underlying 26 = some (.struct (Try.prog.fieldsOf 26)) := by kernel_rfl
  have hp : Try.prog.stoodInHeld 26 = false := by kernel_rfl
  rw [show (10000 : Nat) = 9999 + 1 from rfl, run_equalIn_agg w 9999 26 _ _ hS hp]
  simp only [Program.fieldsOf, Try.underlying26]
  go_simp
  obtain ⟨a, b⟩ := p
  obtain ⟨c, d⟩ := q
  by_cases h1 : a = c <;> by_cases h2 : b = d <;> simp [h1, h2]
theorem eqlR (p q : R) (w : World) : (binOp .eql 26 (agR p) (agR q)).run Try.prog w = .ok (.bool (decide (p = q))) w := by
  rw [run_eql_struct, equalR]
  rfl
theorem neqR (p q : R) (w : World) : (binOp .neq 26 (agR p) (agR q)).run Try.prog w = .ok (.bool (!decide (p = q))) w := by
  rw [run_neq_struct, equalR]
  rfl

set_option maxHeartbeats 1000000 in
theorem plainOneR (p q : R) (w : World) : Calls Try.prog 30 #[.agg #[.int .i64 p.1, .int .i64 p.2], .agg #[.int .i64 q.1, .int .i64 q.2]] w fun e w' => e = .returned (.bool (decide (p = q))) ∧ Below w.heap.size w w' := by
  have e1 := fun W => eqlR p q W
  have e2 := fun op x y W => eqGuardR op x y p q W
  simp only [agR] at e1 e2
  have hb : Below w.heap.size w ((w.alloc (.cells #[.int .i64 p.1, .int .i64 p.2] 26)).alloc (.cells #[.int .i64 q.1, .int .i64 q.2] 26)) := ((Below.refl _ w).alloc (Nat.le_refl _) _).alloc (by simp) _
  generalize decide (p = q) = r at e1 ⊢
  go_enter Try.func30, Try.ntmps30
  go_wp2_with fail
  go_ret
  exact ⟨rfl, hb⟩

theorem take_succ_same {α : Type} {x y : List α} {k : Nat} {a b : α} (hx : x[k]? = some a) (hy : y[k]? = some b) (h : x.take k = y.take k) (hk : a = b) : x.take (k + 1) = y.take (k + 1) := by
  rw [List.take_add_one, List.take_add_one, h, hx, hy, hk]
set_option maxHeartbeats 2000000 in
theorem sameR_any (v u : Value) (x y : List R) (w : World) (hx : ReadR w.heap.size w v x) (hy : ReadR w.heap.size w u y) (hl : x.length ≤ 140737488355328) (hm : y.length ≤ 140737488355328) :
    Calls Try.prog 29 #[v, u, .func (.func 30) #[] #[]] w fun e w' => e = .returned (.bool (decide (x = y))) ∧ Below w.heap.size w w' := by
  obtain ⟨A, cap, rfl, _, hx2⟩ := hx
  obtain ⟨A', cap', rfl, _, hy2⟩ := hy
  by_cases hne : x.length = y.length
  · have HNE := Lib.hid hne
    have HX := Lib.hid hx2
    have HY := Lib.hid hy2
    have hbne : (((x.length : Nat) : Int) != ((y.length : Nat) : Int)) = false := by simp [hne]
    have HPL := Lib.hid plainOneR
    clear hne hx2 hy2
    go_enter Try.func29, Try.ntmps29
    go_wp2_with fail
    go_loopw [7] (fun i wr => ∃ (k : Nat), k ≤ x.length ∧ i = .int .i64 k ∧ Hid (x.take k = y.take k) ∧ Below w.heap.size w wr) (fun i _ => x.length - (intOf i).toNat)
    case atStart => exact ⟨0, Nat.zero_le _, rfl, Lib.hid (by simp), Below.refl _ _⟩
    case round =>
      obtain ⟨k, hk, rfl, hte, hbw⟩ := hrel
      have hsw := hbw.size
      by_cases hlt : k < x.length
      · have hlty : k < y.length := by rw [← HNE.out]; exact hlt
        obtain ⟨ad, rfl, hlb, hc⟩ := HX.out (by omega)
        obtain ⟨bd, rfl, hlb', hd⟩ := HY.out (by omega)
        obtain ⟨p, hp⟩ : ∃ p, x[k]? = some p := ⟨_, List.getElem?_eq_getElem hlt⟩
        obtain ⟨q, hq⟩ : ∃ q, y[k]? = some q := ⟨_, List.getElem?_eq_getElem hlty⟩
        obtain ⟨c0, c1⟩ := hc k p hp
        obtain ⟨d0, d1⟩ := hd k q hq
        rw [← hbw.cell (p := ad.add (k * 2)) (by rw [addBlock]; omega)] at c0
        rw [← hbw.cell (p := ⟨(ad.add (k * 2)).block, (ad.add (k * 2)).off + 1, none⟩) (by show (ad.add (k * 2)).block < _; rw [addBlock]; omega)] at c1
        rw [← hbw.cell (p := bd.add (k * 2)) (by rw [addBlock]; omega)] at d0
        rw [← hbw.cell (p := ⟨(bd.add (k * 2)).block, (bd.add (k * 2)).off + 1, none⟩) (by show (bd.add (k * 2)).block < _; rw [addBlock]; omega)] at d1
        have HP := Lib.hid hp
        have HQ := Lib.hid hq
        clear hp hq hc hd
        go_wp2_with fail
        go_region_with ((go_at_call 30; refine (HPL.out p q _).mono ?_; rintro e w2 ⟨rfl, b2⟩))
        all_goals
          by_cases hpq : p = q
          · have hd : decide (p = q) = true := decide_eq_true hpq
            have b3 : Below w.heap.size w w2 := hbw.drew.trans (b2.mono hsw)
            have hts := Lib.hid (take_succ_same HP.out HQ.out hte.out hpq)
            simp only [hd]
            clear b2
            go_wp2_with fail
            go_roundw
            case rel => exact ⟨k + 1, by omega, by go_num, hts, b3⟩
            case measure => simp [intOf]; omega
          · have hd : decide (p = q) = false := decide_eq_false hpq
            have hq2 : decide (x = y) = false := by
              refine decide_eq_false (fun e => ?_)
              subst e
              exact hpq (Option.some.inj (HP.out.symm.trans HQ.out))
            have b3 : Below w.heap.size w w2 := hbw.drew.trans (b2.mono hsw)
            simp only [hd]
            clear b2
            go_wp2_with fail
            go_ret
            exact ⟨ret_bool hq2.symm, b3⟩
      · have hke : k = x.length := by omega
        have hxy : decide (x = y) = true := by
          have h1 := hte.out
          rw [hke, List.take_length, HNE.out, List.take_length] at h1
          exact decide_eq_true h1
        clear hke
        go_wp2_with fail
        go_ret
        exact ⟨ret_bool hxy.symm, hbw⟩
  · have hbne : (((x.length : Nat) : Int) != ((y.length : Nat) : Int)) = true := by simp; omega
    have hq : decide (x = y) = false := decide_eq_false (fun e => hne (congrArg List.length e))
    rw [hq]
    clear hq hne
    go_enter Try.func29, Try.ntmps29
    go_wp2_with fail
    go_ret
    exact ⟨rfl, Below.refl _ _⟩
set_option maxHeartbeats 400000 in
/-- help.Plain: two lists of ranges held against each other. -/
theorem plainR_any (v u : Value) (x y : List R) (w : World) (hx : ReadR w.heap.size w v x) (hy : ReadR w.heap.size w u y) (hl : x.length ≤ 140737488355328) (hm : y.length ≤ 140737488355328) :
    Calls Try.prog 13 #[v, u] w fun e w' => e = .returned (.bool (decide (x = y))) ∧ Below w.heap.size w w' := by
  have HS := Lib.hid (sameR_any v u x y w hx hy hl hm)
  clear hx hy hl hm
  go_enter Try.func13, Try.ntmps13
  go_wp2_with (go_at_call 29; refine HS.out.mono ?_; rintro e w2 ⟨rfl, hb⟩)
  go_ret
  exact ⟨rfl, hb⟩
end Go.Proofs.Ytpaojmiemjndlaa
