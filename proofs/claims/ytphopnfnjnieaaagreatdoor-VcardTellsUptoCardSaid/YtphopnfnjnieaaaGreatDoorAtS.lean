/-
  cardexhelp at attributes that can be read: Plain, Same; two attributes held against each other.
-/
import Derived.Test.YtphopnfnjnieaaaGreatDoorAtt
import Derived.Lib.Hide
import Derived.Laws.StructEq
import Derived.Lib.SlicesS
import Derived.Deep.RegionWith
namespace Go.Proofs.YtphopnfnjnieaaaGreatDoor
open Go.RowKit

theorem bts_inj {a b : List UInt8} (h : bts a = bts b) : a = b := by
  have := congrArg (fun x => x.data.toList) h
  exact this
theorem bts_eqb (a b : List UInt8) : ((bts a).toList == (bts b).toList) = decide (a = b) := by
  rw [ByteArray.toList_mk, ByteArray.toList_mk]
  by_cases h : a = b
  · simp [h]
  · rw [decide_eq_false h]
    simpa using h
theorem eqGuardA (op : BinOp) (x y : Operand) (p q : Att) (w : World) : (eqGuard op 38 x y (agA p) (agA q)).run Tryz.prog w = .ok () w := run_eqGuard_agg w op 38 x y _ _ (by kernel_rfl)
theorem equalAt (p q : Att) (w : World) : (Op.equalIn 10000 38 (agA p) (agA q)).run Tryz.prog w = .ok (decide (p = q)) w := by
  have u3 := Tryz.underlying9
  have a3 := Tryz.isAgg9
  have z3 := Tryz.sizeOf9
  have hS : Tryz.prog.underlying 38 = some (.struct (Tryz.prog.fieldsOf 38)) := by kernel_rfl
  have hp : Tryz.prog.stoodInHeld 38 = false := by kernel_rfl
  rw [show (10000 : Nat) = 9999 + 1 from rfl, run_equalIn_agg w 9999 38 _ _ hS hp]
  simp only [Program.fieldsOf, Tryz.underlying38]
  obtain ⟨a, b⟩ := p
  obtain ⟨c, d⟩ := q
  have e1 := bts_eqb a c
  have e2 := bts_eqb b d
  dsimp only
  generalize bts a = A at e1 ⊢
  generalize bts b = B at e2 ⊢
  generalize bts c = C at e1 ⊢
  generalize bts d = D at e2 ⊢
  go_simp
  by_cases h1 : a = c <;> by_cases h2 : b = d <;> simp [h1, h2] at e1 e2 ⊢ <;> simp [e1, e2]
theorem eqlAt (p q : Att) (w : World) : (binOp .eql 38 (agA p) (agA q)).run Tryz.prog w = .ok (.bool (decide (p = q))) w := by
  rw [run_eql_struct, equalAt]
  rfl
set_option maxHeartbeats 1000000 in
theorem plainOneA (p q : Att) (w : World) : Calls Tryz.prog 71 #[.agg #[.string (bts p.1), .string (bts p.2)], .agg #[.string (bts q.1), .string (bts q.2)]] w fun e w' => e = .returned (.bool (decide (p = q))) ∧ Below w.heap.size w w' := by
  have e1 := fun W => eqlAt p q W
  have e2 := fun op x y W => eqGuardA op x y p q W
  simp only [agA] at e1 e2
  have hb : Below w.heap.size w ((w.alloc (.cells #[.string (bts p.1), .string (bts p.2)] 38)).alloc (.cells #[.string (bts q.1), .string (bts q.2)] 38)) := ((Below.refl _ w).alloc (Nat.le_refl _) _).alloc (by simp) _
  generalize decide (p = q) = r at e1 ⊢
  go_enter Tryz.func71, Tryz.ntmps71
  go_wp2_with fail
  go_ret
  exact ⟨rfl, hb⟩
set_option maxHeartbeats 2000000 in
theorem sameAR_any (v u : Value) (x y : List Att) (w : World) (hx : ReadA w v x) (hy : ReadA w u y) (hl : x.length ≤ 140737488355328) (hm : y.length ≤ 140737488355328) :
    Calls Tryz.prog 70 #[v, u, .func (.func 71) #[] #[]] w fun e w' => e = .returned (.bool (decide (x = y))) ∧ Below w.heap.size w w' := by
  obtain ⟨A, cap, rfl, hx2⟩ := hx
  obtain ⟨A', cap', rfl, hy2⟩ := hy
  by_cases hne : x.length = y.length
  · have HNE := Lib.hid hne
    have HX := Lib.hid hx2
    have HY := Lib.hid hy2
    have hbne : (((x.length : Nat) : Int) != ((y.length : Nat) : Int)) = false := by simp [hne]
    have HPL := Lib.hid plainOneA
    clear hne hx2 hy2
    go_enter Tryz.func70, Tryz.ntmps70
    go_wp2_with fail
    go_loopw [7] (fun i wr => ∃ (k : Nat), k ≤ x.length ∧ i = .int .i64 k ∧ Hid (x.take k = y.take k) ∧ Below w.heap.size w wr) (fun i _ => x.length - (intOf i).toNat)
    case atStart => exact ⟨0, Nat.zero_le _, rfl, Lib.hid (by simp), Below.refl _ _⟩
    case round =>
      obtain ⟨k, hk, rfl, hte, hbw⟩ := hrel
      have hsw := hbw.size
      by_cases hlt : k < x.length
      · have hlty : k < y.length := by rw [← HNE.out]; exact hlt
        obtain ⟨g, rfl, hlb, hc⟩ := HX.out (by omega)
        obtain ⟨g', rfl, hlb', hd⟩ := HY.out (by omega)
        obtain ⟨p, hp⟩ : ∃ p, x[k]? = some p := ⟨_, List.getElem?_eq_getElem hlt⟩
        obtain ⟨q, hq⟩ : ∃ q, y[k]? = some q := ⟨_, List.getElem?_eq_getElem hlty⟩
        obtain ⟨c0, c1⟩ := hc k p hp
        obtain ⟨d0, d1⟩ := hd k q hq
        rw [← hbw.cell (p := g.add (k * 2)) (by rw [addBlock]; exact hlb)] at c0
        rw [← hbw.cell (p := ⟨(g.add (k * 2)).block, (g.add (k * 2)).off + 1, none⟩) (by show (g.add (k * 2)).block < _; rw [addBlock]; exact hlb)] at c1
        rw [← hbw.cell (p := g'.add (k * 2)) (by rw [addBlock]; exact hlb')] at d0
        rw [← hbw.cell (p := ⟨(g'.add (k * 2)).block, (g'.add (k * 2)).off + 1, none⟩) (by show (g'.add (k * 2)).block < _; rw [addBlock]; exact hlb')] at d1
        have HP := Lib.hid hp
        have HQ := Lib.hid hq
        clear hp hq hc hd
        go_wp2_with fail
        go_region_with ((go_at_call 71; refine (HPL.out p q _).mono ?_; rintro e w2 ⟨rfl, b2⟩))
        all_goals
          by_cases hpq : p = q
          · have hd : decide (p = q) = true := decide_eq_true hpq
            have b3 : Below w.heap.size w w2 := hbw.drew.trans (b2.mono hsw)
            have hts := Lib.hid (take_succ_same HP.out HQ.out hte.out hpq)
            simp only [hd]
            clear b2
            go_wp2_with fail
            go_roundw
            case rel => exact ⟨k + 1, by omega, by go_num, hts, b3⟩
            case measure => simp [intOf]; omega
          · have hd : decide (p = q) = false := decide_eq_false hpq
            have hq2 : decide (x = y) = false := by
              refine decide_eq_false (fun e => ?_)
              subst e
              exact hpq (Option.some.inj (HP.out.symm.trans HQ.out))
            have b3 : Below w.heap.size w w2 := hbw.drew.trans (b2.mono hsw)
            simp only [hd]
            clear b2
            go_wp2_with fail
            go_ret
            exact ⟨ret_bool hq2.symm, b3⟩
      · have hke : k = x.length := by omega
        have hxy : decide (x = y) = true := by
          have h1 := hte.out
          rw [hke, List.take_length, HNE.out, List.take_length] at h1
          exact decide_eq_true h1
        clear hke
        go_wp2_with fail
        go_ret
        exact ⟨ret_bool hxy.symm, hbw⟩
  · have hbne : (((x.length : Nat) : Int) != ((y.length : Nat) : Int)) = true := by simp; omega
    have hq : decide (x = y) = false := decide_eq_false (fun e => hne (congrArg List.length e))
    rw [hq]
    clear hq hne hx2 hy2
    go_enter Tryz.func70, Tryz.ntmps70
    go_wp2_with fail
    go_ret
    exact ⟨rfl, Below.refl _ _⟩
set_option maxHeartbeats 400000 in
theorem plainAR_any (v u : Value) (x y : List Att) (w : World) (hx : ReadA w v x) (hy : ReadA w u y) (hl : x.length ≤ 140737488355328) (hm : y.length ≤ 140737488355328) :
    Calls Tryz.prog 52 #[v, u] w fun e w' => e = .returned (.bool (decide (x = y))) ∧ Below w.heap.size w w' := by
  have HS := Lib.hid (sameAR_any v u x y w hx hy hl hm)
  clear hx hy hl hm
  go_enter Tryz.func52, Tryz.ntmps52
  go_wp2_with (go_at_call 70; refine HS.out.mono ?_; rintro e w2 ⟨rfl, hb⟩)
  go_ret
  exact ⟨rfl, hb⟩
end Go.Proofs.YtphopnfnjnieaaaGreatDoor
