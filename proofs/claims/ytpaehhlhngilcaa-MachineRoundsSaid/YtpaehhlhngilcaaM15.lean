import Derived.Test.YtpaehhlhngilcaaRows
import Derived.Test.YtpaehhlhngilcaaM06
import Derived.WalkKit
import Derived.WalkSpells
import Derived.WalkLawsBesides
import Derived.Lib.SlicesS
import Derived.Laws.AppendOwn
import Derived.Deep.QuietTactic
import Derived.BigQuiet
/- what is reached of it -/
namespace Go.Proofs.Ytpaehhlhngilcaa
open Go.RowKit
/-- Strings as values. -/
def strs (x : List ByteArray) : List Value := x.map Value.string
theorem strs_get {x : List ByteArray} {i : Nat} {b : ByteArray} (h : x[i]? = some b) : (strs x)[i]? = some (.string b) := by simp [strs, h]
attribute [irreducible] strs
/-- The slice v, made by the call (above block B), holds just the strings x. -/
def OwnT (B : Nat) (w : World) (v : Value) (x : List ByteArray) : Prop := w.ownsRow B 9 1 v x.length (strs x)
theorem OwnT.nil (B : Nat) (w : World) : OwnT B w (.slice none 0 0) [] := by
  unfold OwnT
  rw [show strs [] = [] from by unfold strs; rfl]
  exact World.ownsRow_nil _ _ _ _
theorem OwnT.below {B : Nat} {w w' : World} {v : Value} {x : List ByteArray} (h : OwnT B w v x) (hb : Below w.heap.size w w') : OwnT B w' v x := by
  have h' : w.ownsRow B 9 1 v x.length (strs x) := h
  refine h'.kept (w' := w') (row := some w.heap.size) ⟨hb.os, hb.tape, hb.output, hb.size, fun i hi _ => hb.block i hi⟩ ?_
  cases ho : v.ownBlock with
  | none => exact .inl rfl
  | some g => exact .inr (fun e => by have := (h'.lt g ho).2; injection e with e; omega)
theorem OwnT.low {B : Nat} {w : World} {v : Value} {x : List ByteArray} (h : OwnT B w v x) {j : Nat} (hj : v.ownBlock = some j) : B ≤ j ∧ j < w.heap.size := World.ownsRow.lt h j hj
theorem OwnT.slice {B : Nat} {w : World} {v : Value} {x : List ByteArray} (h : OwnT B w v x) : ∃ A cap, v = .slice A x.length cap := by
  rcases h.2 with ⟨rfl, h0⟩ | ⟨g, cap, cur, rfl, _⟩
  · exact ⟨none, 0, by rw [h0]⟩
  · exact ⟨_, _, rfl⟩

/-- A slice that can be read: it holds just the strings x, below block B (nil and empty ones too). -/
def ReadT (B : Nat) (w : World) (v : Value) (x : List ByteArray) : Prop :=
  ∃ A cap, v = .slice A x.length cap ∧ (0 < x.length → ∃ ad : Addr, A = some ad ∧ ad.block < B ∧ ∀ i b, x[i]? = some b → w.cell? (ad.add i) = some (.string b))
theorem ReadT.below {B : Nat} {w w' : World} {v : Value} {x : List ByteArray} (h : ReadT B w v x) (hb : Below B w w') : ReadT B w' v x := by
  obtain ⟨A, cap, rfl, h2⟩ := h
  refine ⟨A, cap, rfl, fun h0 => ?_⟩
  obtain ⟨ad, rfl, hl, hc⟩ := h2 h0
  refine ⟨ad, rfl, hl, fun i b hi => (hb.cell ?_).trans (hc i b hi)⟩
  rw [addBlock]
  exact hl
theorem ReadT.more {B C : Nat} {w : World} {v : Value} {x : List ByteArray} (h : ReadT B w v x) (hB : B ≤ C) : ReadT C w v x := by
  obtain ⟨A, cap, rfl, h2⟩ := h
  refine ⟨A, cap, rfl, fun h0 => ?_⟩
  obtain ⟨ad, rfl, hl, hc⟩ := h2 h0
  exact ⟨ad, rfl, by omega, hc⟩
theorem ReadT.nil (B : Nat) (w : World) (cap : Nat) : ReadT B w (.slice none 0 cap) [] := ⟨none, cap, rfl, fun h => absurd h (by simp)⟩
/-- A list that lies in a new block. -/
theorem ReadT.made {w : World} {g cap n o : Nat} {x : List ByteArray} (hn : x.length = n) (hg : g < w.heap.size) (hc : ∀ i b, x[i]? = some b → w.cell? ⟨g, o + i, none⟩ = some (.string b)) : ReadT w.heap.size w (.slice (some ⟨g, o, none⟩) n cap) x := by
  subst hn
  refine ⟨_, cap, rfl, fun _ => ⟨_, rfl, hg, fun i b hi => ?_⟩⟩
  rw [add_at]
  exact hc i b hi

set_option maxHeartbeats 400000 in
theorem plainOneT (a b : ByteArray) (w : World) : Calls Try.prog 34 #[.string a, .string b] w fun e w' => e = .returned (.bool (a.toList == b.toList)) ∧ w = w' := by
  go_enter Try.func34, Try.ntmps34
  go_wp2
  go_ret
  exact ⟨rfl, rfl⟩

theorem below_drewN1 (w : World) (n : Nat) : Below w.heap.size w (w.drewN n) := ⟨rfl, rfl, rfl, Nat.le_refl _, fun _ _ => rfl⟩
theorem below_drewN3 (w : World) (n m : Nat) : Below w.heap.size w ((w.drewN n).drewN m) := ⟨rfl, rfl, rfl, Nat.le_refl _, fun _ _ => rfl⟩
set_option maxHeartbeats 1000000 in
theorem sameT_any (B : Nat) (v u : Value) (x y : List ByteArray) (w : World) (hx : ReadT B w v x) (hy : ReadT B w u y) (hl : x.length ≤ 140737488355328) (hm : y.length ≤ 140737488355328) :
    Calls Try.prog 33 #[v, u, .func (.func 34) #[] #[]] w fun e w' => e = .returned (.bool (decide (x = y))) ∧ Below w.heap.size w w' := by
  obtain ⟨A, cap, rfl, hx2⟩ := hx
  obtain ⟨A', cap', rfl, hy2⟩ := hy
  by_cases hne : x.length = y.length
  · have HNE := Lib.hid hne
    have hbne : (((x.length : Nat) : Int) != ((y.length : Nat) : Int)) = false := by simp [hne]
    clear hne
    go_enter Try.func33, Try.ntmps33
    go_wp2_with fail
    go_loopw [7] (fun i wr => ∃ (k n : Nat), k ≤ x.length ∧ i = .int .i64 k ∧ Hid (x.take k = y.take k) ∧ wr = w.drewN n) (fun i _ => x.length - (intOf i).toNat)
    case atStart => exact ⟨0, 0, Nat.zero_le _, rfl, Lib.hid (by simp), rfl⟩
    case round =>
      obtain ⟨k, n, hk, rfl, hte, rfl⟩ := hrel
      by_cases hlt : k < x.length
      · have hlty : k < y.length := by rw [← HNE.out]; exact hlt
        obtain ⟨ad, rfl, hlb, hc⟩ := hx2 (by omega)
        obtain ⟨bd, rfl, hlb', hd⟩ := hy2 (by omega)
        obtain ⟨p, hp⟩ : ∃ p, x[k]? = some p := ⟨_, List.getElem?_eq_getElem hlt⟩
        obtain ⟨q, hq⟩ : ∃ q, y[k]? = some q := ⟨_, List.getElem?_eq_getElem hlty⟩
        have c1 := hc k p hp
        have d1 := hd k q hq
        have HP := Lib.hid hp
        have HQ := Lib.hid hq
        clear hp hq hc hd hx2 hy2
        go_wp2_with fail
        go_quiet ((go_at_call 34; exact (plainOneT p q _).mono (fun _ _ h => ⟨h.1, _, h.2.symm⟩)))
        go_wp2_with fail
        · have hpq : (p.toList == q.toList) = false := by simpa using (show (!(p.toList == q.toList)) = true by assumption)
          have hq2 : decide (x = y) = false := by
            refine decide_eq_false (fun e => ?_)
            subst e
            have e2 : p = q := Option.some.inj (HP.out.symm.trans HQ.out)
            subst e2
            simp at hpq
          go_ret
          exact ⟨ret_bool hq2.symm, below_drewN3 w n nq⟩
        · have hpq : (p.toList == q.toList) = true := by simpa using (show (!(p.toList == q.toList)) = false by assumption)
          have e2 : p = q := (Lib.bytes_beq_iff p q).1 hpq
          go_roundw
          case rel => exact ⟨k + 1, n + nq, by omega, by go_num, take_succ_same HP.out HQ.out hte.out e2, rfl⟩
          case measure => simp [intOf]; omega
      · have hke : k = x.length := by omega
        have hxy : decide (x = y) = true := by
          have h1 := hte.out
          rw [hke, List.take_length, HNE.out, List.take_length] at h1
          exact decide_eq_true h1
        clear hke
        go_wp2_with fail
        go_ret
        exact ⟨ret_bool hxy.symm, below_drewN1 w n⟩
  · have hbne : (((x.length : Nat) : Int) != ((y.length : Nat) : Int)) = true := by simp; omega
    have hq : decide (x = y) = false := decide_eq_false (fun e => hne (congrArg List.length e))
    rw [hq]
    clear hq hne
    go_enter Try.func33, Try.ntmps33
    go_wp2_with fail
    go_ret
    exact ⟨rfl, Below.refl _ _⟩
set_option maxHeartbeats 400000 in
/-- help.Plain: two lists of strings held against each other. -/
theorem plainT_any (B : Nat) (v u : Value) (x y : List ByteArray) (w : World) (hx : ReadT B w v x) (hy : ReadT B w u y) (hl : x.length ≤ 140737488355328) (hm : y.length ≤ 140737488355328) :
    Calls Try.prog 22 #[v, u] w fun e w' => e = .returned (.bool (decide (x = y))) ∧ Below w.heap.size w w' := by
  have HS := Lib.hid (sameT_any B v u x y w hx hy hl hm)
  clear hx hy
  go_enter Try.func22, Try.ntmps22
  go_wp2_with (go_at_call 33; refine HS.out.mono ?_; rintro e w2 ⟨rfl, hb⟩)
  go_ret
  exact ⟨rfl, hb⟩
end Go.Proofs.Ytpaehhlhngilcaa
