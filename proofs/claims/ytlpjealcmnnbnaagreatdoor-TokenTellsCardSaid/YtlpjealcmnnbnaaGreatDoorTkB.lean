/-
  package token: is an attribute of that name there already? slices.ContainsFunc over attributes; the next attribute of a name of its own.
-/
import Derived.Test.YtlpjealcmnnbnaaGreatDoorTkA
namespace Go.Proofs.YtlpjealcmnnbnaaGreatDoor
open Go.RowKit Tk

/-- A question that may be asked of an attribute. -/
def AsksA (w : World) (v : Value) (p : Att → Bool) : Prop := ∃ (F : FuncId) (cb : Array Value), v = .func (.func F) #[] cb ∧ (∀ args W, (callFunc F args).run Tryz.prog W = .ok (.enter F args) W) ∧
  ∀ (a : Att) W, Below w.heap.size w W → Calls Tryz.prog F (#[agA a] ++ cb) W fun e w' => e = .returned (.bool (p a)) ∧ Below W.heap.size W w'
theorem any_hit {α : Type} {x : List α} {p : α → Bool} {k : Nat} {a : α} (h : x[k]? = some a) (hp : p a = true) : x.any p = true := by
  rw [List.any_eq_true]
  exact ⟨a, List.mem_of_getElem? h, hp⟩
theorem any_miss {α : Type} {x : List α} {p : α → Bool} (h : ∀ k a, k < x.length → x[k]? = some a → p a = false) : x.any p = false := by
  rw [List.any_eq_false]
  intro c hc
  obtain ⟨k, hk, rfl⟩ := List.getElem_of_mem hc
  have := h k _ hk (List.getElem?_eq_getElem hk)
  simpa using this
set_option maxHeartbeats 1000000 in
theorem indexA_any (v u : Value) (x : List Att) (p : Att → Bool) (w : World) (hv : RowA w v x) (hl : x.length ≤ 1000000000) (hp : AsksA w u p) :
    Calls Tryz.prog 68 #[v, u] w fun e w' => (∃ z : Int, e = .returned (.int .i64 z) ∧ decide (z ≥ 0) = x.any p) ∧ Below w.heap.size w w' := by
  obtain ⟨F, cb, rfl, eg, hp⟩ := hp
  obtain ⟨A, cap, rfl, hx⟩ := hv.cells
  have HX := Lib.hid hx
  have HP := Lib.hid hp
  have HH := Lib.hid (fun (k : Nat) (a : Att) (h : x[k]? = some a) (h2 : p a = true) => any_hit h h2)
  have HM := Lib.hid (fun (h : ∀ k a, k < x.length → x[k]? = some a → p a = false) => any_miss h)
  clear hx hp hv
  go_enter Tryz.func68, Tryz.ntmps68
  go_wp2_with fail
  go_loopw [8] (fun i wr => ∃ (k : Nat), k ≤ x.length ∧ i = .int .i64 k ∧ Hid (∀ j a, j < k → x[j]? = some a → p a = false) ∧ Below w.heap.size w wr) (fun i _ => x.length - (intOf i).toNat)
  case atStart => exact ⟨0, Nat.zero_le _, rfl, Lib.hid (fun j a h => absurd h (Nat.not_lt_zero _)), Below.refl _ _⟩
  case round =>
    obtain ⟨k, hk, rfl, hno, hb⟩ := hrel
    have hsw := hb.size
    by_cases hlt : k < x.length
    · obtain ⟨g, rfl, hlb, hc⟩ := HX.out (by omega)
      obtain ⟨c, hcx⟩ : ∃ c, x[k]? = some c := ⟨_, List.getElem?_eq_getElem hlt⟩
      obtain ⟨c0, c1⟩ := hc k c hcx
      rw [← hb.cell (p := ⟨g, k * 2, none⟩) hlb] at c0
      rw [← hb.cell (p := ⟨g, k * 2 + 1, none⟩) hlb] at c1
      have HC := Lib.hid hcx
      have HQ := Lib.hid (HP.out c)
      obtain ⟨a1, ha1⟩ : ∃ a1, bts c.1 = a1 := ⟨_, rfl⟩
      obtain ⟨a2, ha2⟩ : ∃ a2, bts c.2 = a2 := ⟨_, rfl⟩
      unfold agA at HQ
      rw [ha1] at c0 HQ
      rw [ha2] at c1 HQ
      clear hc hcx ha1 ha2
      go_wp2_with fail
      refine (HQ.out _ hb).mono ?_
      rintro e w2 ⟨rfl, b2⟩
      have hb2 : Below w.heap.size w w2 := hb.trans (b2.mono hsw)
      cases hq : p c with
      | true =>
        have hf := Lib.hid (HH.out k c HC.out hq)
        clear hq b2
        go_wp2_with fail
        go_ret
        exact ⟨⟨_, rfl, by rw [hf.out]; simp⟩, hb2⟩
      | false =>
        have hno2 : Hid (∀ j a, j < k + 1 → x[j]? = some a → p a = false) := Lib.hid (fun j a hj ha => by
          rcases Nat.lt_or_ge j k with h | h
          · exact hno.out j a h ha
          · obtain rfl : j = k := by omega
            rw [HC.out] at ha
            cases ha
            exact hq)
        clear hq b2
        go_wp2_with fail
        go_roundw
        case rel => exact ⟨k + 1, by omega, by go_num, hno2, hb2⟩
        case measure => simp [intOf]; omega
    · have hke : Hid (x.length ≤ k) := by unfold Hid; omega
      have hf := Lib.hid (HM.out (fun j a hj ha => hno.out j a (by have := hke.out; omega) ha))
      go_wp2_with fail
      go_ret
      exact ⟨⟨_, rfl, by rw [hf.out]; simp⟩, hb⟩
set_option maxHeartbeats 400000 in
theorem containsA_any (v u : Value) (x : List Att) (p : Att → Bool) (w : World) (hv : RowA w v x) (hl : x.length ≤ 1000000000) (hp : AsksA w u p) :
    Calls Tryz.prog 54 #[v, u] w fun e w' => e = .returned (.bool (x.any p)) ∧ Below w.heap.size w w' := by
  have HI := Lib.hid (indexA_any v u x p w hv hl hp)
  obtain ⟨A, cap, rfl, hx⟩ := hv
  obtain ⟨F, cb, rfl, eg, hp⟩ := hp
  obtain ⟨r, hr⟩ : ∃ r, x.any p = r := ⟨_, rfl⟩
  rw [hr] at HI ⊢
  clear hx hp hr eg
  go_enter Tryz.func54, Tryz.ntmps54
  go_wp2_with (go_at_call 68; refine HI.out.mono ?_; rintro e w1 ⟨⟨z, rfl, hz⟩, hb⟩)
  go_ret
  exact ⟨rfl, hb⟩
theorem bts_beq (a b : List UInt8) : ((bts a).toList == (bts b).toList) = (a == b) := by rw [ByteArray.toList_mk, ByteArray.toList_mk]
set_option maxHeartbeats 400000 in
theorem named_any (n : List UInt8) (y : ByteArray) (a : Att) (b : Nat) (w : World) (h : Bk w b 48 #[.string (bts n), .string y]) :
    Calls Tryz.prog 55 (#[agA a] ++ #[.pointer (some ⟨b, 0, none⟩)]) w fun e w' => e = .returned (.bool (a.1 == n)) ∧ Below w.heap.size w w' := by
  rw [← bts_beq a.1 n]
  have c0 : w.cell? ⟨b, 0, none⟩ = some (.string (bts n)) := h.cell 0
  have hb := h.lt
  have hne : b ≠ w.heap.size := by omega
  unfold agA
  obtain ⟨a1, ha1⟩ : ∃ a1, bts a.1 = a1 := ⟨_, rfl⟩
  obtain ⟨a2, ha2⟩ : ∃ a2, bts a.2 = a2 := ⟨_, rfl⟩
  obtain ⟨nn, hnn⟩ : ∃ nn, bts n = nn := ⟨_, rfl⟩
  rw [hnn] at c0 ⊢
  rw [ha1, ha2]
  clear ha1 ha2 hnn h
  go_enter Tryz.func55, Tryz.ntmps55
  go_wp2
  go_ret
  exact ⟨rfl, (Below.refl _ _).alloc (Nat.le_refl _) _⟩
theorem asks_named (n : List UInt8) (y : ByteArray) (b : Nat) (w : World) (h : Bk w b 48 #[.string (bts n), .string y]) : AsksA w (.func (.func 55) #[] #[.pointer (some ⟨b, 0, none⟩)]) (fun a => a.1 == n) :=
  ⟨_, _, rfl, Go.Proofs.enters_of Tryz.func55 (by kernel_rfl) rfl, fun a W hW => named_any n y a b W (h.below hW h.lt)⟩
end Go.Proofs.YtlpjealcmnnbnaaGreatDoor
