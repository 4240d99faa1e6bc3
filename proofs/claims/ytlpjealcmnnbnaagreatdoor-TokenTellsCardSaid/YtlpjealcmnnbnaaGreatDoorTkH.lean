/-
  package token: Tokens.
-/
import Derived.Test.YtlpjealcmnnbnaaGreatDoorTkG
namespace Go.Proofs.YtlpjealcmnnbnaaGreatDoor
open Go.RowKit Tk

set_option maxHeartbeats 1000000 in
theorem great_any (t : TokA) (A : Option Addr) (n cap : Nat) (w : World) (hn : n = t.2.2.2.2.1.length) (hn2 : n ≤ 1000000000) :
    Calls Tryz.prog 14 #[agK (t, .slice A n cap)] w fun e w' => e = .returned (.bool (great t)) ∧ Below w.heap.size w w' := by
  have hg : Hid (great t = decide ((n : Int) > 10)) := by
    unfold Hid great
    rw [← hn]
    by_cases h : 10 < n
    · rw [decide_eq_true h, decide_eq_true (by omega)]
    · rw [decide_eq_false h, decide_eq_false (by omega)]
  rw [hg.out]
  unfold agK
  simp only
  obtain ⟨a0, h0⟩ : ∃ a : Int, (t.2.1 : Int) = a := ⟨_, rfl⟩
  obtain ⟨a1, h1⟩ : ∃ a : Int, (t.1 : Int) = a := ⟨_, rfl⟩
  obtain ⟨a2, h2⟩ : ∃ a, bts t.2.2.1 = a := ⟨_, rfl⟩
  obtain ⟨a3, h3⟩ : ∃ a, bts t.2.2.2.1 = a := ⟨_, rfl⟩
  obtain ⟨a5, h5⟩ : ∃ a, t.2.2.2.2.2 = a := ⟨_, rfl⟩
  rw [h0, h1, h2, h3, h5]
  clear h0 h1 h2 h3 h5 hn
  go_enter Tryz.func14, Tryz.ntmps14
  go_wp2
  go_ret
  exact ⟨rfl, (Below.refl _ _).alloc (Nat.le_refl _) _⟩
theorem find_hit {x : List TokA} {k : Nat} {t : TokA} (h : x[k]? = some t) (hp : great t = true) (hno : ∀ j a, j < k → x[j]? = some a → great a = false) : x.find? great = some t := by
  rw [List.find?_eq_some_iff_getElem]
  obtain ⟨h1, h2⟩ := List.getElem?_eq_some_iff.1 h
  exact ⟨hp, k, h1, h2, fun j hj => by rw [hno j _ hj (List.getElem?_eq_getElem (by omega))]; rfl⟩
theorem find_miss {x : List TokA} (hno : ∀ j a, j < x.length → x[j]? = some a → great a = false) : x.find? great = none := by
  rw [List.find?_eq_none]
  intro a ha
  obtain ⟨j, hj, rfl⟩ := List.getElem_of_mem ha
  rw [hno j _ hj (List.getElem?_eq_getElem hj)]
  simp
set_option maxHeartbeats 2000000 in
theorem indexT_any (v : Value) (x : List TokA) (w : World) (hv : ReadK w v x) (hl : x.length ≤ 1000000000) (hal : ∀ t ∈ x, t.2.2.2.2.1.length ≤ 1000000000) :
    Calls Tryz.prog 13 #[v, .func (.func 14) #[] #[]] w fun e w' =>
      ((∃ (i : Nat) (t : TokA), e = .returned (.int .i64 i) ∧ x[i]? = some t ∧ x.find? great = some t) ∨ (e = .returned (.int .i64 (-1)) ∧ x.find? great = none)) ∧ Below w.heap.size w w' := by
  have eg : ∀ args w, (callFunc 14 args).run Tryz.prog w = .ok (.enter 14 args) w := Go.Proofs.enters_of Tryz.func14 (by kernel_rfl) rfl
  obtain ⟨A, cap, rfl, _, _, hx⟩ := hv
  have HX := Lib.hid hx
  have HAL := Lib.hid hal
  clear hx hal
  go_enter Tryz.func13, Tryz.ntmps13
  go_wp2_with fail
  go_loopw [8] (fun i wr => ∃ (k : Nat), k ≤ x.length ∧ i = .int .i64 k ∧ Hid (∀ j a, j < k → x[j]? = some a → great a = false) ∧ Below w.heap.size w wr) (fun i _ => x.length - (intOf i).toNat)
  case atStart => exact ⟨0, Nat.zero_le _, rfl, Lib.hid (fun j a h => absurd h (Nat.not_lt_zero _)), Below.refl _ _⟩
  case round =>
    obtain ⟨k, hk, rfl, hno, hb⟩ := hrel
    have hsw := hb.size
    by_cases hlt : k < x.length
    · obtain ⟨g, o, rfl, hlb, hc⟩ := HX.out (by omega)
      obtain ⟨c, hcx⟩ : ∃ c, x[k]? = some c := ⟨_, List.getElem?_eq_getElem hlt⟩
      obtain ⟨u, ⟨c0, c1, c2, c3, c4, c5⟩, hu⟩ := hc k c hcx
      obtain ⟨A5, cap5, rfl, _⟩ := hu
      rw [← hb.cell (p := ⟨g, o + k * 6, none⟩) hlb] at c0
      rw [← hb.cell (p := ⟨g, o + k * 6 + 1, none⟩) hlb] at c1
      rw [← hb.cell (p := ⟨g, o + k * 6 + 2, none⟩) hlb] at c2
      rw [← hb.cell (p := ⟨g, o + k * 6 + 3, none⟩) hlb] at c3
      rw [← hb.cell (p := ⟨g, o + k * 6 + 4, none⟩) hlb] at c4
      rw [← hb.cell (p := ⟨g, o + k * 6 + 5, none⟩) hlb] at c5
      have HC := Lib.hid hcx
      obtain ⟨nA, hnA⟩ : ∃ nA, c.2.2.2.2.1.length = nA := ⟨_, rfl⟩
      have hnB : nA ≤ 1000000000 := by rw [← hnA]; exact HAL.out c (List.mem_of_getElem? hcx)
      have HQ := Lib.hid (great_any c A5 nA cap5 wr hnA.symm hnB)
      unfold agK at HQ
      rw [hnA] at c4
      obtain ⟨a0, h0⟩ : ∃ a : Int, (c.2.1 : Int) = a := ⟨_, rfl⟩
      obtain ⟨a1, h1⟩ : ∃ a : Int, (c.1 : Int) = a := ⟨_, rfl⟩
      obtain ⟨a2, h2⟩ : ∃ a, bts c.2.2.1 = a := ⟨_, rfl⟩
      obtain ⟨a3, h3⟩ : ∃ a, bts c.2.2.2.1 = a := ⟨_, rfl⟩
      obtain ⟨a5, h5⟩ : ∃ a, c.2.2.2.2.2 = a := ⟨_, rfl⟩
      simp only at HQ
      rw [h0, h1, h2, h3, h5] at HQ
      rw [h0] at c0
      rw [h1] at c1
      rw [h2] at c2
      rw [h3] at c3
      rw [h5] at c5
      clear hc hcx h0 h1 h2 h3 h5 hnA
      go_wp2_with fail
      refine HQ.out.mono ?_
      rintro e w2 ⟨rfl, b2⟩
      have hb2 : Below w.heap.size w w2 := hb.trans (b2.mono hsw)
      cases hq : great c with
      | true =>
        have hf := Lib.hid (find_hit HC.out hq hno.out)
        clear hq b2
        go_wp2_with fail
        go_ret
        exact ⟨.inl ⟨k, c, rfl, HC.out, hf.out⟩, hb2⟩
      | false =>
        have hno2 : Hid (∀ j a, j < k + 1 → x[j]? = some a → great a = false) := Lib.hid (fun j a hj ha => by
          rcases Nat.lt_or_ge j k with h | h
          · exact hno.out j a h ha
          · obtain rfl : j = k := by omega
            rw [HC.out] at ha
            cases ha
            exact hq)
        clear hq b2
        go_wp2_with fail
        go_roundw
        case rel => exact ⟨k + 1, by omega, by go_num, hno2, hb2⟩
        case measure => simp [intOf]; omega
    · have hke : Hid (x.length ≤ k) := by unfold Hid; omega
      have hf := Lib.hid (find_miss (x := x) (fun j a hj ha => hno.out j a (by have := hke.out; omega) ha))
      go_wp2_with fail
      go_ret
      exact ⟨.inr ⟨rfl, hf.out⟩, hb⟩
end Go.Proofs.YtlpjealcmnnbnaaGreatDoor
