/-
  package tree: Kids.
-/
import Derived.Test.YtbkfmbkamocllaaDoorPsh
import Derived.Deep.Cut
namespace Go.Proofs.YtbkfmbkamocllaaDoor
open Go.RowKit Tk Tr

theorem ReadN.at {w : World} {A : Option Addr} {n cap : Nat} {ns : List Nd} (h : ReadN w (.slice A n cap) ns) (h0 : 0 < ns.length) : ∃ ad : Addr, A = some ad ∧ ad.block < w.heap.size ∧ ∀ i x, ns[i]? = some x → ∃ u, AtN w (ad.add (i * 6)) x u ∧ ReadA w u x.2.2.2.2.1 := by
  obtain ⟨A', cap', e, h2⟩ := h
  injection e with e1 e2 e3
  subst e1
  exact h2 h0
set_option maxHeartbeats 4000000 in
set_option maxRecDepth 100000 in
theorem kids_any (v : Value) (ns : List Nd) (i : Int) (w : World) (hv : ReadN w v ns) (hl : ns.length ≤ 1000000) :
    Calls Tryd.prog 27 #[v, .int .i64 i] w fun e w' => (∃ v', e = .returned v' ∧ Owned w.heap.size w' v' (kidsL ns i)) ∧ Below w.heap.size w w' := by
  obtain ⟨A, cap, rfl, hx⟩ := hv
  have HX := Lib.hid hx
  obtain ⟨n, hn⟩ : ∃ n, ns.length = n := ⟨_, rfl⟩
  have HN := Lib.hid hn
  rw [hn] at hl HX ⊢
  clear hx
  by_cases hi0 : i < 0
  · have HR : Hid (kidsL ns i = []) := by unfold Hid kidsL; rw [if_neg (by omega)]
    clear hn
    have g0 : decide (i < 0) = true := decide_eq_true hi0
    clear hi0
    go_enter Tryd.func27, Tryd.ntmps27
    go_wp2_with fail
    go_ret
    rw [HR.out]
    exact ⟨⟨_, rfl, Owned.nil _ _⟩, Below.refl _ _⟩
  by_cases hin : i < n
  · have HR : Hid (kidsL ns i = kidsF i 0 ns) := by unfold Hid kidsL; rw [if_pos (by omega)]
    have g0 : decide (i < 0) = false := decide_eq_false hi0
    have g1 : decide (i ≥ (n : Int)) = false := decide_eq_false (by omega)
    clear hn hi0 hin
    go_enter Tryd.func27, Tryd.ntmps27
    go_wp2_with fail
    go_loopw [5, 18] (fun kv c wr => ∃ (k : Nat) (nw : Value), k ≤ n ∧ c = .int .i64 k ∧ kv = nw ∧ Hid (Owned w.heap.size wr nw (kidsF i 0 (ns.take k))) ∧ Hid (Below w.heap.size w wr)) (fun _ c _ => n - (intOf c).toNat)
    case atStart => exact ⟨0, _, Nat.zero_le _, rfl, rfl, Owned.nil _ _, Below.refl _ _⟩
    case round =>
      obtain ⟨k, nw, hk, rfl, hnv, ho, hb⟩ := hrel
      have hnv2 := hnv.symm
      clear hnv
      subst hnv2
      obtain ⟨KA, kcap, hnf⟩ := ho.out.slice
      subst hnf
      obtain ⟨kn, hkn⟩ : ∃ kn, (kidsF i 0 (ns.take k)).length = kn := ⟨_, rfl⟩
      have hknb : kn ≤ 1000000 := by rw [← hkn]; have := kidsF_len i 0 (ns.take k); rw [List.length_take] at this; omega
      have HKN := Lib.hid hkn
      rw [hkn] at ho ⊢
      clear hkn
      by_cases hlt : k < n
      · obtain ⟨ad, rfl, hlb, hc⟩ := HX.out (by omega)
        obtain ⟨x, hx⟩ : ∃ x, ns[k]? = some x := ⟨_, List.getElem?_eq_getElem (by have := HN.out; omega)⟩
        obtain ⟨u, hat, hua⟩ := hc k x hx
        obtain ⟨k0, k1, k2, k3, k4, k5⟩ := hat.of (w' := wr) (hb.out.block _ (by rw [addBlock]; exact hlb))
        obtain ⟨UA, ucap, rfl, -⟩ := hua
        have HKT := Lib.hid (kids_take (i := i) hx)
        obtain ⟨un, hun⟩ : ∃ un, x.2.2.2.2.1.length = un := ⟨_, rfl⟩
        rw [hun] at k4
        obtain ⟨a0, h0⟩ : ∃ a : Int, x.1 = a := ⟨_, rfl⟩
        obtain ⟨a1, h1⟩ : ∃ a : Int, x.2.1 = a := ⟨_, rfl⟩
        obtain ⟨a2, h2⟩ : ∃ a, bts x.2.2.1 = a := ⟨_, rfl⟩
        obtain ⟨a3, h3⟩ : ∃ a, bts x.2.2.2.1 = a := ⟨_, rfl⟩
        obtain ⟨a5, h5⟩ : ∃ a, bts x.2.2.2.2.2 = a := ⟨_, rfl⟩
        rw [h0] at k0 HKT
        rw [h1] at k1
        rw [h2] at k2
        rw [h3] at k3
        rw [h5] at k5
        obtain ⟨Y, hY⟩ : ∃ Y, wr.heap.size = Y := ⟨_, rfl⟩
        obtain ⟨W7, hW7⟩ : ∃ W7, wr.alloc (.cells #[.int .i64 a0, .int .i64 a1, .string a2, .string a3, .slice UA un ucap, .string a5] 32) = W7 := ⟨_, rfl⟩
        have hw7 : Below wr.heap.size wr W7 := by rw [← hW7]; exact (Below.refl _ _).alloc (Nat.le_refl _) _
        have y0 : W7.cell? ⟨Y, 0, none⟩ = some (.int .i64 a0) := by rw [← hW7, ← hY]; exact (Bk.new _ _ _).cell 0
        have O7 := Lib.hid (ho.out.below hw7)
        have B7 : Hid (Below w.heap.size w W7) := hb.out.trans (hw7.mono hb.out.size)
        have HW7 := Lib.hid hW7
        have HYE := Lib.hid hY
        clear hc hx hat hun h0 h1 h2 h3 h5 hW7 hY hw7 ho hb
        go_upto_region 7 with fail
        rw [HW7.out, HYE.out]
        clear k0 k1 k2 k3 k4 k5
        by_cases hd : a0 = i
        · have gd : (a0 == i) = true := by simpa using hd
          have HKT2 : Hid (kidsF i 0 (ns.take (k + 1)) = kidsF i 0 (ns.take k) ++ [k]) := by unfold Hid; rw [HKT.out, if_pos hd]
          have hz := B7.out.size
          have hkl : (kidsF i 0 (ns.take k)).length ≤ 2000000000 := by rw [HKN.out]; omega
          clear hd
          go_wp2_with (at_builtin; refine push_int rfl _ _ rfl w.heap.size (.slice KA kn kcap) (kidsF i 0 (ns.take k)) k _ rfl W7 rfl O7.out rfl hkl hz ?_)
          intro v9 w9 o9 b9 k9
          have O9 : Hid (Owned w.heap.size w9 v9 (kidsF i 0 (ns.take (k + 1)))) := by unfold Hid; rw [HKT2.out]; exact o9
          have B9 : Hid (Below w.heap.size w w9) := B7.out.trans b9
          clear o9 b9 k9 hz hkl
          go_wp2_with fail
          go_roundw
          case rel => exact ⟨k + 1, _, by omega, by go_num, rfl, O9, B9⟩
          case measure => simp [intOf]; omega
        · have gd : (a0 == i) = false := by simpa using hd
          have HKT2 : Hid (kidsF i 0 (ns.take (k + 1)) = kidsF i 0 (ns.take k)) := by unfold Hid; rw [HKT.out, if_neg hd, List.append_nil]
          clear hd
          go_wp2_with fail
          go_roundw
          case rel => exact ⟨k + 1, _, by omega, by go_num, rfl, by rw [HKT2.out]; exact O7, B7⟩
          case measure => simp [intOf]; omega
      · have HT : Hid (ns.take k = ns) := by unfold Hid; rw [List.take_of_length_le (by have := HN.out; omega)]
        go_wp2_with fail
        go_ret
        rw [HR.out]
        refine ⟨⟨_, rfl, ?_⟩, hb.out⟩
        have h1 := ho.out
        rw [HT.out] at h1
        exact h1
  · have HR : Hid (kidsL ns i = []) := by unfold Hid kidsL; rw [if_neg (by omega)]
    have g0 : decide (i < 0) = false := decide_eq_false hi0
    have g1 : decide (i ≥ (n : Int)) = true := decide_eq_true (by omega)
    clear hn hi0 hin
    go_enter Tryd.func27, Tryd.ntmps27
    go_wp2_with fail
    go_ret
    rw [HR.out]
    exact ⟨⟨_, rfl, Owned.nil _ _⟩, Below.refl _ _⟩
end Go.Proofs.YtbkfmbkamocllaaDoor
