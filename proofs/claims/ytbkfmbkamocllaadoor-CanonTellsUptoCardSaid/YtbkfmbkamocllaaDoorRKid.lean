/-
  cardexref08: Kids.
-/
import Derived.Test.YtbkfmbkamocllaaDoorKids
namespace Go.Proofs.YtbkfmbkamocllaaDoor
open Go.RowKit Tk Tr

set_option maxHeartbeats 4000000 in
set_option maxRecDepth 100000 in
theorem rkids_any (v : Value) (ns : List Nd) (i : Int) (w : World) (hv : ReadN w v ns) (hl : ns.length ≤ 1000000) :
    Calls Tryd.prog 28 #[v, .int .i64 i] w fun e w' => (∃ v', e = .returned v' ∧ Owned w.heap.size w' v' (kidsL ns i)) ∧ Below w.heap.size w w' := by
  obtain ⟨A, cap, rfl, hx⟩ := hv
  have HX := Lib.hid hx
  obtain ⟨n, hn⟩ : ∃ n, ns.length = n := ⟨_, rfl⟩
  have HN := Lib.hid hn
  rw [hn] at hl HX ⊢
  clear hx
  by_cases hii : 0 ≤ i ∧ i < n
  · have HR : Hid (kidsL ns i = kidsF i 0 ns) := by unfold Hid kidsL; rw [if_pos (by omega)]
    have g0 : decide (i ≥ 0) = true := decide_eq_true (by omega)
    have g1 : decide (i < (n : Int)) = true := decide_eq_true (by omega)
    clear hn hii
    go_enter Tryd.func28, Tryd.ntmps28
    go_wp2_with fail
    go_loopw [5, 6] (fun kv c wr => ∃ (k : Nat) (nw : Value), k ≤ n ∧ c = .int .i64 k ∧ kv = nw ∧ Hid (Owned w.heap.size wr nw (kidsF i 0 (ns.take k))) ∧ Hid (Below w.heap.size w wr)) (fun _ c _ => n - (intOf c).toNat)
    case atStart => exact ⟨0, _, Nat.zero_le _, rfl, rfl, Owned.nil _ _, Below.refl _ _⟩
    case round =>
      obtain ⟨k, nw, hk, rfl, hnv, ho, hb⟩ := hrel
      have hnv2 := hnv.symm
      clear hnv
      subst hnv2
      obtain ⟨KA, kcap, hnf⟩ := ho.out.slice
      subst hnf
      obtain ⟨kn, hkn⟩ : ∃ kn, (kidsF i 0 (ns.take k)).length = kn := ⟨_, rfl⟩
      have hknb : kn ≤ 1000000 := by rw [← hkn]; have := kidsF_len i 0 (ns.take k); rw [List.length_take] at this; omega
      have HKN := Lib.hid hkn
      rw [hkn] at ho ⊢
      clear hkn
      by_cases hlt : k < n
      · obtain ⟨ad, rfl, hlb, hc⟩ := HX.out (by omega)
        obtain ⟨x, hx⟩ : ∃ x, ns[k]? = some x := ⟨_, List.getElem?_eq_getElem (by have := HN.out; omega)⟩
        obtain ⟨u, hat, hua⟩ := hc k x hx
        obtain ⟨k0, -⟩ := hat.of (w' := wr) (hb.out.block _ (by rw [addBlock]; exact hlb))
        have HKT := Lib.hid (kids_take (i := i) hx)
        obtain ⟨a0, h0⟩ : ∃ a : Int, x.1 = a := ⟨_, rfl⟩
        rw [h0] at k0 HKT
        clear hc hx hat h0 hua
        by_cases hd : a0 = i
        · have gd : (a0 == i) = true := by simpa using hd
          have HKT2 : Hid (kidsF i 0 (ns.take (k + 1)) = kidsF i 0 (ns.take k) ++ [k]) := by unfold Hid; rw [HKT.out, if_pos hd]
          have hz := hb.out.size
          have hkl : (kidsF i 0 (ns.take k)).length ≤ 2000000000 := by rw [HKN.out]; omega
          clear hd
          go_wp2_with (at_builtin; refine push_int rfl _ _ rfl w.heap.size (.slice KA kn kcap) (kidsF i 0 (ns.take k)) k _ rfl wr rfl ho.out rfl hkl hz ?_)
          intro v9 w9 o9 b9 k9
          have O9 : Hid (Owned w.heap.size w9 v9 (kidsF i 0 (ns.take (k + 1)))) := by unfold Hid; rw [HKT2.out]; exact o9
          have B9 : Hid (Below w.heap.size w w9) := hb.out.trans b9
          clear o9 b9 k9 hz hkl
          go_wp2_with fail
          go_roundw
          case rel => exact ⟨k + 1, _, by omega, by go_num, rfl, O9, B9⟩
          case measure => simp [intOf]; omega
        · have gd : (a0 == i) = false := by simpa using hd
          have HKT2 : Hid (kidsF i 0 (ns.take (k + 1)) = kidsF i 0 (ns.take k)) := by unfold Hid; rw [HKT.out, if_neg hd, List.append_nil]
          clear hd
          go_wp2_with fail
          go_roundw
          case rel => exact ⟨k + 1, _, by omega, by go_num, rfl, by rw [HKT2.out]; exact ho, hb⟩
          case measure => simp [intOf]; omega
      · have HT : Hid (ns.take k = ns) := by unfold Hid; rw [List.take_of_length_le (by have := HN.out; omega)]
        go_wp2_with fail
        go_ret
        rw [HR.out]
        refine ⟨⟨_, rfl, ?_⟩, hb.out⟩
        have h1 := ho.out
        rw [HT.out] at h1
        exact h1
  · have HR : Hid (kidsL ns i = []) := by unfold Hid kidsL; rw [if_neg (by omega)]
    have hg : (decide (i ≥ 0) = false) ∨ (decide (i ≥ 0) = true ∧ decide (i < (n : Int)) = false) := by
      by_cases h : i ≥ 0
      · exact .inr ⟨decide_eq_true h, decide_eq_false (by omega)⟩
      · exact .inl (decide_eq_false h)
    clear hn hii
    by_cases h0 : 0 < n
    · rcases hg with g0 | ⟨g0, g1⟩
      · go_enter Tryd.func28, Tryd.ntmps28
        go_wp2_with fail
        go_loopw [5, 6] (fun kv c wr => kv = .slice none 0 0 ∧ c = .int .i64 0 ∧ wr = w) (fun _ _ _ => 0)
        case atStart => exact ⟨rfl, rfl, rfl⟩
        case round =>
          obtain ⟨rfl, rfl, rfl⟩ := hrel
          go_wp2_with fail
          go_ret
          rw [HR.out]
          exact ⟨⟨_, rfl, Owned.nil _ _⟩, Below.refl _ _⟩
      · go_enter Tryd.func28, Tryd.ntmps28
        go_wp2_with fail
        go_loopw [5, 6] (fun kv c wr => kv = .slice none 0 0 ∧ c = .int .i64 0 ∧ wr = w) (fun _ _ _ => 0)
        case atStart => exact ⟨rfl, rfl, rfl⟩
        case round =>
          obtain ⟨rfl, rfl, rfl⟩ := hrel
          go_wp2_with fail
          go_ret
          rw [HR.out]
          exact ⟨⟨_, rfl, Owned.nil _ _⟩, Below.refl _ _⟩
    · go_enter Tryd.func28, Tryd.ntmps28
      go_wp2_with fail
      go_loopw [5, 6] (fun kv c wr => kv = .slice none 0 0 ∧ c = .int .i64 0 ∧ wr = w) (fun _ _ _ => 0)
      case atStart => exact ⟨rfl, rfl, rfl⟩
      case round =>
        obtain ⟨rfl, rfl, rfl⟩ := hrel
        go_wp2_with fail
        go_ret
        rw [HR.out]
        exact ⟨⟨_, rfl, Owned.nil _ _⟩, Below.refl _ _⟩
end Go.Proofs.YtbkfmbkamocllaaDoor
