/-
  fold.joined, fold.Unfold: what they answer.
-/
import Derived.Test.YtjdpdkghfbaddaaDoorFoEn
import Derived.Test.YtjdpdkghfbaddaaDoorFoRw
namespace Go.Proofs.YtjdpdkghfbaddaaDoor
open Go.RowKit Tx

theorem jn_take {xs : List ByteArray} {y : ByteArray} {k : Nat} (h : xs[k]? = some y) (hk : 1 ≤ k) : jn (bts (xs.take (k + 1))) = jn (bts (xs.take k)) ++ y.data.toList.tail := by
  rw [List.take_add_one, h]
  have hne : bts (xs.take k) ≠ [] := by
    intro e
    have := congrArg List.length e
    have hl := (List.getElem?_eq_some_iff.1 h).1
    unfold bts at this
    rw [List.length_map, List.length_take, List.length_nil] at this
    omega
  have : bts (xs.take k ++ [y]) = bts (xs.take k) ++ [y.data.toList] := by simp [bts]
  rw [show (some y).toList = [y] from rfl, this, jn_snoc hne]
theorem jn_size : ∀ xs : List ByteArray, (jn (bts xs)).length ≤ bulk xs
  | [] => by simp [bts, jn]
  | x :: t => by
    have h : ∀ t : List ByteArray, ((bts t).flatMap List.tail).length ≤ bulk t := by
      intro t
      induction t with
      | nil => simp [bts]
      | cons a t ih =>
        simp only [bts, bulk, List.map_cons, List.flatMap_cons, List.length_append, List.length_tail, List.sum_cons] at ih ⊢
        have := Lib.size_eq a
        omega
    have h2 := h t
    have := Lib.size_eq x
    simp only [bts, jn, bulk, List.map_cons, List.length_append, List.sum_cons] at h2 ⊢
    omega

set_option maxHeartbeats 4000000 in
set_option maxRecDepth 100000 in
theorem joined_any (g o cap n : Nat) (xs : List ByteArray) (w : World) (hg : g < w.heap.size) (hx : ∀ j x, xs[j]? = some x → w.cell? ⟨g, o + j, none⟩ = some (.string x)) (hn : xs.length = n) (h1 : 1 ≤ n) (hcap : n ≤ cap) (hcap2 : cap ≤ maxLen)
    (hne : ∀ j x, 1 ≤ j → xs[j]? = some x → 1 ≤ x.size) (hb : bulk xs < 100000000) :
    Calls Tryd.prog 28 #[.slice (some ⟨g, o, none⟩) n cap] w fun e w' => e = .returned (.string ⟨(jn (bts xs)).toArray⟩) ∧ Below w.heap.size w w' := by
  unfold maxLen at hcap2
  have hlen := bulk_len xs
  have B0 := Bld.start w
  have D0 : Below w.heap.size w (w.alloc (.cells #[.pointer none, .slice none 0 0] 51)) := (Below.refl _ _).alloc (Nat.le_refl _) _
  obtain ⟨x0, hx0⟩ : ∃ x0, xs[0]? = some x0 := ⟨_, List.getElem?_eq_getElem (by omega)⟩
  have c0 := hx 0 x0 hx0
  rw [Nat.add_zero] at c0
  have hx0s := bulk_one hx0
  obtain ⟨b, hb'⟩ : ∃ b, w.heap.size = b := ⟨_, rfl⟩
  rw [hb'] at B0 D0 hg
  have c1 := c0
  rw [← D0.cell (p := ⟨g, o, none⟩) hg] at c1
  have HB := Lib.hid hb'
  have HX := Lib.hid hx
  have HNE := Lib.hid hne
  have HW0 := Lib.hid (fun (W : World) h => bld_string b (b + 1) [] x0 W h (by simp; omega))
  have HFirst : Hid (jn (bts (xs.take 1)) = [] ++ x0.data.toList) := by
    unfold Hid
    rw [List.take_one, List.head?_eq_getElem?, hx0]
    simp [bts, jn]
  have HLn := Lib.hid (fun (k : Nat) (h : k < n) => (⟨xs[k], List.getElem?_eq_getElem (by omega)⟩ : ∃ x, xs[k]? = some x))
  have HN := Lib.hid hn
  rw [hn] at hlen
  clear hx hne hx0 hn
  go_enter Tryd.func28, Tryd.ntmps28
  go_wp2_with fail
  refine (HW0.out _ B0).mono ?_
  rintro e w1 ⟨rfl, bl1, t1⟩
  have d1 : Below b w w1 := D0.trans t1.below
  clear B0 D0 t1 c0 c1
  by_cases hc1 : cap = 1
  · obtain rfl : n = 1 := by omega
    subst hc1
    have hall : xs.take 1 = xs := List.take_of_length_le (by rw [HN.out]; exact Nat.le_refl _)
    have bl2 : Bld b (b + 1) (jn (bts xs)) w1 := by rw [← hall, HFirst.out]; exact bl1
    have HS := Lib.hid (bld_String b (b + 1) _ w1 bl2)
    clear hall bl1
    go_wp2_with fail
    go_loopw [13] (fun at_ wr => at_ = .int .i64 0 ∧ wr = w1) (fun _ _ => 0)
    case atStart => exact ⟨rfl, rfl⟩
    case round =>
      obtain ⟨rfl, rfl⟩ := hrel
      go_wp2_with fail
      refine HS.out.mono ?_
      rintro e w5 ⟨rfl, b5⟩
      go_wp2_with fail
      go_ret
      exact ⟨rfl, by rw [HB.out]; exact d1.trans b5⟩
  · go_wp2_with fail
    go_loopw [13] (fun at_ wr => ∃ (k : Nat), k + 1 ≤ n ∧ at_ = .int .i64 k ∧ Bld b (b + 1) (jn (bts (xs.take (k + 1)))) wr ∧ Below b w wr) (fun at_ _ => n - (intOf at_).toNat)
    case atStart => exact ⟨0, h1, rfl, by rw [HFirst.out]; exact bl1, d1⟩
    case round =>
      obtain ⟨k, hk, rfl, hbld, hbw⟩ := hrel
      have hsw := hbw.size
      by_cases hlt : k + 1 < n
      · obtain ⟨y, hy⟩ := HLn.out (k + 1) hlt
        have c0 := HX.out (k + 1) y hy
        rw [← hbw.cell (p := ⟨g, o + (k + 1), none⟩) hg] at c0
        rw [show o + (k + 1) = o + 1 + k by omega] at c0
        have hy1 := HNE.out (k + 1) y (by omega) hy
        have hys := bulk_one hy
        have hnx := Lib.hid (jn_take hy (by omega))
        have hol : (jn (bts (xs.take (k + 1)))).length ≤ 100000000 := by
          have e1 := jn_size (xs.take (k + 1))
          have e2 := bulk_take xs (k + 1)
          omega
        have htl : Hid ((y.extract 1 y.size).data.toList = y.data.toList.tail) := by unfold Hid; rw [Lib.extract_to_end, List.drop_one]
        have hts : (y.extract 1 y.size).size ≤ y.size := by rw [ByteArray.size_extract]; omega
        obtain ⟨out, hout⟩ : ∃ out, jn (bts (xs.take (k + 1))) = out := ⟨_, rfl⟩
        rw [hout] at hbld hnx hol
        have HW := Lib.hid (fun (W : World) h => bld_string b (b + 1) out (y.extract 1 y.size) W h (by omega))
        clear hout hts hy
        go_wp2_with fail
        refine (HW.out _ hbld).mono ?_
        rintro e w3 ⟨rfl, bl3, t3⟩
        go_wp2_with fail
        go_roundw
        case rel => exact ⟨k + 1, by omega, by go_num, by rw [hnx.out, ← htl.out]; exact bl3, hbw.trans t3.below⟩
        case measure => simp [intOf]; omega
      · have hall : xs.take (k + 1) = xs := List.take_of_length_le (by rw [HN.out]; omega)
        rw [hall] at hbld
        have HS := Lib.hid (bld_String b (b + 1) _ wr hbld)
        clear hall
        go_wp2_with fail
        refine HS.out.mono ?_
        rintro e w5 ⟨rfl, b5⟩
        go_wp2_with fail
        go_ret
        exact ⟨rfl, by rw [HB.out]; exact hbw.trans b5⟩
end Go.Proofs.YtjdpdkghfbaddaaDoor
