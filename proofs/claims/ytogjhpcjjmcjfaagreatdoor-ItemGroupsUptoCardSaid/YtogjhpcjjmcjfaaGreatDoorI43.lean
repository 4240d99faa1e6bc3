import Derived.Test.YtogjhpcjjmcjfaaGreatDoorI42
import Derived.Test.YtogjhpcjjmcjfaaGreatDoorI40
import Derived.Shelf.SlicesE.DeleteFunc
/- what is reached of it -/
namespace Go.Proofs.YtogjhpcjjmcjfaaGreatDoor
open Go.RowKit Go.Sort Sy Tx Vc Ct
theorem holds_pre {w : World} {h : Nat} {x y : List (List UInt8)} (H : Holds encStr w h 0 (x ++ y).toArray) : Holds encStr w h 0 x.toArray := by
  intro j hj
  have hj2 : j < x.length := by simpa using hj
  have h1 := H j (by simp; omega)
  rw [getElem!_pos _ j (by simp; omega)] at h1
  rw [getElem!_pos _ j hj]
  simpa [List.getElem_append_left hj2] using h1
theorem holds_reads {w : World} {h cap : Nat} {x : List (List UInt8)} (H : Holds encStr w h 0 x.toArray) (hh : h < w.heap.size) : ReadT w.heap.size w (.slice (some ⟨h, 0, none⟩) x.length cap) (sts x) := by
  have hl : (sts x).length = x.length := List.length_map _
  refine ⟨_, cap, by rw [hl], fun _ => ⟨_, rfl, hh, fun i b hi => ?_⟩⟩
  obtain ⟨y, hy, rfl⟩ : ∃ y, x[i]? = some y ∧ b = bts y := by
    unfold sts at hi
    rw [List.getElem?_map] at hi
    cases e : x[i]? with
    | none => rw [e] at hi; cases hi
    | some y => rw [e] at hi; exact ⟨y, rfl, (Option.some.inj hi).symm⟩
  have hi2 : i < x.length := (List.getElem?_eq_some_iff.1 hy).1
  have h1 := (H i (by simpa using hi2)).1
  rw [getElem!_pos _ i (by simpa using hi2)] at h1
  rw [add_at, h1, ← (List.getElem?_eq_some_iff.1 hy).2]
  simp [encStr]
theorem below_put {B : Nat} {w W : World} (hb : Below B w W) (q h : Nat) (hh : B ≤ h) (d : Array (List UInt8)) : Below B w (putRow encStr (Sort.ahead W q) h 0 d) := by
  refine ⟨hb.os, hb.tape, hb.output, Nat.le_trans hb.size (by rw [size_putRow]; exact Nat.le_refl _), fun k hk => (Eq.trans ?_ (hb.block k hk))⟩
  unfold putRow mapBlock
  show ((Sort.ahead W q).heap.modify h _)[k]? = _
  rw [Array.getElem?_modify, if_neg (by omega)]
  rfl
theorem isEmpty_any (x : ByteArray) (w : World) : Calls Tryz.prog 48 #[.string x] w fun e w' => e = .returned (.bool (decide (x.data.toList = []))) ∧ w' = w := by
  go_enter Tryz.func48, Tryz.ntmps48
  go_wp2_with fail
  go_ret
  have e : x.toList.isEmpty = decide (x.data.toList = []) := by rw [toList_data]; cases x.data.toList <;> rfl
  exact ⟨by rw [← e]; rfl, rfl⟩
set_option maxHeartbeats 1000000 in
theorem index_none (A : Option Addr) (cap : Nat) (fv : Value) (w : World) : Calls Tryz.prog 71 #[.slice A 0 cap, fv] w fun e w' => e = .returned (.int .i64 (-1)) ∧ w' = w := by
  go_enter Tryz.func71, Tryz.ntmps71
  go_wp2_with fail
  refine wp_loop_rounds 1 ?_
  rw [rounds_succ]
  go_wp2_with fail
  go_ret
  exact ⟨rfl, rfl⟩
set_option maxHeartbeats 1000000 in
theorem delete_none (A : Option Addr) (cap : Nat) (fv : Value) (w : World) : Calls Tryz.prog 47 #[.slice A 0 cap, fv] w fun e w' => e = .returned (.slice A 0 cap) ∧ w' = w := by
  have H := Lib.hid (index_none A cap fv w)
  go_enter Tryz.func47, Tryz.ntmps47
  go_wp2_with fail
  refine H.out.mono ?_
  rintro e w' ⟨rfl, rfl⟩
  go_wp2_with fail
  go_ret
  exact ⟨rfl, rfl⟩
theorem encStr_one : OneCell encStr := fun _ => rfl
theorem compact_len (l : List (List UInt8)) : (Lib.compact l).length ≤ l.length := by
  unfold Lib.compact Lib.compactUpTo
  rw [List.length_map]
  exact Nat.le_trans (List.length_filter_le _ _) (by simp)
set_option maxHeartbeats 2000000 in
theorem igroups_any (v : Value) (l : List (List UInt8)) (w : World) (hR : ReadT w.heap.size w v (sts l)) (hl : l.length ≤ 1000000) :
    Calls Tryz.prog 20 #[v] w fun e w' => ∃ v', e = .returned v' ∧ ReadT w'.heap.size w' v' (sts (groupsL l)) ∧ Below w.heap.size w w' := by
  have HO := Lib.hid (orderedS_any v l w hR hl)
  have HG := Lib.hid (groups_way l)
  obtain ⟨n, hn⟩ : ∃ n, l.length = n := ⟨_, rfl⟩
  have HN := Lib.hid hn
  clear hR
  go_enter Tryz.func20, Tryz.ntmps20
  go_wp2_with fail
  refine HO.out.mono ?_
  rintro e w1 ⟨A, cap, rfl, b1, h1⟩
  rw [hn] at h1 ⊢
  have B1 := Lib.hid b1
  by_cases h0 : 0 < n
  · obtain ⟨h, rfl, hnc, hge, hlt, hH⟩ := h1 h0
    obtain ⟨M, hM⟩ : ∃ M, (l.mergeSort fun x y => decide (x ≤ y)) = M := ⟨_, rfl⟩
    have hMl : M.length = n := by rw [← hM, List.length_mergeSort, hn]
    rw [hM] at hH HG
    have H2 := Tryz.slices_Compact_string h 0 cap M w1 hH (by omega) (by omega)
    rw [hMl] at H2
    have HC := Lib.hid H2
    have HB : Hid (w.heap.size ≤ h ∧ h < w1.heap.size ∧ n ≤ cap ∧ M.length = n) := ⟨hge, hlt, hnc, hMl⟩
    have HH := Lib.hid hH
    clear h1 b1 hnc hge hlt hH hM H2 hMl hn HO
    go_wp2_with fail
    refine HC.out.mono ?_
    rintro e w2 ⟨rfl, q2, hw2⟩
    obtain ⟨Z, hZ⟩ : ∃ Z, Lib.compact M = Z := ⟨_, rfl⟩
    have hZl : Z.length ≤ n := by rw [← hZ, ← HB.out.2.2.2]; exact compact_len M
    rw [hZ] at hw2 HG ⊢
    have hH2 : Holds encStr w2 h 0 (Z ++ List.replicate (n - Z.length) []).toArray := by
      rw [hw2]
      exact holds_putRow encStr (Sort.ahead w1 q2) h 0 M.toArray _ HH.out (by have := HB.out.2.2.2; simp; omega)
    have B2 : Hid (Below w.heap.size w w2) := by rw [hw2]; exact below_put B1.out q2 h HB.out.1 _
    have hs2 : w1.heap.size = w2.heap.size := by rw [hw2, size_putRow]; rfl
    have hH3 := Lib.hid (holds_pre hH2)
    have hdel := AnyE.slices_DeleteFunc Tryz.delStr encStr encStr_one (fun x => decide (x = [])) 48 #[] (Go.Proofs.enters_of Tryz.func48 (by kernel_rfl) rfl) [] Tryz.zeroValue9 h 0 cap Z.toArray w2
      (fun W x _ => (isEmpty_any (bts x) W).mono fun e w' ⟨he, hw⟩ => ⟨he, 0, hw⟩) (fun m os dk x _ => (isEmpty_any (bts x) _).mono fun e w' ⟨he, hw⟩ => ⟨he, 0, hw⟩) hH3.out (by have := HN.out; simp; omega) (by have := HB.out; simp; omega)
    have hfl : (Z.filter fun x => !decide (x = [])) = groupsL l := by
      rw [← HG.out]
      congr 1
      funext x
      simp
    simp only [List.size_toArray] at hdel
    rw [hfl] at hdel
    have HD := Lib.hid hdel
    have HS2 : Hid (h < w2.heap.size) := by unfold Hid; rw [← hs2]; exact HB.out.2.1
    have HFL : Hid ((groupsL l).length ≤ Z.length) := by unfold Hid; rw [← hfl]; exact List.length_filter_le _ _
    clear hw2 hZ hH2 hdel hfl hs2 hZl
    go_wp2_with fail
    refine HD.out.mono ?_
    rintro e w3 ⟨rfl, q3, hw3⟩
    have hH4 : Holds encStr w3 h 0 (groupsL l ++ List.replicate (Z.length - (groupsL l).length) []).toArray := by
      rw [hw3]
      exact holds_putRow encStr (Sort.ahead w2 q3) h 0 Z.toArray _ hH3.out (by have := HFL.out; simp; omega)
    have B3 : Hid (Below w.heap.size w w3) := by rw [hw3]; exact below_put B2.out q3 h HB.out.1 _
    have hs3 : w2.heap.size = w3.heap.size := by rw [hw3, size_putRow]; rfl
    have HR := Lib.hid (holds_reads (cap := cap) (holds_pre hH4) (by rw [← hs3]; exact HS2.out))
    clear hw3 hH4 hs3
    go_wp2_with fail
    go_ret
    exact ⟨_, rfl, HR.out, B3.out⟩
  · have hn0 : n = 0 := by omega
    subst hn0
    have hl0 : l = [] := List.length_eq_zero_iff.1 HN.out
    have H2 := Lib.hid (Tryz.slices_Compact_string_empty A cap w1)
    have H3 := Lib.hid (delete_none A cap (.func (.func 48) #[] #[]) w1)
    clear h1 b1 hn HO
    go_wp2_with fail
    refine H2.out.mono ?_
    rintro e w2 ⟨rfl, rfl⟩
    go_wp2_with fail
    refine H3.out.mono ?_
    rintro e w3 ⟨rfl, rfl⟩
    go_wp2_with fail
    go_ret
    refine ⟨_, rfl, ?_, B1.out⟩
    rw [hl0]
    exact ⟨A, cap, rfl, fun h => absurd h (by simp [groupsL, sts])⟩
end Go.Proofs.YtogjhpcjjmcjfaaGreatDoor
