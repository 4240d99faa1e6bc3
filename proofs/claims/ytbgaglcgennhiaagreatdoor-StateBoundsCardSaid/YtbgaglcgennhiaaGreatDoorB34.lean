import Derived.Test.YtbgaglcgennhiaaGreatDoorB11
import Derived.Test.YtbgaglcgennhiaaGreatDoorShelf
import Derived.Test.YtbgaglcgennhiaaGreatDoorB28
import Derived.Test.YtbgaglcgennhiaaGreatDoorB33
import Derived.Shelf.SlicesE.DeleteFunc
section
/- what is reached of it -/
namespace Go.Proofs.YtbgaglcgennhiaaGreatDoor
open Go.RowKit Go.Sort Sy Tx Vc Ct
def ltB (x y : ByteArray) : Bool := Jd.ltL x.data.toList y.data.toList
theorem ltL_weak : Weak Jd.ltL := by
  refine ⟨fun {x y} h => ?_, fun {x z} h y => ?_⟩
  · rcases Jd.lt_tri x y with ⟨_, k, _⟩ | ⟨k, _, _⟩ | ⟨k, _, _⟩
    · exact k
    · rw [h] at k; cases k
    · rw [h] at k; cases k
  · rcases Jd.lt_tri x y with ⟨k, _, _⟩ | ⟨_, k, _⟩ | ⟨_, _, k⟩
    · exact .inl k
    · exact .inr (Jd.lt_trans y x z k h)
    · exact .inr (k ▸ h)
theorem ltB_weak : Weak ltB := ⟨fun h => ltL_weak.asym h, fun h y => ltL_weak.neg h y.data.toList⟩
def cfB (x y : ByteArray) : Int := if ltB x y then -1 else if ltB y x then 1 else 0
theorem cfB_lt (x y : ByteArray) : ltB x y = decide (cfB x y < 0) := by
  unfold cfB
  cases ltB x y with
  | true => rfl
  | false => cases ltB y x <;> rfl
theorem isNaNS_any (x : ByteArray) (w : World) : Calls Tryz.prog 276 #[.string x] w fun e w' => e = .returned (.bool false) ∧ w' = w := by
  have hx : (x.toList != x.toList) = false := by simp
  go_enter Tryz.func276, Tryz.ntmps276
  go_wp2_with fail
  go_ret
  exact ⟨by simp, rfl⟩
set_option maxHeartbeats 1000000 in
theorem lessS_any (x y : ByteArray) (w : World) : Calls Tryz.prog 257 #[.string x, .string y] w fun e w' => e = .returned (.bool (ltB x y)) ∧ w' = w := by
  have H1 := Lib.hid (isNaNS_any x w)
  have HL : Hid (Op.bytesLess x.toList y.toList = ltB x y) := lt_walk x y
  go_enter Tryz.func257, Tryz.ntmps257
  go_wp2_with (go_at_call 276; refine H1.out.mono ?_; rintro e w' ⟨rfl, rfl⟩)
  go_ret
  exact ⟨by rw [← HL.out]; rfl, rfl⟩
set_option maxHeartbeats 1000000 in
theorem ordS1_any (x y : ByteArray) (w : World) (bx : Nat) (hb : w.cell? ⟨bx, 0, none⟩ = some (.func (.func 257) #[] #[])) :
    Calls Tryz.prog 275 #[.string x, .string y, .pointer (some ⟨bx, 0, none⟩)] w fun e w' => e = .returned (.int .i64 (cfB x y)) ∧ w' = w := by
  have H1 := Lib.hid (lessS_any x y w)
  have H2 := Lib.hid (lessS_any y x w)
  have hc : cfB x y = if ltB x y then -1 else if ltB y x then 1 else 0 := rfl
  obtain ⟨a, ha⟩ : ∃ a, ltB x y = a := ⟨_, rfl⟩
  obtain ⟨b, hb2⟩ : ∃ a, ltB y x = a := ⟨_, rfl⟩
  rw [ha] at H1 hc
  rw [hb2] at H2 hc
  have HCC := Lib.hid hc
  clear ha hb2 hc
  cases a with
  | true =>
    go_enter Tryz.func275, Tryz.ntmps275
    go_wp2_with (go_at_call 257; refine H1.out.mono ?_; rintro e w' ⟨rfl, rfl⟩)
    go_ret
    exact ⟨by rw [HCC.out]; rfl, rfl⟩
  | false =>
    cases b with
    | true =>
      go_enter Tryz.func275, Tryz.ntmps275
      go_wp2_with fail
      refine H1.out.mono ?_
      rintro e w' ⟨rfl, rfl⟩
      go_wp2_with fail
      refine H2.out.mono ?_
      rintro e w' ⟨rfl, rfl⟩
      go_wp2_with fail
      go_ret
      exact ⟨by rw [HCC.out]; rfl, rfl⟩
    | false =>
      go_enter Tryz.func275, Tryz.ntmps275
      go_wp2_with fail
      refine H1.out.mono ?_
      rintro e w' ⟨rfl, rfl⟩
      go_wp2_with fail
      refine H2.out.mono ?_
      rintro e w' ⟨rfl, rfl⟩
      go_wp2_with fail
      go_ret
      exact ⟨by rw [HCC.out]; rfl, rfl⟩
set_option maxHeartbeats 1000000 in
theorem insertionS_none (A : Option Addr) (cap : Nat) (fv : Value) (w : World) : Calls Tryz.prog 285 #[.slice A 0 cap, .int .i64 0, .int .i64 0, fv] w fun e w' => e = .returned (.tuple #[]) ∧ w' = w := by
  go_enter Tryz.func285, Tryz.ntmps285
  go_wp2_with fail
  refine wp_loop_rounds 1 ?_
  rw [rounds_succ]
  go_wp2_with fail
  go_end0
  exact ⟨rfl, rfl⟩
set_option maxHeartbeats 1000000 in
theorem stableS_none (A : Option Addr) (cap : Nat) (fv : Value) (w : World) : Calls Tryz.prog 283 #[.slice A 0 cap, .int .i64 0, fv] w fun e w' => e = .returned (.tuple #[]) ∧ w' = w := by
  have H := Lib.hid (insertionS_none A cap fv w)
  go_enter Tryz.func283, Tryz.ntmps283
  go_wp2_with fail
  refine wp_loop_rounds 1 ?_
  rw [rounds_succ]
  go_wp2_with (go_at_call 285; refine H.out.mono ?_; rintro e w' ⟨rfl, rfl⟩)
  refine wp_loop_rounds 1 ?_
  rw [rounds_succ]
  go_wp2_with fail
  go_end0
  exact ⟨rfl, rfl⟩
set_option maxHeartbeats 1000000 in
theorem sortStableS_none (A : Option Addr) (cap : Nat) (fv : Value) (w : World) : Calls Tryz.prog 274 #[.slice A 0 cap, fv] w fun e w' => e = .returned (.tuple #[]) ∧ w' = w := by
  have H := Lib.hid (stableS_none A cap fv w)
  go_enter Tryz.func274, Tryz.ntmps274
  go_wp2_with fail
  refine H.out.mono ?_
  rintro e w' ⟨rfl, rfl⟩
  go_wp2_with fail
  go_end0
  exact ⟨rfl, rfl⟩

theorem insS_map {α β : Type} (f : α → β) {lt : α → α → Bool} {lt' : β → β → Bool} (h : ∀ x y, lt' (f x) (f y) = lt x y) (x : α) : ∀ l : List α, insS lt' (f x) (l.map f) = (insS lt x l).map f
  | [] => rfl
  | y :: l => by
    simp only [List.map_cons, insS, h]
    split
    · rfl
    · rw [insS_map f h x l]; rfl
theorem sortS_map {α β : Type} (f : α → β) {lt : α → α → Bool} {lt' : β → β → Bool} (h : ∀ x y, lt' (f x) (f y) = lt x y) (l : List α) : sortS lt' (l.map f) = (sortS lt l).map f := by
  suffices g : ∀ (l acc : List α), (l.map f).foldl (fun acc x => insS lt' x acc) (acc.map f) = (l.foldl (fun acc x => insS lt x acc) acc).map f from g l []
  intro l
  induction l with
  | nil => intro acc; rfl
  | cons x l ih =>
    intro acc
    simp only [List.map_cons, List.foldl_cons]
    rw [insS_map f h x acc]
    exact ih _
theorem sortS_sts (l : List (List UInt8)) : sortS ltB (sts l) = sts (sortS Jd.ltL l) := sortS_map bts (fun _ _ => rfl) l
/-- of texts: the same as any sorting -/
theorem sortS_merge (l : List (List UInt8)) : sortS Jd.ltL l = l.mergeSort fun x y => decide (x ≤ y) := by
  have h1 : (sortS Jd.ltL l).Pairwise (fun x y => x ≤ y) := (sortS_up ltL_weak l).imp (fun {x y} h => by
    rw [← List.not_lt]
    intro k
    rw [(lt_iff y x).2 k] at h
    cases h)
  have h2 := sorted_at (zs := l)
  have hp : (sortS Jd.ltL l).Perm (l.mergeSort fun x y => decide (x ≤ y)) := (sortS_perm l).trans (List.mergeSort_perm l _).symm
  exact List.Perm.eq_of_pairwise (fun a b _ _ h1 h2 => List.le_antisymm h1 h2) h1 h2 hp
theorem ReadT.flat {B : Nat} {w : World} {v : Value} {x : List ByteArray} (h : ReadT B w v x) (h0 : 0 < x.length) :
    ∃ b off cap, v = .slice (some ⟨b, off, none⟩) x.length cap ∧ b < B ∧ ∀ j, j < x.length → w.cell? ⟨b, off + j, none⟩ = some (.string (x.getD j ByteArray.empty)) := by
  obtain ⟨A, cap, rfl, h2⟩ := h
  obtain ⟨⟨b, off, sp⟩, rfl, hb, hc⟩ := h2 h0
  cases sp with
  | none =>
    refine ⟨b, off, cap, rfl, hb, fun j hj => ?_⟩
    have := hc j _ (List.getElem?_eq_getElem hj)
    rw [add_at] at this
    rw [this, List.getD_eq_getElem?_getD, List.getElem?_eq_getElem hj]
    rfl
  | some s =>
    exfalso
    have := hc 0 _ (List.getElem?_eq_getElem h0)
    unfold World.cell? at this
    split at this
    · have e : ((⟨b, off, some s⟩ : Addr).add 0).spot.isSome = true := by unfold Addr.add; split <;> simp_all
      rw [e] at this
      simp at this
    · cases this
/-- item.ordered of texts, by cmp.Less: in order; a row of its own -/
def OrdV (l : List (List UInt8)) (w : World) (e : Ending) (w' : World) : Prop :=
  ∃ A cap, e = .returned (.slice A l.length cap) ∧ Below w.heap.size w w' ∧ (0 < l.length → ∃ h, A = some ⟨h, 0, none⟩ ∧ l.length ≤ cap ∧ w.heap.size ≤ h ∧ h < w'.heap.size ∧ Holds encStr w' h 0 (l.mergeSort fun x y => decide (x ≤ y)).toArray)
set_option maxHeartbeats 2000000 in
theorem orderedS_any (v : Value) (l : List (List UInt8)) (w : World) (hR : ReadT w.heap.size w v (sts l)) (hl : l.length ≤ 1000000) :
    Calls Tryz.prog 256 #[v, .func (.func 257) #[] #[]] w fun e w' => OrdV l w e w' := by
  obtain ⟨W1, hW1⟩ : ∃ W1, w.alloc (.cells #[.func (.func 257) #[] #[]] 81) = W1 := ⟨_, rfl⟩
  obtain ⟨bx, hbx⟩ : ∃ bx, w.heap.size = bx := ⟨_, rfl⟩
  have K1 : Hid (Bk W1 bx 81 #[.func (.func 257) #[] #[]]) := by rw [← hW1, ← hbx]; exact Bk.new _ _ _
  have B1 : Hid (Below bx w W1) := by rw [← hW1, ← hbx]; exact (Below.refl _ _).alloc (Nat.le_refl _) _
  have HW1 := Lib.hid hW1
  have HBX := Lib.hid hbx
  have hbx2 := hbx
  have hsz : bx ≤ W1.heap.size := by have := K1.out.lt; omega
  have hll : (sts l).length = l.length := List.length_map _
  obtain ⟨n, hn⟩ : ∃ n, l.length = n := ⟨_, rfl⟩
  have HLN := Lib.hid hn
  have hR1 : ReadT bx W1 v (sts l) := (hbx ▸ hR).below B1.out
  -- the copy
  have HC : Hid (Calls Tryz.prog 61 #[v] W1 fun e w2 => ∃ A cap, e = .returned (.slice A n cap) ∧ Below W1.heap.size W1 w2 ∧ (0 < n → ∃ h, A = some ⟨h, 0, none⟩ ∧ n ≤ cap ∧ W1.heap.size ≤ h ∧ h < w2.heap.size ∧ St encS 1 w2 h (sts l).toArray w2)) := by
    by_cases h0 : 0 < n
    · obtain ⟨b, off, cap, hv, hb, hc⟩ := hR1.flat (by omega)
      rw [hv]
      refine (Tryz.slices_Clone_string b off (sts l).length cap (sts l) W1 (Nat.le_refl _) (by omega) hc).mono ?_
      rintro e w2 ⟨v', rfl, ho, hne, hbl⟩
      rcases ho.2 with ⟨rfl, _⟩ | ⟨h, cap2, cur, rfl, hge, hh, hnc, _, hcs, htk⟩
      · exact absurd rfl hne
      · refine ⟨some ⟨h, 0, none⟩, cap2, by rw [hll, hn], hbl, fun _ => ⟨h, rfl, by omega, hge, lt_of_block hh, ?_⟩⟩
        refine ⟨⟨rfl, rfl, rfl, Nat.le_refl _, fun _ _ _ => rfl⟩, ?_, lt_of_block hh⟩
        rw [Nat.mul_one, hll, hn] at htk
        have hK : Bk w2 h 9 cur := hh
        intro j hj
        have hj2 : j < n := by rw [size_flatK, Nat.mul_one, List.size_toArray, hll, hn] at hj; exact hj
        have hjl : j < (sts l).length := by omega
        have e1 : cur[j]? = some (.string (sts l)[j]) := by
          have h3 : (cur.toList.take n)[j]? = some (.string (sts l)[j]) := by
            rw [htk, List.take_of_length_le (by omega), List.getElem?_map, List.getElem?_eq_getElem hjl]
            rfl
          rw [List.getElem?_take, if_pos hj2, Array.getElem?_toList] at h3
          exact h3
        rw [Nat.zero_add, hK.cell, e1, get_flatK _ _ _ _ (by rw [Nat.mul_one, List.size_toArray]; exact hjl), Nat.div_one, Nat.mod_one, getElem!_pos _ j (by simpa using hjl)]
        exact ⟨by simp [encS], hK.free j⟩
    · have hn0 : n = 0 := by omega
      obtain ⟨A, cap, hv, _⟩ := hR1
      rw [hll, hn, hn0] at hv
      rw [hv, hn0]
      cases A with
      | none =>
        refine (Tryz.slices_Clone_string_nil 0 cap W1).mono ?_
        rintro e w2 ⟨rfl, rfl⟩
        exact ⟨none, 0, rfl, Below.refl _ _, fun h => absurd h (Nat.lt_irrefl _)⟩
      | some a =>
        refine (Tryz.slices_Clone_string_zero a cap W1).mono ?_
        rintro e w2 ⟨v', rfl, ho, hne, hbl⟩
        rcases ho.2 with ⟨rfl, _⟩ | ⟨h, cap2, cur, rfl, _⟩
        · exact absurd rfl hne
        · exact ⟨_, cap2, rfl, hbl, fun h => absurd h (Nat.lt_irrefl _)⟩
  clear hR hR1 hW1 hbx
  unfold OrdV
  rw [hn, hbx2]
  clear hn
  go_enter Tryz.func256, Tryz.ntmps256
  go_upto_region 1 with fail
  (try rw [HW1.out])
  (try rw [HBX.out])
  go_wp2_with fail
  refine HC.out.mono ?_
  rintro e w2 ⟨A, cap, rfl, b2, h2⟩
  have B2 : Hid (Below bx w w2) := B1.out.trans (b2.mono hsz)
  have H2 := Lib.hid h2
  have K2 : Hid (Bk w2 bx 81 #[.func (.func 257) #[] #[]]) := K1.out.below b2 K1.out.lt
  clear b2 h2
  by_cases h0 : 0 < n
  · obtain ⟨h, rfl, hnc, hge, hlt, hS⟩ := H2.out h0
    have hcmp : CmpS 275 #[.pointer (some ⟨bx, 0, none⟩)] cfB w2 h := fun D W' S' x y => by
      refine (ordS1_any x y W' bx ?_).mono fun e w' ⟨he, hw⟩ => ⟨he, by rw [hw]; exact Below.refl _ _⟩
      have hk := K2.out
      have e3 := S'.grown.block bx hk.lt (by intro k; injection k with k; have := K1.out.lt; omega)
      have e4 : Bk W' bx 81 #[.func (.func 257) #[] #[]] := e3.trans hk
      exact e4.cell 0
    have HQ := Lib.hid (sortStableS_any ltB ltB_weak cfB cfB_lt 275 #[.pointer (some ⟨bx, 0, none⟩)] (Go.Proofs.enters_of Tryz.func275 (by kernel_rfl) rfl) (sts l) n cap w2 w2 h hcmp (by rw [hll, HLN.out]) (by have := HLN.out; omega) hS)
    have HG : Hid (W1.heap.size ≤ h ∧ h < w2.heap.size ∧ n ≤ cap) := ⟨hge, hlt, hnc⟩
    clear hcmp hS hge hlt hnc H2 HC
    go_wp2_with fail
    refine HQ.out.mono ?_
    rintro e w3 ⟨rfl, S3⟩
    have hB3 : Below bx w w3 := B2.out.trans ⟨S3.grown.os, S3.grown.tape, S3.grown.output, S3.grown.size, fun k hk => S3.grown.block k (Nat.lt_of_lt_of_le hk (Nat.le_trans hsz (by have := HG.out; omega))) (by intro e; injection e with e; have := HG.out; have := K1.out.lt; omega)⟩
    have HB3 := Lib.hid hB3
    have HS3 := Lib.hid S3
    clear S3 hB3
    go_wp2_with fail
    go_ret
    refine ⟨_, cap, rfl, HB3.out, fun _ => ⟨h, rfl, HG.out.2.2, by have := HG.out; omega, HS3.out.ltW, ?_⟩⟩
    have h4 := HS3.out
    rw [sortS_sts, sortS_merge] at h4
    intro j hj
    have hj2 : j < (l.mergeSort fun x y => decide (x ≤ y)).length := by simpa using hj
    have h5 := h4.cell j (by rw [List.size_toArray]; unfold sts; rw [List.length_map]; exact hj2)
    rw [Nat.zero_add]
    refine ⟨h5.1.trans ?_, h5.2⟩
    rw [getElem!_pos _ j (by rw [List.size_toArray]; unfold sts; rw [List.length_map]; exact hj2), getElem!_pos _ j hj]
    simp [encStr, sts]
  · have hn0 : n = 0 := by omega
    subst hn0
    have HQ := Lib.hid (sortStableS_none A cap (.func (.func 275) #[] #[.pointer (some ⟨bx, 0, none⟩)]) w2)
    clear H2 HC
    go_wp2_with fail
    refine HQ.out.mono ?_
    rintro e w3 ⟨rfl, rfl⟩
    go_wp2_with fail
    go_ret
    exact ⟨A, cap, rfl, B2.out, fun h => absurd h (Nat.lt_irrefl _)⟩
end Go.Proofs.YtbgaglcgennhiaaGreatDoor
end
section
/- what is reached of it -/
namespace Go.Proofs.YtbgaglcgennhiaaGreatDoor
open Go.RowKit Go.Sort Sy Tx Vc Ct
theorem holds_pre {w : World} {h : Nat} {x y : List (List UInt8)} (H : Holds encStr w h 0 (x ++ y).toArray) : Holds encStr w h 0 x.toArray := by
  intro j hj
  have hj2 : j < x.length := by simpa using hj
  have h1 := H j (by simp; omega)
  rw [getElem!_pos _ j (by simp; omega)] at h1
  rw [getElem!_pos _ j hj]
  simpa [List.getElem_append_left hj2] using h1
theorem holds_reads {w : World} {h cap : Nat} {x : List (List UInt8)} (H : Holds encStr w h 0 x.toArray) (hh : h < w.heap.size) : ReadT w.heap.size w (.slice (some ⟨h, 0, none⟩) x.length cap) (sts x) := by
  have hl : (sts x).length = x.length := List.length_map _
  refine ⟨_, cap, by rw [hl], fun _ => ⟨_, rfl, hh, fun i b hi => ?_⟩⟩
  obtain ⟨y, hy, rfl⟩ : ∃ y, x[i]? = some y ∧ b = bts y := by
    unfold sts at hi
    rw [List.getElem?_map] at hi
    cases e : x[i]? with
    | none => rw [e] at hi; cases hi
    | some y => rw [e] at hi; exact ⟨y, rfl, (Option.some.inj hi).symm⟩
  have hi2 : i < x.length := (List.getElem?_eq_some_iff.1 hy).1
  have h1 := (H i (by simpa using hi2)).1
  rw [getElem!_pos _ i (by simpa using hi2)] at h1
  rw [add_at, h1, ← (List.getElem?_eq_some_iff.1 hy).2]
  simp [encStr]
theorem below_put {B : Nat} {w W : World} (hb : Below B w W) (q h : Nat) (hh : B ≤ h) (d : Array (List UInt8)) : Below B w (putRow encStr (Sort.ahead W q) h 0 d) := by
  refine ⟨hb.os, hb.tape, hb.output, Nat.le_trans hb.size (by rw [size_putRow]; exact Nat.le_refl _), fun k hk => (Eq.trans ?_ (hb.block k hk))⟩
  unfold putRow mapBlock
  show ((Sort.ahead W q).heap.modify h _)[k]? = _
  rw [Array.getElem?_modify, if_neg (by omega)]
  rfl
theorem isEmpty_any (x : ByteArray) (w : World) : Calls Tryz.prog 259 #[.string x] w fun e w' => e = .returned (.bool (decide (x.data.toList = []))) ∧ w' = w := by
  go_enter Tryz.func259, Tryz.ntmps259
  go_wp2_with fail
  go_ret
  have e : x.toList.isEmpty = decide (x.data.toList = []) := by rw [toList_data]; cases x.data.toList <;> rfl
  exact ⟨by rw [← e]; rfl, rfl⟩
set_option maxHeartbeats 1000000 in
theorem index_none (A : Option Addr) (cap : Nat) (fv : Value) (w : World) : Calls Tryz.prog 160 #[.slice A 0 cap, fv] w fun e w' => e = .returned (.int .i64 (-1)) ∧ w' = w := by
  go_enter Tryz.func160, Tryz.ntmps160
  go_wp2_with fail
  refine wp_loop_rounds 1 ?_
  rw [rounds_succ]
  go_wp2_with fail
  go_ret
  exact ⟨rfl, rfl⟩
set_option maxHeartbeats 1000000 in
theorem delete_none (A : Option Addr) (cap : Nat) (fv : Value) (w : World) : Calls Tryz.prog 258 #[.slice A 0 cap, fv] w fun e w' => e = .returned (.slice A 0 cap) ∧ w' = w := by
  have H := Lib.hid (index_none A cap fv w)
  go_enter Tryz.func258, Tryz.ntmps258
  go_wp2_with fail
  refine H.out.mono ?_
  rintro e w' ⟨rfl, rfl⟩
  go_wp2_with fail
  go_ret
  exact ⟨rfl, rfl⟩
theorem encStr_one : OneCell encStr := fun _ => rfl
theorem compact_len (l : List (List UInt8)) : (Lib.compact l).length ≤ l.length := by
  unfold Lib.compact Lib.compactUpTo
  rw [List.length_map]
  exact Nat.le_trans (List.length_filter_le _ _) (by simp)
set_option maxHeartbeats 2000000 in
theorem igroups_any (v : Value) (l : List (List UInt8)) (w : World) (hR : ReadT w.heap.size w v (sts l)) (hl : l.length ≤ 1000000) :
    Calls Tryz.prog 234 #[v] w fun e w' => ∃ v', e = .returned v' ∧ ReadT w'.heap.size w' v' (sts (groupsL l)) ∧ Below w.heap.size w w' := by
  have HO := Lib.hid (orderedS_any v l w hR hl)
  have HG := Lib.hid (groups_way l)
  obtain ⟨n, hn⟩ : ∃ n, l.length = n := ⟨_, rfl⟩
  have HN := Lib.hid hn
  clear hR
  go_enter Tryz.func234, Tryz.ntmps234
  go_wp2_with fail
  refine HO.out.mono ?_
  rintro e w1 ⟨A, cap, rfl, b1, h1⟩
  rw [hn] at h1 ⊢
  have B1 := Lib.hid b1
  by_cases h0 : 0 < n
  · obtain ⟨h, rfl, hnc, hge, hlt, hH⟩ := h1 h0
    obtain ⟨M, hM⟩ : ∃ M, (l.mergeSort fun x y => decide (x ≤ y)) = M := ⟨_, rfl⟩
    have hMl : M.length = n := by rw [← hM, List.length_mergeSort, hn]
    rw [hM] at hH HG
    have H2 := Tryz.slices_Compact_string h 0 cap M w1 hH (by omega) (by omega)
    rw [hMl] at H2
    have HC := Lib.hid H2
    have HB : Hid (w.heap.size ≤ h ∧ h < w1.heap.size ∧ n ≤ cap ∧ M.length = n) := ⟨hge, hlt, hnc, hMl⟩
    have HH := Lib.hid hH
    clear h1 b1 hnc hge hlt hH hM H2 hMl hn HO
    go_wp2_with fail
    refine HC.out.mono ?_
    rintro e w2 ⟨rfl, q2, hw2⟩
    obtain ⟨Z, hZ⟩ : ∃ Z, Lib.compact M = Z := ⟨_, rfl⟩
    have hZl : Z.length ≤ n := by rw [← hZ, ← HB.out.2.2.2]; exact compact_len M
    rw [hZ] at hw2 HG ⊢
    have hH2 : Holds encStr w2 h 0 (Z ++ List.replicate (n - Z.length) []).toArray := by
      rw [hw2]
      exact holds_putRow encStr (Sort.ahead w1 q2) h 0 M.toArray _ HH.out (by have := HB.out.2.2.2; simp; omega)
    have B2 : Hid (Below w.heap.size w w2) := by rw [hw2]; exact below_put B1.out q2 h HB.out.1 _
    have hs2 : w1.heap.size = w2.heap.size := by rw [hw2, size_putRow]; rfl
    have hH3 := Lib.hid (holds_pre hH2)
    have hdel := AnyE.slices_DeleteFunc Tryz.delStr encStr encStr_one (fun x => decide (x = [])) 259 #[] (Go.Proofs.enters_of Tryz.func259 (by kernel_rfl) rfl) [] Tryz.zeroValue9 h 0 cap Z.toArray w2
      (fun W x _ => (isEmpty_any (bts x) W).mono fun e w' ⟨he, hw⟩ => ⟨he, 0, hw⟩) (fun m os dk x _ => (isEmpty_any (bts x) _).mono fun e w' ⟨he, hw⟩ => ⟨he, 0, hw⟩) hH3.out (by have := HN.out; simp; omega) (by have := HB.out; simp; omega)
    have hfl : (Z.filter fun x => !decide (x = [])) = groupsL l := by
      rw [← HG.out]
      congr 1
      funext x
      simp
    simp only [List.size_toArray] at hdel
    rw [hfl] at hdel
    have HD := Lib.hid hdel
    have HS2 : Hid (h < w2.heap.size) := by unfold Hid; rw [← hs2]; exact HB.out.2.1
    have HFL : Hid ((groupsL l).length ≤ Z.length) := by unfold Hid; rw [← hfl]; exact List.length_filter_le _ _
    clear hw2 hZ hH2 hdel hfl hs2 hZl
    go_wp2_with fail
    refine HD.out.mono ?_
    rintro e w3 ⟨rfl, q3, hw3⟩
    have hH4 : Holds encStr w3 h 0 (groupsL l ++ List.replicate (Z.length - (groupsL l).length) []).toArray := by
      rw [hw3]
      exact holds_putRow encStr (Sort.ahead w2 q3) h 0 Z.toArray _ hH3.out (by have := HFL.out; simp; omega)
    have B3 : Hid (Below w.heap.size w w3) := by rw [hw3]; exact below_put B2.out q3 h HB.out.1 _
    have hs3 : w2.heap.size = w3.heap.size := by rw [hw3, size_putRow]; rfl
    have HR := Lib.hid (holds_reads (cap := cap) (holds_pre hH4) (by rw [← hs3]; exact HS2.out))
    clear hw3 hH4 hs3
    go_wp2_with fail
    go_ret
    exact ⟨_, rfl, HR.out, B3.out⟩
  · have hn0 : n = 0 := by omega
    subst hn0
    have hl0 : l = [] := List.length_eq_zero_iff.1 HN.out
    have H2 := Lib.hid (Tryz.slices_Compact_string_empty A cap w1)
    have H3 := Lib.hid (delete_none A cap (.func (.func 259) #[] #[]) w1)
    clear h1 b1 hn HO
    go_wp2_with fail
    refine H2.out.mono ?_
    rintro e w2 ⟨rfl, rfl⟩
    go_wp2_with fail
    refine H3.out.mono ?_
    rintro e w3 ⟨rfl, rfl⟩
    go_wp2_with fail
    go_ret
    refine ⟨_, rfl, ?_, B1.out⟩
    rw [hl0]
    exact ⟨A, cap, rfl, fun h => absurd h (by simp [groupsL, sts])⟩
end Go.Proofs.YtbgaglcgennhiaaGreatDoor
end
