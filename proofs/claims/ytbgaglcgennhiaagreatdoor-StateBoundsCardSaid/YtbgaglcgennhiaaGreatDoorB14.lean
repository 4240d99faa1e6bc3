import Derived.Test.YtbgaglcgennhiaaGreatDoorRows
import Derived.Test.YtbgaglcgennhiaaGreatDoorB03
import Derived.Test.YtbgaglcgennhiaaGreatDoorB04
import Derived.Test.YtbgaglcgennhiaaGreatDoorB05
import Derived.Test.YtbgaglcgennhiaaGreatDoorShelf
import Derived.WalkKit
import Derived.WalkSpells
import Derived.WalkLawsBesides
/- what is reached of it -/
namespace Go.Proofs.YtbgaglcgennhiaaGreatDoor
open Go.RowKit Tx
/-- The library's two tables of UTF-8. -/
def Tabs (w : World) : Prop := Lib.Utf8Tabs 1 2 w
theorem Tabs.below {w w' : World} (h : Tabs w) (hb : Below w.heap.size w w') : Tabs w' := Utf8Tabs_below h hb

theorem dc_go (s : ByteArray) (hs : s.data.toList ≠ []) : Lib.decodeGo s = dc s.data.toList := by
  have hz : s.size ≠ 0 := by
    intro e
    exact hs (List.eq_nil_of_length_eq_zero (by rw [← Lib.size_eq]; exact e))
  have g : ∀ i, (s.get! i) = s.data.toList.getD i 0 := fun i => by
    cases s with
    | mk d =>
      show d[i]! = d.toList.getD i 0
      by_cases h : i < d.size
      · rw [getElem!_pos d i h]; simp [List.getD, h]
      · rw [getElem!_neg d i h]; simp [List.getD, h]; rfl
  unfold Lib.decodeGo
  rw [if_neg hz, Lib.decode_at, Nat.sub_zero, g, g, g, g, Lib.size_eq, dc_eq]

theorem dec_any (s : ByteArray) (c n : Nat) (w : World) (hs : s.data.toList ≠ []) (hd : Hid (dc s.data.toList = (c, n))) (ht : Tabs w) :
    Calls Tryz.prog 203 #[.string s] w fun e w' => e = .returned (.tuple #[.int .i32 c, .int .i64 n]) ∧ Below w.heap.size w w' := by
  refine (Tryz.utf8_DecodeRuneInString s w ht).mono fun e w' ⟨he, hb⟩ => ?_
  rw [dc_go s hs, hd.out] at he
  exact ⟨he, hb⟩

set_option maxHeartbeats 400000 in
theorem longer_any (a l c : Nat) (w : World) (ha : a < 1000000000000000) (hl : l < 1000000000000000) :
    Calls Tryz.prog 166 #[.agg #[.int .i64 a, .int .i64 l], .int .i32 c] w fun e w' => e = .returned (.agg #[.int .i64 (a + 1 : Nat), .int .i64 (if c < 32 then l + 1 else l : Nat)]) ∧ Below w.heap.size w w' := by
  by_cases hc : c < 32
  · rw [if_pos hc]
    go_enter Tryz.func166, Tryz.ntmps166
    go_wp2
    exact bodyPost_ret (v := .agg #[.int .i64 (a + 1 : Nat), .int .i64 (l + 1 : Nat)]) (by simp [results, Tryz.results166, go_sem]) rfl ⟨rfl, ((Below.refl _ _).alloc (Nat.le_refl _) _).alloc (by simp) _⟩
  · rw [if_neg hc]
    go_enter Tryz.func166, Tryz.ntmps166
    go_wp2
    exact bodyPost_ret (v := .agg #[.int .i64 (a + 1 : Nat), .int .i64 l]) (by simp [results, Tryz.results166, go_sem]) rfl ⟨rfl, ((Below.refl _ _).alloc (Nat.le_refl _) _).alloc (by simp) _⟩

theorem okc_int (c : Nat) : okc c = ((c : Int) == 9 || (c : Int) == 10 || (c : Int) == 13 || (decide ((32 : Int) ≤ c) && !((c : Int) == 65534) && !((c : Int) == 65535))) := by
  rw [okc_eq, Bool.eq_iff_iff]
  simp
  omega
set_option maxHeartbeats 400000 in
theorem allowed_any (c : Nat) (w : World) :
    Calls Tryz.prog 204 #[.int .i32 c] w fun e w' => e = .returned (.bool (okc c)) ∧ w = w' := by
  rw [okc_int]
  obtain ⟨z, hz⟩ : ∃ z : Int, (c : Int) = z := ⟨_, rfl⟩
  rw [hz]
  clear hz
  go_enter Tryz.func204, Tryz.ntmps204
  go_wp2
  all_goals (go_ret; refine ⟨ret_bool ?_, rfl⟩; simp [*])

/-- What a text's characters make: how many there are, how many of them below the blank. -/
def spanOf (l : List UInt8) : Value := match ch l with
  | some x => .tuple #[.agg #[.int .i64 x.length, .int .i64 (low x)], .bool true]
  | none => .tuple #[.agg #[.int .i64 0, .int .i64 0], .bool false]
theorem spanOf_some {l : List UInt8} {x : List Nat} (h : ch l = some x) : spanOf l = .tuple #[.agg #[.int .i64 x.length, .int .i64 (low x)], .bool true] := by unfold spanOf; rw [h]
theorem spanOf_none {l : List UInt8} (h : ch l = none) : spanOf l = .tuple #[.agg #[.int .i64 0, .int .i64 0], .bool false] := by unfold spanOf; rw [h]

set_option maxHeartbeats 1000000 in
theorem walk_span (s : ByteArray) (w : World) (hT : Tabs w) (hs : s.size ≤ 140737488355328) :
    Calls Tryz.prog 165 #[.string s, .func (.func 166) #[] #[]] w fun e w' => e = .returned (spanOf s.data.toList) ∧ Below w.heap.size w w' := by
  go_enter Tryz.func165, Tryz.ntmps165
  go_wp2_with fail
  go_loopw [8] (fun at_ wr => ∃ (k : Nat) (x : List Nat), k ≤ s.size ∧ at_ = .int .i64 k ∧ x.length ≤ k ∧ At s.data.toList k x ∧
      Bk wr w.heap.size 159 #[.int .i64 0, .int .i64 0] ∧ Bk wr (w.heap.size + 1) 159 #[.int .i64 x.length, .int .i64 (low x)] ∧
      Bk wr (w.heap.size + 1 + 1) 159 #[.int .i64 0, .int .i64 0] ∧ Below w.heap.size w wr) (fun at_ _ => s.size - (intOf at_).toNat)
  case atStart =>
    refine ⟨0, [], Nat.zero_le _, rfl, Nat.le_refl _, At.start _, ((Bk.new _ _ _).alloc _).alloc _, ?_, Bk.new2 _ _ _ _ _, ?_⟩
    · rw [low_nil]; exact (Bk.new1 _ _ _ _).alloc _
    · exact (((Below.refl _ _).alloc (Nat.le_refl _) _).alloc (by simp) _).alloc (by simp; omega) _
  case round =>
    obtain ⟨k, x, hk, rfl, hx, hat, B0, B1, B2, hb⟩ := hrel
    have hlow := low_le x
    have hsz := Lib.hid (Lib.size_eq s)
    have hsw := hb.size
    have l0 := B0.lt
    have l1 := B1.lt
    have l2 := B2.lt
    by_cases hlt : k < s.size
    · have hlt' : k < s.data.toList.length := by rw [← hsz.out]; exact hlt
      have hne := drop_ne hlt'
      obtain ⟨c, n, hd, hn1, hn2, hc1⟩ : ∃ c n, Hid (dc (s.data.toList.drop k) = (c, n)) ∧ 1 ≤ n ∧ k + n ≤ s.size ∧ c ≤ 1114111 := by
        refine ⟨_, _, Lib.hid rfl, dc_ge1 _, ?_, dc_rune _⟩
        have := dc_le hne; rw [List.length_drop, ← hsz.out] at this; omega
      have hext := Lib.hid (Lib.extract_to_end s k)
      go_wp2_with fail
      refine (dec_any _ c n wr (by rw [hext.out]; exact hne) (by unfold Hid; rw [hext.out]; exact hd.out) (hT.below hb)).mono ?_
      rintro e w1 ⟨rfl, hb1⟩
      have C0 := B0.below hb1 l0
      have C1 := B1.below hb1 l1
      have C2 := B2.below hb1 l2
      have hbw : Below w.heap.size w w1 := hb.trans (hb1.mono hsw)
      have hs1 := hb1.size
      clear B0 B1 B2
      have nxe : Hid (nx (s.data.toList.drop k) = if (c == 65533 && n == 1 || !okc c) then (0, 0) else (c, n)) := by unfold Hid; rw [nx_eq, hd.out]
      have c20 := C2.cell 0
      have c21 := C2.cell 1
      have f00 := C0.free 0
      have f01 := C0.free 1
      have c00 := C0.cell 0
      have c01 := C0.cell 1
      have c10 := C1.cell 0
      have c11 := C1.cell 1
      have f10 := C1.free 0
      have f11 := C1.free 1
      simp only [Nat.reduceLT, List.size_toArray, List.length_cons, List.length_nil, getElem?_pos, Nat.reduceAdd, List.getElem_toArray, List.getElem_cons_zero, List.getElem_cons_succ] at c20 c21 c00 c01 c10 c11
      have r0 := ((C0.put 0 (.int .i64 0)).put 1 (.int .i64 0)).cell 0
      have r1 := ((C0.put 0 (.int .i64 0)).put 1 (.int .i64 0)).cell 1
      simp only [List.setIfInBounds_toArray, List.set_cons_zero, List.set_cons_succ, Nat.reduceLT, List.size_toArray, List.length_cons, List.length_nil, getElem?_pos, Nat.reduceAdd, List.getElem_toArray, List.getElem_cons_zero, List.getElem_cons_succ] at r0 r1
      have fin : ∀ h : Hid (ch s.data.toList = none), spanOf s.data.toList = .tuple #[.agg #[.int .i64 0, .int .i64 0], .bool false] := fun h => spanOf_none h.out
      by_cases hbad : (c == 65533 && n == 1) = true
      · simp only [Bool.and_eq_true, beq_iff_eq] at hbad
        obtain ⟨rfl, rfl⟩ := hbad
        have hno : Hid (ch s.data.toList = none) := hat.bad hlt' (by rw [nxe.out]; rfl)
        go_wp2_with fail
        exact bodyPost_ret (v := .tuple #[.agg #[.int .i64 0, .int .i64 0], .bool false]) (by simp [results, Tryz.results165, go_sem, r0, r1]) rfl ⟨by rw [fin hno], (hbw.setCell (by simp) _).setCell (by simp) _⟩
      · have hbi : ¬ ((c : Int) = 65533 ∧ (n : Int) = 1) := by
          intro h; apply hbad; simp only [Bool.and_eq_true, beq_iff_eq]; omega
        cases hok : okc c with
        | false =>
          have hno : Hid (ch s.data.toList = none) := hat.bad hlt' (by rw [nxe.out, hok, Bool.not_false, Bool.or_true, if_pos rfl])
          have hgo : ∀ W : World, Calls Tryz.prog 204 #[.int .i32 c] W fun e w' => e = .returned (.bool false) ∧ W = w' := fun W => by have := allowed_any c W; rwa [hok] at this
          have HGO := Lib.hid hgo
          clear hgo hok
          by_cases h1 : (c : Int) = 65533
          · have g1 : ((c : Int) == 65533) = true := by simpa using h1
            have g2 : ((n : Int) == 1) = false := by simp; omega
            clear h1 hbad
            go_wp2_with (go_at_call 204; refine (HGO.out _).mono ?_; rintro e w2 ⟨rfl, rfl⟩)
            exact bodyPost_ret (v := .tuple #[.agg #[.int .i64 0, .int .i64 0], .bool false]) (by simp [results, Tryz.results165, go_sem, r0, r1]) rfl ⟨by rw [fin hno], (hbw.setCell (by simp) _).setCell (by simp) _⟩
          · have g1 : ((c : Int) == 65533) = false := by simpa using h1
            clear h1 hbad
            go_wp2_with (go_at_call 204; refine (HGO.out _).mono ?_; rintro e w2 ⟨rfl, rfl⟩)
            exact bodyPost_ret (v := .tuple #[.agg #[.int .i64 0, .int .i64 0], .bool false]) (by simp [results, Tryz.results165, go_sem, r0, r1]) rfl ⟨by rw [fin hno], (hbw.setCell (by simp) _).setCell (by simp) _⟩
        | true =>
          have hnx : Hid (nx (s.data.toList.drop k) = (c, n)) := by
            unfold Hid; rw [nxe.out, hok, if_neg]; simp only [Bool.not_true, Bool.or_false]; exact hbad
          have hat' := hat.next hlt' (by rw [hnx.out]; show n ≠ 0; omega)
          rw [hnx.out] at hat'
          have hgo : ∀ W : World, Calls Tryz.prog 204 #[.int .i32 c] W fun e w' => e = .returned (.bool true) ∧ W = w' := fun W => by have := allowed_any c W; rwa [hok] at this
          have HGO := Lib.hid hgo
          have hlw := low_snoc x c
          obtain ⟨m, hm⟩ : ∃ m, (if c < 32 then low x + 1 else low x) = m := ⟨_, rfl⟩
          have hmb : m ≤ low x + 1 := by rw [← hm]; split <;> omega
          have HL := fun W => longer_any x.length (low x) c W (by omega) (by omega)
          rw [hm] at HL hlw
          have HLO := Lib.hid HL
          have HLW := Lib.hid hlw
          clear hgo hok hm HL hlw
          by_cases h1 : (c : Int) = 65533
          · have g1 : ((c : Int) == 65533) = true := by simpa using h1
            have g2 : ((n : Int) == 1) = false := by simp; omega
            clear h1 hbad
            go_wp2_with (first | (go_at_call 204; refine (HGO.out _).mono ?_; rintro e w2 ⟨rfl, rfl⟩) | (go_at_call 166; refine (HLO.out _).mono ?_; rintro e w2 ⟨rfl, hb2⟩; have hs2 := hb2.size; have D0 := C0.below hb2 C0.lt; have D2 := C2.below hb2 C2.lt; have D1 := C1.below hb2 C1.lt; have d10 := D1.cell 0; have d11 := D1.cell 1; have g10 := D1.free 0; have g11 := D1.free 1; simp only [Nat.reduceLT, List.size_toArray, List.length_cons, List.length_nil, getElem?_pos, Nat.reduceAdd, List.getElem_toArray, List.getElem_cons_zero, List.getElem_cons_succ] at d10 d11))
            go_roundw
            case rel => exact ⟨k + n, x ++ [c], hn2, by go_num, by simp; omega, hat', (D0.far (by simp) _).far (by simp) _, by rw [HLW.out, List.length_append]; exact D1.two _ _, (D2.far (by simp) _).far (by simp) _, ((hbw.trans (hb2.mono (by omega))).setCell (by simp) _).setCell (by simp) _⟩
            case measure => simp [intOf]; omega
          · have g1 : ((c : Int) == 65533) = false := by simpa using h1
            clear h1 hbad
            go_wp2_with (first | (go_at_call 204; refine (HGO.out _).mono ?_; rintro e w2 ⟨rfl, rfl⟩) | (go_at_call 166; refine (HLO.out _).mono ?_; rintro e w2 ⟨rfl, hb2⟩; have hs2 := hb2.size; have D0 := C0.below hb2 C0.lt; have D2 := C2.below hb2 C2.lt; have D1 := C1.below hb2 C1.lt; have d10 := D1.cell 0; have d11 := D1.cell 1; have g10 := D1.free 0; have g11 := D1.free 1; simp only [Nat.reduceLT, List.size_toArray, List.length_cons, List.length_nil, getElem?_pos, Nat.reduceAdd, List.getElem_toArray, List.getElem_cons_zero, List.getElem_cons_succ] at d10 d11))
            go_roundw
            case rel => exact ⟨k + n, x ++ [c], hn2, by go_num, by simp; omega, hat', (D0.far (by simp) _).far (by simp) _, by rw [HLW.out, List.length_append]; exact D1.two _ _, (D2.far (by simp) _).far (by simp) _, ((hbw.trans (hb2.mono (by omega))).setCell (by simp) _).setCell (by simp) _⟩
            case measure => simp [intOf]; omega
    · have hke : k = s.data.toList.length := by rw [← hsz.out]; omega
      have hch : Hid (ch s.data.toList = some x) := At.stop (by rw [← hke]; exact hat)
      have c10 := B1.cell 0
      have c11 := B1.cell 1
      have f00 := B0.free 0
      have f01 := B0.free 1
      have c00 := B0.cell 0
      have c01 := B0.cell 1
      have r0 := (B0.two (.int .i64 x.length) (.int .i64 (low x))).cell 0
      have r1 := (B0.two (.int .i64 x.length) (.int .i64 (low x))).cell 1
      simp only [Nat.reduceLT, List.size_toArray, List.length_cons, List.length_nil, getElem?_pos, Nat.reduceAdd, List.getElem_toArray, List.getElem_cons_zero, List.getElem_cons_succ] at c00 c01 c10 c11 r0 r1
      have fin := spanOf_some hch.out
      have FIN := Lib.hid fin
      clear fin hke
      go_wp2_with fail
      exact bodyPost_ret (v := .tuple #[.agg #[.int .i64 x.length, .int .i64 (low x)], .bool true]) (by simp [results, Tryz.results165, go_sem, r0, r1]) rfl ⟨by rw [FIN.out], (hb.setCell (by simp) _).setCell (by simp) _⟩

set_option maxHeartbeats 400000 in
theorem valid_any (s : ByteArray) (w : World) (hT : Tabs w) (hs : s.size ≤ 140737488355328) :
    Calls Tryz.prog 222 #[.string s] w fun e w' => e = .returned (.bool (valid s.data.toList)) ∧ Below w.heap.size w w' := by
  have HW := Lib.hid (walk_span s w hT hs)
  cases hch : ch s.data.toList with
  | none =>
    have HS := Lib.hid (spanOf_none hch)
    rw [valid_none hch]
    clear hch
    go_enter Tryz.func222, Tryz.ntmps222
    go_wp2_with (go_at_call 165; refine HW.out.mono ?_; rintro e w1 ⟨rfl, hb⟩; rw [HS.out])
    go_ret
    exact ⟨rfl, hb.alloc hb.size _⟩
  | some x =>
    have HS := Lib.hid (spanOf_some hch)
    rw [valid_some hch]
    clear hch
    go_enter Tryz.func222, Tryz.ntmps222
    go_wp2_with (go_at_call 165; refine HW.out.mono ?_; rintro e w1 ⟨rfl, hb⟩; rw [HS.out])
    go_ret
    exact ⟨rfl, hb.alloc hb.size _⟩
end Go.Proofs.YtbgaglcgennhiaaGreatDoor
