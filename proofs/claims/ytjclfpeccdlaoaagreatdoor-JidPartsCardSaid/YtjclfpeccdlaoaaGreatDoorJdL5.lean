/-
  JidParts.
-/
import Derived.Test.YtjclfpeccdlaoaaGreatDoorJdW
import Derived.Test.YtjclfpeccdlaoaaGreatDoorUint
namespace Go.Proofs.YtjclfpeccdlaoaaGreatDoor
open Go.RowKit Rg Tx

/-- a word on its way: "x", and k of six signs behind it -/
def WordP (k : Nat) (l : List UInt8) : Prop := l.length = k + 1 ∧ (∃ t, l = 120 :: t) ∧ ∀ b ∈ l, b ∈ (120 :: Jd.six : List UInt8)
theorem WordP.start : WordP 0 [120] := ⟨rfl, ⟨[], rfl⟩, by decide⟩
theorem WordP.next {k : Nat} {l : List UInt8} (h : WordP k l) {c : UInt8} (hc : c ∈ Jd.six) : WordP (k + 1) (l ++ [c]) := by
  obtain ⟨h1, ⟨t, h2⟩, h3⟩ := h
  refine ⟨by rw [List.length_append, h1]; rfl, ⟨t ++ [c], by rw [h2]; rfl⟩, fun b hb => ?_⟩
  rcases List.mem_append.1 hb with hb | hb
  · exact h3 b hb
  · rw [List.mem_singleton.1 hb]; exact List.mem_cons_of_mem _ hc
theorem WordP.word {k : Nat} {l : List UInt8} (h : WordP k l) (hk : k ≤ 20) : Jd.Word l := ⟨by have := h.1; omega, h.2.1, h.2.2⟩
set_option maxHeartbeats 8000000 in
set_option maxRecDepth 100000 in
theorem word6_any (s : ByteArray) (w : World) :
    Calls Tryz.prog 20 #[.string s] w fun e w' => (∃ x : ByteArray, e = .returned (.string x) ∧ Jd.Word x.data.toList) ∧ Below w.heap.size w w' := by
  go_enter Tryz.func20, Tryz.ntmps20
  go_wp2_with fail
  go_loopw [3, 4] (fun ov iv wr => ∃ (k : Nat) (S : ByteArray), ov = .string S ∧ iv = .int .i64 k ∧ k ≤ 20 ∧ k ≤ s.size ∧ S.size ≤ 21 ∧ Hid (WordP k S.data.toList) ∧ Below w.heap.size w wr) (fun _ iv _ => 20 - (intOf iv).toNat)
  case atStart => exact ⟨0, ⟨#[120]⟩, rfl, rfl, by omega, Nat.zero_le _, by decide, Lib.hid WordP.start, Below.refl _ _⟩
  case round =>
    obtain ⟨k, S, rfl, rfl, hk, hks, hS, hP, bw⟩ := hrel
    have hsw := bw.size
    by_cases hlt : k < s.size
    · by_cases hlt2 : k < 20
      · have hb1 := UInt8.toNat_lt (s[k]'hlt)
        have hw1 : wrap64 ((s[k]'hlt).toNat : Int) = ((s[k]'hlt).toNat : Int) := by unfold wrap64; omega
        obtain ⟨Q, hQ⟩ : ∃ Q : Int, (wrap64 ((s[k]'hlt).toNat : Int)).tmod 6 = Q := ⟨_, rfl⟩
        have hQ3 : 0 ≤ Q ∧ Q < 6 := by rw [hw1, Int.tmod_eq_emod_of_nonneg (by omega)] at hQ; omega
        have HW := Lib.hid (bw.alloc hsw)
        have hSz : S.size = k + 1 := by rw [Lib.size_eq]; exact hP.out.1
        have hSn := Lib.hid hSz
        clear hSz
        rcases (show Q = 0 ∨ Q = 1 ∨ Q = 2 ∨ Q = 3 ∨ Q = 4 ∨ Q = 5 by omega) with rfl | rfl | rfl | rfl | rfl | rfl
        · have hcv : (convert 40 9 (.slice (some ⟨wr.heap.size, 0, none⟩) 1 1)).run Tryz.prog (wr.alloc (.cells #[.int .u8 97] 5)) = .ok (.string ⟨#[97]⟩) (wr.alloc (.cells #[.int .u8 97] 5)) := oneByte Tryz.underlying40 Tryz.underlying5 Tryz.underlying9 97 wr
          have hx : (((⟨#[97, 98, 99, 55, 56, 57]⟩ : ByteArray)[0]'(by decide)).toNat : Int) = 97 := rfl
          clear hQ3 hw1 hb1
          go_wp2_with fail
          go_roundw
          case rel => exact ⟨k + 1, _, rfl, by go_num, by omega, hlt, by rw [ByteArray.size_append, hSn.out]; show k + 1 + 1 ≤ _; omega, Lib.hid (by rw [cat_list]; exact hP.out.next (c := 97) (by decide)), HW.out _⟩
          case measure => simp [intOf]; omega
        · have hcv : (convert 40 9 (.slice (some ⟨wr.heap.size, 0, none⟩) 1 1)).run Tryz.prog (wr.alloc (.cells #[.int .u8 98] 5)) = .ok (.string ⟨#[98]⟩) (wr.alloc (.cells #[.int .u8 98] 5)) := oneByte Tryz.underlying40 Tryz.underlying5 Tryz.underlying9 98 wr
          have hx : (((⟨#[97, 98, 99, 55, 56, 57]⟩ : ByteArray)[1]'(by decide)).toNat : Int) = 98 := rfl
          clear hQ3 hw1 hb1
          go_wp2_with fail
          go_roundw
          case rel => exact ⟨k + 1, _, rfl, by go_num, by omega, hlt, by rw [ByteArray.size_append, hSn.out]; show k + 1 + 1 ≤ _; omega, Lib.hid (by rw [cat_list]; exact hP.out.next (c := 98) (by decide)), HW.out _⟩
          case measure => simp [intOf]; omega
        · have hcv : (convert 40 9 (.slice (some ⟨wr.heap.size, 0, none⟩) 1 1)).run Tryz.prog (wr.alloc (.cells #[.int .u8 99] 5)) = .ok (.string ⟨#[99]⟩) (wr.alloc (.cells #[.int .u8 99] 5)) := oneByte Tryz.underlying40 Tryz.underlying5 Tryz.underlying9 99 wr
          have hx : (((⟨#[97, 98, 99, 55, 56, 57]⟩ : ByteArray)[2]'(by decide)).toNat : Int) = 99 := rfl
          clear hQ3 hw1 hb1
          go_wp2_with fail
          go_roundw
          case rel => exact ⟨k + 1, _, rfl, by go_num, by omega, hlt, by rw [ByteArray.size_append, hSn.out]; show k + 1 + 1 ≤ _; omega, Lib.hid (by rw [cat_list]; exact hP.out.next (c := 99) (by decide)), HW.out _⟩
          case measure => simp [intOf]; omega
        · have hcv : (convert 40 9 (.slice (some ⟨wr.heap.size, 0, none⟩) 1 1)).run Tryz.prog (wr.alloc (.cells #[.int .u8 55] 5)) = .ok (.string ⟨#[55]⟩) (wr.alloc (.cells #[.int .u8 55] 5)) := oneByte Tryz.underlying40 Tryz.underlying5 Tryz.underlying9 55 wr
          have hx : (((⟨#[97, 98, 99, 55, 56, 57]⟩ : ByteArray)[3]'(by decide)).toNat : Int) = 55 := rfl
          clear hQ3 hw1 hb1
          go_wp2_with fail
          go_roundw
          case rel => exact ⟨k + 1, _, rfl, by go_num, by omega, hlt, by rw [ByteArray.size_append, hSn.out]; show k + 1 + 1 ≤ _; omega, Lib.hid (by rw [cat_list]; exact hP.out.next (c := 55) (by decide)), HW.out _⟩
          case measure => simp [intOf]; omega
        · have hcv : (convert 40 9 (.slice (some ⟨wr.heap.size, 0, none⟩) 1 1)).run Tryz.prog (wr.alloc (.cells #[.int .u8 56] 5)) = .ok (.string ⟨#[56]⟩) (wr.alloc (.cells #[.int .u8 56] 5)) := oneByte Tryz.underlying40 Tryz.underlying5 Tryz.underlying9 56 wr
          have hx : (((⟨#[97, 98, 99, 55, 56, 57]⟩ : ByteArray)[4]'(by decide)).toNat : Int) = 56 := rfl
          clear hQ3 hw1 hb1
          go_wp2_with fail
          go_roundw
          case rel => exact ⟨k + 1, _, rfl, by go_num, by omega, hlt, by rw [ByteArray.size_append, hSn.out]; show k + 1 + 1 ≤ _; omega, Lib.hid (by rw [cat_list]; exact hP.out.next (c := 56) (by decide)), HW.out _⟩
          case measure => simp [intOf]; omega
        · have hcv : (convert 40 9 (.slice (some ⟨wr.heap.size, 0, none⟩) 1 1)).run Tryz.prog (wr.alloc (.cells #[.int .u8 57] 5)) = .ok (.string ⟨#[57]⟩) (wr.alloc (.cells #[.int .u8 57] 5)) := oneByte Tryz.underlying40 Tryz.underlying5 Tryz.underlying9 57 wr
          have hx : (((⟨#[97, 98, 99, 55, 56, 57]⟩ : ByteArray)[5]'(by decide)).toNat : Int) = 57 := rfl
          clear hQ3 hw1 hb1
          go_wp2_with fail
          go_roundw
          case rel => exact ⟨k + 1, _, rfl, by go_num, by omega, hlt, by rw [ByteArray.size_append, hSn.out]; show k + 1 + 1 ≤ _; omega, Lib.hid (by rw [cat_list]; exact hP.out.next (c := 57) (by decide)), HW.out _⟩
          case measure => simp [intOf]; omega
      · go_wp2_with fail
        go_ret
        exact ⟨⟨S, rfl, hP.out.word hk⟩, bw⟩
    · go_wp2_with fail
      go_ret
      exact ⟨⟨S, rfl, hP.out.word hk⟩, bw⟩
def tailCells : Array Value := #[.string ⟨#[]⟩, .string ⟨#[47]⟩, .string ⟨#[64]⟩, .string ⟨#[47, 64, 32, 47]⟩]
theorem tail_elem : ∀ i, (h : i < 4) → ([.string ⟨#[]⟩, .string ⟨#[47]⟩, .string ⟨#[64]⟩, .string ⟨#[47, 64, 32, 47]⟩] : List Value)[i]'h = .string (bts (Jd.tails.getD i []))
  | 0, _ => rfl
  | 1, _ => rfl
  | 2, _ => rfl
  | 3, _ => rfl
theorem tail_mem : ∀ i, i < 4 → Jd.tails.getD i [] ∈ Jd.tails ∧ (Jd.tails.getD i []).length ≤ 4
  | 0, _ => by decide
  | 1, _ => by decide
  | 2, _ => by decide
  | 3, _ => by decide
set_option maxHeartbeats 16000000 in
theorem jidParts_any (a b c : ByteArray) (t : Int) (w : World) (hO : Okw w) :
    Calls Tryz.prog 7 #[.string a, .string b, .string c, .int .i64 t] w (Holds w) := by
  have HA := Lib.hid (fun W (h : Below w.heap.size w W) => awake_any W (hO.below h))
  have W1 := Lib.hid (word6_any a w)
  have W2 := Lib.hid (fun W => word6_any b W)
  have W3 := Lib.hid (fun W => word6_any c W)
  have HP := Lib.hid (fun (s : ByteArray) (hs : s.size ≤ 1000) W (h : Below w.heap.size w W) => parse_any s W (hO.below h) (by omega))
  have HB := Lib.hid (fun (s : ByteArray) (hs : s.size ≤ 1000) W (h : Below w.heap.size w W) => bare_any s W (hO.below h) (by omega))
  obtain ⟨i, hi, hi4⟩ := uintMod t 4 (by omega) (by omega)
  have hi' : i < 4 := by omega
  have htm := tail_mem i hi'
  have hel := tail_elem i hi'
  obtain ⟨T, hT⟩ : ∃ x, bts (Jd.tails.getD i []) = x := ⟨_, rfl⟩
  have hTd : T.data.toList = Jd.tails.getD i [] := by rw [← hT]
  rw [hT] at hel
  rw [← hTd] at htm
  have hT4 : T.size ≤ 4 := by rw [Lib.size_eq]; exact htm.2
  have HTM := Lib.hid htm.1
  clear hT hTd htm hO
  go_enter Tryz.func7, Tryz.ntmps7
  go_wp2_with fail
  refine W1.out.mono ?_
  rintro e w1 ⟨⟨l, rfl, hl⟩, n1⟩
  have B1 := Lib.hid n1
  have HL := Lib.hid hl
  clear n1 hl
  go_wp2_with fail
  refine (W2.out w1).mono ?_
  rintro e w2 ⟨⟨d, rfl, hd⟩, n2⟩
  have B2 := Lib.hid (B1.out.trans (n2.mono B1.out.size))
  have HD := Lib.hid hd
  clear n2 hd
  go_wp2_with fail
  refine (W3.out w2).mono ?_
  rintro e w3 ⟨⟨r, rfl, hr⟩, n3⟩
  have B3 := Lib.hid (B2.out.trans (n3.mono B2.out.size))
  have HR := Lib.hid hr
  clear n3 hr
  have zl : l.size ≤ 21 := by rw [Lib.size_eq]; exact HL.out.len
  have zd : d.size ≤ 21 := by rw [Lib.size_eq]; exact HD.out.len
  have zr : r.size ≤ 21 := by rw [Lib.size_eq]; exact HR.out.len
  have ALL := Lib.hid (Jd.word_all HL.out HD.out HR.out HTM.out)
  obtain ⟨R, hR⟩ : ∃ R, r ++ T = R := ⟨_, rfl⟩
  have hRd : R.data.toList = r.data.toList ++ T.data.toList := by rw [← hR, cat_list]
  have zR : R.size ≤ 25 := by rw [← hR, ByteArray.size_append]; omega
  rw [← hRd] at ALL
  -- the five texts
  have x1 : (l ++ (⟨#[64]⟩ : ByteArray) ++ d ++ ⟨#[47]⟩ ++ R).data.toList = l.data.toList ++ [64] ++ d.data.toList ++ [47] ++ R.data.toList := by rw [cat_list, cat_list, cat_list, cat_list]
  have x2 : (d ++ (⟨#[47]⟩ : ByteArray) ++ R).data.toList = d.data.toList ++ [47] ++ R.data.toList := by rw [cat_list, cat_list]
  have x3 : (d ++ (⟨#[46]⟩ : ByteArray)).data.toList = d.data.toList ++ [46] := by rw [cat_list]
  have x4 : (l ++ (⟨#[64]⟩ : ByteArray) ++ d).data.toList = l.data.toList ++ [64] ++ d.data.toList := by rw [cat_list, cat_list]
  have y1 : (l ++ (⟨#[64]⟩ : ByteArray) ++ d ++ ⟨#[47]⟩ ++ R).size ≤ 1000 := by
    rw [ByteArray.size_append, ByteArray.size_append, ByteArray.size_append, ByteArray.size_append, show (⟨#[64]⟩ : ByteArray).size = 1 from rfl, show (⟨#[47]⟩ : ByteArray).size = 1 from rfl]
    omega
  have y2 : (d ++ (⟨#[47]⟩ : ByteArray) ++ R).size ≤ 1000 := by
    rw [ByteArray.size_append, ByteArray.size_append, show (⟨#[47]⟩ : ByteArray).size = 1 from rfl]
    omega
  have y3 : (d ++ (⟨#[46]⟩ : ByteArray)).size ≤ 1000 := by
    rw [ByteArray.size_append, show (⟨#[46]⟩ : ByteArray).size = 1 from rfl]
    omega
  have y4 : (l ++ (⟨#[64]⟩ : ByteArray) ++ d).size ≤ 1000 := by
    rw [ByteArray.size_append, ByteArray.size_append, show (⟨#[64]⟩ : ByteArray).size = 1 from rfl]
    omega
  have P1 := Lib.hid (fun W h => HP.out _ y1 W h)
  have P2 := Lib.hid (fun W h => HP.out _ y2 W h)
  have P3 := Lib.hid (fun W h => HP.out _ y3 W h)
  have Q1 := Lib.hid (fun W h => HB.out _ y1 W h)
  have Q2 := Lib.hid (fun W h => HB.out _ y4 W h)
  rw [x1, ALL.out.1, jidnV_of] at P1
  rw [x2, ALL.out.2.1, jidnV_of] at P2
  rw [x3, ALL.out.2.2.1, jidnV_of] at P3
  rw [x1, ALL.out.2.2.2.1, show twoV ([], 14) = .tuple #[.string ⟨#[]⟩, .int .i64 14] from rfl] at Q1
  rw [x4, ALL.out.2.2.2.2, show twoV (l.data.toList ++ [64] ++ d.data.toList, 0) = .tuple #[.string (bts (l.data.toList ++ [64] ++ d.data.toList)), .int .i64 0] from rfl, show bts (l.data.toList ++ [64] ++ d.data.toList) = l ++ (⟨#[64]⟩ : ByteArray) ++ d from (bytes_of x4).symm] at Q2
  simp only at P1 P2 P3
  rw [bts_eq, bts_eq, bts_eq] at P1
  rw [bts_eq, bts_eq, show bts [] = ⟨#[]⟩ from rfl] at P2
  rw [bts_eq, show bts [] = ⟨#[]⟩ from rfl] at P3
  have s1 := same_self l
  have s2 := same_self d
  have s3 := same_self R
  have s4 := same_self (l ++ (⟨#[64]⟩ : ByteArray) ++ d)
  have z4 : (l ++ (⟨#[64]⟩ : ByteArray)).size ≤ 30 := by rw [ByteArray.size_append, show (⟨#[64]⟩ : ByteArray).size = 1 from rfl]; omega
  have z5 : (l ++ (⟨#[64]⟩ : ByteArray) ++ d).size ≤ 100 := by rw [ByteArray.size_append]; omega
  have z6 : (l ++ (⟨#[64]⟩ : ByteArray) ++ d ++ ⟨#[47]⟩).size ≤ 200 := by rw [ByteArray.size_append, show (⟨#[47]⟩ : ByteArray).size = 1 from rfl]; omega
  have z7 : (d ++ (⟨#[47]⟩ : ByteArray)).size ≤ 100 := by rw [ByteArray.size_append, show (⟨#[47]⟩ : ByteArray).size = 1 from rfl]; omega
  clear HL HD HR HTM ALL HP HB x1 x2 x3 x4 y1 y2 y3 y4 W1 W2 W3 hRd
  go_wp2_with fail
  obtain ⟨w4, hw4⟩ : ∃ w4, w3.alloc (.cells tailCells 9) = w4 := ⟨_, rfl⟩
  have B4 : Hid (Below w.heap.size w w4) := by unfold Hid; rw [← hw4]; exact B3.out.alloc B3.out.size _
  unfold tailCells at hw4
  rw [hw4]
  clear hw4
  refine (P1.out w4 B4.out).mono ?_
  rintro e w5 ⟨rfl, n5⟩
  have B5 := Lib.hid (B4.out.trans (n5.mono B4.out.size))
  clear n5
  go_wp2_with fail
  obtain ⟨w6, hw6⟩ : ∃ v, w5.alloc (.cells #[.string l, .string d, .string R] 23) = v := ⟨_, rfl⟩
  have B6 : Hid (Below w.heap.size w w6) := by unfold Hid; rw [← hw6]; exact B5.out.alloc B5.out.size _
  have Fa_6 : Hid (Bk w6 w5.heap.size 23 #[.string l, .string d, .string R]) := by unfold Hid; rw [← hw6]; exact Bk.new w5 _ _
  rw [hw6]
  clear hw6
  refine (P2.out w6 B6.out).mono ?_
  rintro e w7 ⟨rfl, n7⟩
  have B7 := Lib.hid (B6.out.trans (n7.mono B6.out.size))
  have Fa_7 := Lib.hid (Fa_6.out.below n7 Fa_6.out.lt)
  clear n7
  go_wp2_with fail
  obtain ⟨w8, hw8⟩ : ∃ v, w7.alloc (.cells #[.string ⟨#[]⟩, .string d, .string R] 23) = v := ⟨_, rfl⟩
  have B8 : Hid (Below w.heap.size w w8) := by unfold Hid; rw [← hw8]; exact B7.out.alloc B7.out.size _
  have Fb_8 : Hid (Bk w8 w7.heap.size 23 #[.string ⟨#[]⟩, .string d, .string R]) := by unfold Hid; rw [← hw8]; exact Bk.new w7 _ _
  have Fa_8 : Hid (Bk w8 w5.heap.size 23 #[.string l, .string d, .string R]) := by unfold Hid; rw [← hw8]; exact Fa_7.out.alloc _
  rw [hw8]
  clear hw8
  refine (P3.out w8 B8.out).mono ?_
  rintro e w9 ⟨rfl, n9⟩
  have B9 := Lib.hid (B8.out.trans (n9.mono B8.out.size))
  have Fa_9 := Lib.hid (Fa_8.out.below n9 Fa_8.out.lt)
  have Fb_9 := Lib.hid (Fb_8.out.below n9 Fb_8.out.lt)
  clear n9
  go_wp2_with fail
  obtain ⟨w10, hw10⟩ : ∃ v, w9.alloc (.cells #[.string ⟨#[]⟩, .string d, .string ⟨#[]⟩] 23) = v := ⟨_, rfl⟩
  have B10 : Hid (Below w.heap.size w w10) := by unfold Hid; rw [← hw10]; exact B9.out.alloc B9.out.size _
  have Fc_10 : Hid (Bk w10 w9.heap.size 23 #[.string ⟨#[]⟩, .string d, .string ⟨#[]⟩]) := by unfold Hid; rw [← hw10]; exact Bk.new w9 _ _
  have Fa_10 : Hid (Bk w10 w5.heap.size 23 #[.string l, .string d, .string R]) := by unfold Hid; rw [← hw10]; exact Fa_9.out.alloc _
  have Fb_10 : Hid (Bk w10 w7.heap.size 23 #[.string ⟨#[]⟩, .string d, .string R]) := by unfold Hid; rw [← hw10]; exact Fb_9.out.alloc _
  rw [hw10]
  clear hw10
  refine (Q1.out w10 B10.out).mono ?_
  rintro e w11 ⟨rfl, n11⟩
  have B11 := Lib.hid (B10.out.trans (n11.mono B10.out.size))
  have Fa_11 := Lib.hid (Fa_10.out.below n11 Fa_10.out.lt)
  have Fb_11 := Lib.hid (Fb_10.out.below n11 Fb_10.out.lt)
  have Fc_11 := Lib.hid (Fc_10.out.below n11 Fc_10.out.lt)
  clear n11
  go_wp2_with fail
  refine (Q2.out w11 B11.out).mono ?_
  rintro e w12 ⟨rfl, n12⟩
  have B12 := Lib.hid (B11.out.trans (n12.mono B11.out.size))
  have Fa_12 := Lib.hid (Fa_11.out.below n12 Fa_11.out.lt)
  have Fb_12 := Lib.hid (Fb_11.out.below n12 Fb_11.out.lt)
  have Fc_12 := Lib.hid (Fc_11.out.below n12 Fc_11.out.lt)
  clear n12
  go_wp2_with fail
  refine (HA.out w12 B12.out).mono ?_
  rintro e w13 ⟨rfl, n13⟩
  have B13 := Lib.hid (B12.out.trans (n13.mono B12.out.size))
  have Fa_13 := Lib.hid (Fa_12.out.below n13 Fa_12.out.lt)
  have Fb_13 := Lib.hid (Fb_12.out.below n13 Fb_12.out.lt)
  have Fc_13 := Lib.hid (Fc_12.out.below n13 Fc_12.out.lt)
  have ca0 : w13.cell? ⟨w5.heap.size, 0, none⟩ = some (.string l) := Fa_13.out.cell 0
  have ca1 : w13.cell? ⟨w5.heap.size, 1, none⟩ = some (.string d) := Fa_13.out.cell 1
  have ca2 : w13.cell? ⟨w5.heap.size, 2, none⟩ = some (.string R) := Fa_13.out.cell 2
  have cb0 : w13.cell? ⟨w7.heap.size, 0, none⟩ = some (.string ⟨#[]⟩) := Fb_13.out.cell 0
  have cb1 : w13.cell? ⟨w7.heap.size, 1, none⟩ = some (.string d) := Fb_13.out.cell 1
  have cb2 : w13.cell? ⟨w7.heap.size, 2, none⟩ = some (.string R) := Fb_13.out.cell 2
  have cc0 : w13.cell? ⟨w9.heap.size, 0, none⟩ = some (.string ⟨#[]⟩) := Fc_13.out.cell 0
  have cc1 : w13.cell? ⟨w9.heap.size, 1, none⟩ = some (.string d) := Fc_13.out.cell 1
  have cc2 : w13.cell? ⟨w9.heap.size, 2, none⟩ = some (.string ⟨#[]⟩) := Fc_13.out.cell 2
  clear n13
  go_wp2_with fail
  go_ret
  exact ⟨rfl, B13.out⟩
end Go.Proofs.YtjclfpeccdlaoaaGreatDoor
