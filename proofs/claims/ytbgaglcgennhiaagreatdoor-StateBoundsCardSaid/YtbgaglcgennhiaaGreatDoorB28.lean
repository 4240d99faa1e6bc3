import Derived.Test.YtbgaglcgennhiaaGreatDoorB27
section
/- what is reached of it -/
namespace Go.Proofs.YtbgaglcgennhiaaGreatDoor
open Go.RowKit Rg Tx
theorem empty_true {a : ByteArray} (h : a.data.toList = []) : a = ⟨#[]⟩ := bytes_of h
theorem text_both {l r : ByteArray} (d : ByteArray) (h : l.data.toList ≠ []) (h2 : r.data.toList ≠ []) : Jd.textL (l.data.toList, d.data.toList, r.data.toList) = l.data.toList ++ [64] ++ d.data.toList ++ ([47] ++ r.data.toList) := by
  unfold Jd.textL
  simp only
  rw [if_neg h, if_neg h2]
theorem text_loc {l : ByteArray} (d : ByteArray) (h : l.data.toList ≠ []) : Jd.textL (l.data.toList, d.data.toList, []) = l.data.toList ++ [64] ++ d.data.toList := by
  have e : Jd.textL (l.data.toList, d.data.toList, []) = (if l.data.toList = [] then d.data.toList else l.data.toList ++ [64] ++ d.data.toList) ++ [] := rfl
  rw [e, if_neg h, List.append_nil]
theorem text_res {r : ByteArray} (d : ByteArray) (h2 : r.data.toList ≠ []) : Jd.textL ([], d.data.toList, r.data.toList) = d.data.toList ++ ([47] ++ r.data.toList) := by
  have e : Jd.textL ([], d.data.toList, r.data.toList) = d.data.toList ++ (if r.data.toList = [] then [] else [47] ++ r.data.toList) := rfl
  rw [e, if_neg h2]
theorem text_dom (d : ByteArray) : Jd.textL ([], d.data.toList, []) = d.data.toList := by
  have e : Jd.textL ([], d.data.toList, []) = d.data.toList ++ [] := rfl
  rw [e, List.append_nil]
set_option maxHeartbeats 4000000 in
theorem text_any (l d r : ByteArray) (w : World) (hl : l.size ≤ 1000000) (hd : d.size ≤ 1000000) (hr : r.size ≤ 1000000) :
    Calls Tryz.prog 155 #[.agg #[.string l, .string d, .string r]] w fun e w' => e = .returned (.string (btj (Jd.textL (l.data.toList, d.data.toList, r.data.toList)))) ∧ Below w.heap.size w w' := by
  have hb1 : Below w.heap.size w (w.alloc (.cells #[.string l, .string d, .string r] 115)) := (Below.refl _ w).alloc (Nat.le_refl _) _
  have HB := Lib.hid hb1
  clear hb1
  by_cases h1 : l.data.toList = []
  · obtain rfl := empty_true h1
    by_cases h2 : r.data.toList = []
    · obtain rfl := empty_true h2
      have HF := Lib.hid (text_dom d)
      clear h1 h2
      go_enter Tryz.func155, Tryz.ntmps155
      go_wp2_with fail
      go_ret
      exact ⟨ret_str (bytes_of HF.out.symm), HB.out⟩
    · have e2 := empty_false h2
      have HF := Lib.hid (text_res d h2)
      clear h1 h2
      go_enter Tryz.func155, Tryz.ntmps155
      go_wp2_with fail
      go_ret
      exact ⟨ret_str (bytes_of (by rw [cat_list, cat_list]; exact HF.out.symm)), HB.out⟩
  · have e1 := empty_false h1
    by_cases h2 : r.data.toList = []
    · obtain rfl := empty_true h2
      have HF := Lib.hid (text_loc d h1)
      clear h1 h2
      go_enter Tryz.func155, Tryz.ntmps155
      go_wp2_with fail
      go_ret
      exact ⟨ret_str (bytes_of (by rw [cat_list, cat_list]; exact HF.out.symm)), HB.out⟩
    · have e2 := empty_false h2
      have HF := Lib.hid (text_both d h1 h2)
      clear h1 h2
      go_enter Tryz.func155, Tryz.ntmps155
      go_wp2_with fail
      go_ret
      exact ⟨ret_str (bytes_of (by rw [cat_list, cat_list, cat_list, cat_list]; exact HF.out.symm)), HB.out⟩
theorem jidnV_of {s : Gat} : jidnV s = .tuple #[.agg #[.string (btj s.1.1), .string (btj s.1.2.1), .string (btj s.1.2.2)], .int .i64 (s.2 : Nat)] := rfl
set_option maxHeartbeats 4000000 in
theorem bare_any (s : ByteArray) (w : World) (hO : Okw w) (hs : s.size ≤ 100000000) :
    Calls Tryz.prog 112 #[.string s] w fun e w' => e = .returned (twoV (Jd.bareL s.data.toList)) ∧ Below w.heap.size w w' := by
  have HP := Lib.hid (parse_any s w hO hs)
  obtain ⟨p, hp⟩ : ∃ p, Jd.parseL s.data.toList = p := ⟨_, rfl⟩
  have hlen := Jd.parse_len (s := s.data.toList) (j := p.1)
  have hok := Jd.bare_ok (s := s.data.toList) (j := p.1)
  have hres := Jd.bare_res (s := s.data.toList) (j := p.1)
  have hbad := Jd.bare_bad (s := s.data.toList)
  rw [hp] at HP hlen hok hres hbad
  rw [jidnV_of] at HP
  clear hp hO hs
  obtain ⟨l, hl⟩ : ∃ l, btj p.1.1 = l := ⟨_, rfl⟩
  obtain ⟨d, hd⟩ : ∃ d, btj p.1.2.1 = d := ⟨_, rfl⟩
  obtain ⟨r, hr⟩ : ∃ r, btj p.1.2.2 = r := ⟨_, rfl⟩
  have dl : l.data.toList = p.1.1 := by rw [← hl]
  have dd : d.data.toList = p.1.2.1 := by rw [← hd]
  have dr : r.data.toList = p.1.2.2 := by rw [← hr]
  rw [hl, hd, hr] at HP
  by_cases h0 : p.2 = 0
  · have e0 : p = (p.1, 0) := Prod.ext rfl h0
    obtain ⟨z1, z2, z3⟩ := hlen e0
    rw [h0] at HP
    by_cases h1 : p.1.2.2 = []
    · have HF := Lib.hid (hok e0 h1)
      have hre : r = ⟨#[]⟩ := empty_true (by rw [dr]; exact h1)
      subst hre
      have HT := Lib.hid (fun W => text_any l d ⟨#[]⟩ W (by rw [Lib.size_eq, dl]; omega) (by rw [Lib.size_eq, dd]; omega) (by decide))
      have e3 : (l.data.toList, d.data.toList, (⟨#[]⟩ : ByteArray).data.toList) = p.1 := by rw [dl, dd]; exact Prod.ext rfl (Prod.ext rfl h1.symm)
      rw [e3] at HT
      rw [show twoV (Jd.bareL s.data.toList) = .tuple #[.string (btj (Jd.textL p.1)), .int .i64 0] from by rw [HF.out]; rfl]
      obtain ⟨x, hx⟩ : ∃ x, btj (Jd.textL p.1) = x := ⟨_, rfl⟩
      rw [hx] at HT ⊢
      clear hlen hok hres hbad hl hd hr dl dd dr e0 z1 z2 z3 h0 h1 HF e3 hx
      go_enter Tryz.func112, Tryz.ntmps112
      go_wp2_with fail
      refine HP.out.mono ?_
      rintro e w1 ⟨rfl, b1⟩
      have hb1 : Below w.heap.size w (w1.alloc (.cells #[.string l, .string d, .string ⟨#[]⟩] 115)) := b1.alloc b1.size _
      have B1 := Lib.hid hb1
      clear b1 hb1
      go_wp2_with fail
      refine (HT.out _).mono ?_
      rintro e w2 ⟨rfl, b2⟩
      have B2 := Lib.hid (B1.out.trans (b2.mono B1.out.size))
      clear b2
      go_wp2_with fail
      go_ret2
      exact ⟨rfl, B2.out⟩
    · have HF := Lib.hid (hres e0 h1)
      have hne := empty_false (a := r) (by rw [dr]; exact h1)
      rw [show twoV (Jd.bareL s.data.toList) = .tuple #[.string ⟨#[]⟩, .int .i64 14] from by rw [HF.out]; rfl]
      clear hlen hok hres hbad hl hd hr dl dd dr e0 z1 z2 z3 h0 h1 HF
      go_enter Tryz.func112, Tryz.ntmps112
      go_wp2_with fail
      refine HP.out.mono ?_
      rintro e w1 ⟨rfl, b1⟩
      have hb1 : Below w.heap.size w (w1.alloc (.cells #[.string l, .string d, .string r] 115)) := b1.alloc b1.size _
      have B1 := Lib.hid hb1
      clear b1 hb1
      go_wp2_with fail
      go_ret2
      exact ⟨rfl, B1.out⟩
  · have HF := Lib.hid (hbad h0)
    rw [show twoV (Jd.bareL s.data.toList) = .tuple #[.string ⟨#[]⟩, .int .i64 (p.2 : Nat)] from by rw [HF.out]; rfl]
    obtain ⟨n, hn⟩ : ∃ n : Int, ((p.2 : Nat) : Int) = n := ⟨_, rfl⟩
    rw [hn] at HP ⊢
    have hn0 : n ≠ 0 := by omega
    have hnB : (n != 0) = true := by simpa using hn0
    clear hlen hok hres hbad hl hd hr dl dd dr h0 HF hn
    go_enter Tryz.func112, Tryz.ntmps112
    go_wp2_with fail
    refine HP.out.mono ?_
    rintro e w1 ⟨rfl, b1⟩
    have hb1 : Below w.heap.size w (w1.alloc (.cells #[.string l, .string d, .string r] 115)) := b1.alloc b1.size _
    have B1 := Lib.hid hb1
    clear b1 hb1
    go_wp2_with fail
    go_ret2
    exact ⟨rfl, B1.out⟩
end Go.Proofs.YtbgaglcgennhiaaGreatDoor
end
section
/- what is reached of it -/
namespace Go.Proofs.YtbgaglcgennhiaaGreatDoor
open Go.RowKit Rg Tx
theorem toList_data (a : ByteArray) : a.toList = a.data.toList := by
  have e : (⟨a.data⟩ : ByteArray).toList = a.data.toList := ByteArray.toList_mk _
  exact e
theorem lt_walk (a b : ByteArray) : Op.bytesLess a.toList b.toList = Jd.ltL a.data.toList b.data.toList := by
  rw [toList_data, toList_data]
  unfold Jd.ltL
  rfl
/-- cmp.Or of two -/
def or2 (x y : Int) : Int := if x = 0 then y else x
set_option maxHeartbeats 1000000 in
theorem or_any (g : Nat) (x y : Int) (w : World) (h0 : w.cell? ⟨g, 0, none⟩ = some (.int .i64 x)) (h1 : w.cell? ⟨g, 1, none⟩ = some (.int .i64 y)) :
    Calls Tryz.prog 110 #[.slice (some ⟨g, 0, none⟩) 2 2] w fun e w' => e = .returned (.int .i64 (or2 x y)) ∧ w' = w := by
  go_enter Tryz.func110, Tryz.ntmps110
  go_wp2_with fail
  go_loop [8] (fun i => ∃ (k : Nat), k ≤ 2 ∧ i = .int .i64 k ∧ (0 < k → x = 0) ∧ (1 < k → y = 0)) (fun i => 2 - (intOf i).toNat)
  case atStart => exact ⟨0, by omega, rfl, by omega, by omega⟩
  case round =>
    obtain ⟨k, hk, rfl, hx, hy⟩ := hrel
    have hX := Lib.hid hx
    have hY := Lib.hid hy
    clear hx hy
    obtain rfl | rfl | rfl : k = 0 ∨ k = 1 ∨ k = 2 := by omega
    · by_cases hz : x = 0
      · subst hz
        go_wp2_with fail
        go_round
        case rel => exact ⟨1, by omega, by go_num, by simp, by omega⟩
        case measure => simp [intOf]
      · have hb : (x != 0) = true := by simpa using hz
        go_wp2_with fail
        go_ret
        exact ⟨by unfold or2; rw [if_neg hz]; rfl, rfl⟩
    · have hx0 := hX.out (by omega)
      subst hx0
      by_cases hz : y = 0
      · subst hz
        go_wp2_with fail
        go_round
        case rel => exact ⟨2, by omega, by go_num, by simp, by simp⟩
        case measure => simp [intOf]
      · have hb : (y != 0) = true := by simpa using hz
        go_wp2_with fail
        go_ret
        exact ⟨by unfold or2; rw [if_pos rfl]; rfl, rfl⟩
    · have hx0 := hX.out (by omega)
      have hy0 := hY.out (by omega)
      subst hx0
      subst hy0
      go_wp2_with fail
      go_ret
      exact ⟨by unfold or2; rw [if_pos rfl]; rfl, rfl⟩
theorem or_less (a b x y : List UInt8) : decide (or2 (Lib.compareBytes x y) (Lib.compareBytes a b) < 0) = (Jd.ltL x y || (x == y && Jd.ltL a b)) := by
  rw [Jd.compare_lt, Jd.compare_lt]
  unfold or2
  rcases Jd.lt_tri x y with ⟨h1, _, h3⟩ | ⟨h1, _, h3⟩ | ⟨h1, _, h3⟩
  · rw [h1]; simp
  · rw [h1]; simp [h3]
  · subst h3
    rw [h1]
    rcases Jd.lt_tri a b with ⟨h4, _, h6⟩ | ⟨h4, _, h6⟩ | ⟨h4, _, h6⟩
    · rw [h4]; simp
    · rw [h4]; simp [h6]
    · rw [h4]; simp [h6]
set_option maxHeartbeats 4000000 in
theorem less2_any (a b : ByteArray) (w : World) (hO : Okw w) (ha : a.size ≤ 1000000000) (hb : b.size ≤ 1000000000) :
    Calls Tryz.prog 83 #[.string a, .string b] w fun e w' => e = .returned (.bool (Jd.lessL a.data.toList b.data.toList)) ∧ Below w.heap.size w w' := by
  have H1 := Lib.hid (halves_any a w hO.maxl ha)
  have H2 := Lib.hid (fun W (h : Below w.heap.size w W) => halves_any b W (hO.below h).maxl hb)
  rw [cutV_bts] at H1 H2
  obtain ⟨x1, hx1⟩ : ∃ x, btj (Jd.halfL a.data.toList).1 = x := ⟨_, rfl⟩
  obtain ⟨x2, hx2⟩ : ∃ x, btj (Jd.halfL a.data.toList).2.1 = x := ⟨_, rfl⟩
  obtain ⟨x3, hx3⟩ : ∃ x, (Jd.halfL a.data.toList).2.2 = x := ⟨_, rfl⟩
  obtain ⟨y1, hy1⟩ : ∃ x, btj (Jd.halfL b.data.toList).1 = x := ⟨_, rfl⟩
  obtain ⟨y2, hy2⟩ : ∃ x, btj (Jd.halfL b.data.toList).2.1 = x := ⟨_, rfl⟩
  obtain ⟨y3, hy3⟩ : ∃ x, (Jd.halfL b.data.toList).2.2 = x := ⟨_, rfl⟩
  rw [hx1, hx2, hx3] at H1
  rw [hy1, hy2, hy3] at H2
  have e1 : x2.data.toList = Jd.dmL a.data.toList := by rw [← hx2]; rfl
  have e2 : y2.data.toList = Jd.dmL b.data.toList := by rw [← hy2]; rfl
  have HC1 := fun (W : World) => Tryz.strings_Compare x2 y2 W
  have HC2 := fun (W : World) => Tryz.strings_Compare a b W
  have hr := or_less a.data.toList b.data.toList x2.data.toList y2.data.toList
  rw [e1, e2] at hr HC1
  obtain ⟨p1, hp1⟩ : ∃ p, Lib.compareBytes (Jd.dmL a.data.toList) (Jd.dmL b.data.toList) = p := ⟨_, rfl⟩
  obtain ⟨p2, hp2⟩ : ∃ p, Lib.compareBytes a.data.toList b.data.toList = p := ⟨_, rfl⟩
  rw [hp1] at HC1 hr
  rw [hp2] at HC2 hr
  have HR : Hid (Jd.lessL a.data.toList b.data.toList = decide (or2 p1 p2 < 0)) := hr.symm
  have HO1 := Lib.hid HC1
  have HO2 := Lib.hid HC2
  have HOR := Lib.hid (fun (g : Nat) W => or_any g p1 p2 W)
  clear hx1 hx2 hx3 hy1 hy2 hy3 e1 e2 hp1 hp2 hr hO HC1 HC2
  go_enter Tryz.func83, Tryz.ntmps83
  go_wp2_with fail
  refine H1.out.mono ?_
  rintro e w1 ⟨rfl, b1⟩
  have B1 := Lib.hid b1
  clear b1
  go_wp2_with fail
  refine (H2.out w1 B1.out).mono ?_
  rintro e w2 ⟨rfl, b2⟩
  have B2 := Lib.hid (B1.out.trans (b2.mono B1.out.size))
  clear b2
  go_wp2_with fail
  refine (HO1.out w2).mono ?_
  rintro e w3 ⟨rfl, rfl⟩
  go_wp2_with fail
  refine (HO2.out _).mono ?_
  rintro e w4 ⟨rfl, rfl⟩
  obtain ⟨w5, hw5⟩ : ∃ w5, w4.alloc (.cells #[.int .i64 p1, .int .i64 p2] 3) = w5 := ⟨_, rfl⟩
  have k5 : Bk w5 w4.heap.size 3 #[.int .i64 p1, .int .i64 p2] := by rw [← hw5]; exact Bk.new w4 _ _
  have B5 : Hid (Below w.heap.size w w5) := by unfold Hid; rw [← hw5]; exact B2.out.alloc B2.out.size _
  have A5 := Lib.hid (HOR.out w4.heap.size w5 (k5.cell 0) (k5.cell 1))
  obtain ⟨g, hg⟩ : ∃ g, w4.heap.size = g := ⟨_, rfl⟩
  rw [hg] at A5
  clear k5
  go_wp2_with fail
  refine A5.out.mono ?_
  rintro e w6 ⟨rfl, rfl⟩
  go_wp2_with fail
  go_ret
  exact ⟨by rw [HR.out]; rfl, B5.out⟩

end Go.Proofs.YtbgaglcgennhiaaGreatDoor
end
