import Derived.Test.YtogjhpcjjmcjfaaGreatDoorM23
import Derived.Lib.IndexBytes
import Derived.Shelf.Strings.Search2
import Derived.Test.YtogjhpcjjmcjfaaGreatDoorM16
import Derived.Test.YtogjhpcjjmcjfaaGreatDoorM15
import Derived.Test.YtogjhpcjjmcjfaaGreatDoorM13
import Derived.Test.YtogjhpcjjmcjfaaGreatDoorM11
import Derived.Lib.Hide
import Derived.Test.YtogjhpcjjmcjfaaGreatDoorM20
import Derived.Deep.RegionHeld3
section
/- what is reached of it -/
namespace Go.Proofs.YtogjhpcjjmcjfaaGreatDoor
open Go.RowKit Rg Tx
theorem empty_true {a : ByteArray} (h : a.data.toList = []) : a = ⟨#[]⟩ := bytes_of h
theorem text_both {l r : ByteArray} (d : ByteArray) (h : l.data.toList ≠ []) (h2 : r.data.toList ≠ []) : Jd.textL (l.data.toList, d.data.toList, r.data.toList) = l.data.toList ++ [64] ++ d.data.toList ++ ([47] ++ r.data.toList) := by
  unfold Jd.textL
  simp only
  rw [if_neg h, if_neg h2]
theorem text_loc {l : ByteArray} (d : ByteArray) (h : l.data.toList ≠ []) : Jd.textL (l.data.toList, d.data.toList, []) = l.data.toList ++ [64] ++ d.data.toList := by
  have e : Jd.textL (l.data.toList, d.data.toList, []) = (if l.data.toList = [] then d.data.toList else l.data.toList ++ [64] ++ d.data.toList) ++ [] := rfl
  rw [e, if_neg h, List.append_nil]
theorem text_res {r : ByteArray} (d : ByteArray) (h2 : r.data.toList ≠ []) : Jd.textL ([], d.data.toList, r.data.toList) = d.data.toList ++ ([47] ++ r.data.toList) := by
  have e : Jd.textL ([], d.data.toList, r.data.toList) = d.data.toList ++ (if r.data.toList = [] then [] else [47] ++ r.data.toList) := rfl
  rw [e, if_neg h2]
theorem text_dom (d : ByteArray) : Jd.textL ([], d.data.toList, []) = d.data.toList := by
  have e : Jd.textL ([], d.data.toList, []) = d.data.toList ++ [] := rfl
  rw [e, List.append_nil]
set_option maxHeartbeats 4000000 in
theorem text_any (l d r : ByteArray) (w : World) (hl : l.size ≤ 1000000) (hd : d.size ≤ 1000000) (hr : r.size ≤ 1000000) :
    Calls Tryz.prog 74 #[.agg #[.string l, .string d, .string r]] w fun e w' => e = .returned (.string (btj (Jd.textL (l.data.toList, d.data.toList, r.data.toList)))) ∧ Below w.heap.size w w' := by
  have hb1 : Below w.heap.size w (w.alloc (.cells #[.string l, .string d, .string r] 85)) := (Below.refl _ w).alloc (Nat.le_refl _) _
  have HB := Lib.hid hb1
  clear hb1
  by_cases h1 : l.data.toList = []
  · obtain rfl := empty_true h1
    by_cases h2 : r.data.toList = []
    · obtain rfl := empty_true h2
      have HF := Lib.hid (text_dom d)
      clear h1 h2
      go_enter Tryz.func74, Tryz.ntmps74
      go_wp2_with fail
      go_ret
      exact ⟨ret_str (bytes_of HF.out.symm), HB.out⟩
    · have e2 := empty_false h2
      have HF := Lib.hid (text_res d h2)
      clear h1 h2
      go_enter Tryz.func74, Tryz.ntmps74
      go_wp2_with fail
      go_ret
      exact ⟨ret_str (bytes_of (by rw [cat_list, cat_list]; exact HF.out.symm)), HB.out⟩
  · have e1 := empty_false h1
    by_cases h2 : r.data.toList = []
    · obtain rfl := empty_true h2
      have HF := Lib.hid (text_loc d h1)
      clear h1 h2
      go_enter Tryz.func74, Tryz.ntmps74
      go_wp2_with fail
      go_ret
      exact ⟨ret_str (bytes_of (by rw [cat_list, cat_list]; exact HF.out.symm)), HB.out⟩
    · have e2 := empty_false h2
      have HF := Lib.hid (text_both d h1 h2)
      clear h1 h2
      go_enter Tryz.func74, Tryz.ntmps74
      go_wp2_with fail
      go_ret
      exact ⟨ret_str (bytes_of (by rw [cat_list, cat_list, cat_list, cat_list]; exact HF.out.symm)), HB.out⟩
theorem jidnV_of {s : Gat} : jidnV s = .tuple #[.agg #[.string (btj s.1.1), .string (btj s.1.2.1), .string (btj s.1.2.2)], .int .i64 (s.2 : Nat)] := rfl
set_option maxHeartbeats 4000000 in
theorem bare_any (s : ByteArray) (w : World) (hO : Okw w) (hs : s.size ≤ 100000000) :
    Calls Tryz.prog 54 #[.string s] w fun e w' => e = .returned (twoV (Jd.bareL s.data.toList)) ∧ Below w.heap.size w w' := by
  have HP := Lib.hid (parse_any s w hO hs)
  obtain ⟨p, hp⟩ : ∃ p, Jd.parseL s.data.toList = p := ⟨_, rfl⟩
  have hlen := Jd.parse_len (s := s.data.toList) (j := p.1)
  have hok := Jd.bare_ok (s := s.data.toList) (j := p.1)
  have hres := Jd.bare_res (s := s.data.toList) (j := p.1)
  have hbad := Jd.bare_bad (s := s.data.toList)
  rw [hp] at HP hlen hok hres hbad
  rw [jidnV_of] at HP
  clear hp hO hs
  obtain ⟨l, hl⟩ : ∃ l, btj p.1.1 = l := ⟨_, rfl⟩
  obtain ⟨d, hd⟩ : ∃ d, btj p.1.2.1 = d := ⟨_, rfl⟩
  obtain ⟨r, hr⟩ : ∃ r, btj p.1.2.2 = r := ⟨_, rfl⟩
  have dl : l.data.toList = p.1.1 := by rw [← hl]
  have dd : d.data.toList = p.1.2.1 := by rw [← hd]
  have dr : r.data.toList = p.1.2.2 := by rw [← hr]
  rw [hl, hd, hr] at HP
  by_cases h0 : p.2 = 0
  · have e0 : p = (p.1, 0) := Prod.ext rfl h0
    obtain ⟨z1, z2, z3⟩ := hlen e0
    rw [h0] at HP
    by_cases h1 : p.1.2.2 = []
    · have HF := Lib.hid (hok e0 h1)
      have hre : r = ⟨#[]⟩ := empty_true (by rw [dr]; exact h1)
      subst hre
      have HT := Lib.hid (fun W => text_any l d ⟨#[]⟩ W (by rw [Lib.size_eq, dl]; omega) (by rw [Lib.size_eq, dd]; omega) (by decide))
      have e3 : (l.data.toList, d.data.toList, (⟨#[]⟩ : ByteArray).data.toList) = p.1 := by rw [dl, dd]; exact Prod.ext rfl (Prod.ext rfl h1.symm)
      rw [e3] at HT
      rw [show twoV (Jd.bareL s.data.toList) = .tuple #[.string (btj (Jd.textL p.1)), .int .i64 0] from by rw [HF.out]; rfl]
      obtain ⟨x, hx⟩ : ∃ x, btj (Jd.textL p.1) = x := ⟨_, rfl⟩
      rw [hx] at HT ⊢
      clear hlen hok hres hbad hl hd hr dl dd dr e0 z1 z2 z3 h0 h1 HF e3 hx
      go_enter Tryz.func54, Tryz.ntmps54
      go_wp2_with fail
      refine HP.out.mono ?_
      rintro e w1 ⟨rfl, b1⟩
      have hb1 : Below w.heap.size w (w1.alloc (.cells #[.string l, .string d, .string ⟨#[]⟩] 85)) := b1.alloc b1.size _
      have B1 := Lib.hid hb1
      clear b1 hb1
      go_wp2_with fail
      refine (HT.out _).mono ?_
      rintro e w2 ⟨rfl, b2⟩
      have B2 := Lib.hid (B1.out.trans (b2.mono B1.out.size))
      clear b2
      go_wp2_with fail
      go_ret2
      exact ⟨rfl, B2.out⟩
    · have HF := Lib.hid (hres e0 h1)
      have hne := empty_false (a := r) (by rw [dr]; exact h1)
      rw [show twoV (Jd.bareL s.data.toList) = .tuple #[.string ⟨#[]⟩, .int .i64 14] from by rw [HF.out]; rfl]
      clear hlen hok hres hbad hl hd hr dl dd dr e0 z1 z2 z3 h0 h1 HF
      go_enter Tryz.func54, Tryz.ntmps54
      go_wp2_with fail
      refine HP.out.mono ?_
      rintro e w1 ⟨rfl, b1⟩
      have hb1 : Below w.heap.size w (w1.alloc (.cells #[.string l, .string d, .string r] 85)) := b1.alloc b1.size _
      have B1 := Lib.hid hb1
      clear b1 hb1
      go_wp2_with fail
      go_ret2
      exact ⟨rfl, B1.out⟩
  · have HF := Lib.hid (hbad h0)
    rw [show twoV (Jd.bareL s.data.toList) = .tuple #[.string ⟨#[]⟩, .int .i64 (p.2 : Nat)] from by rw [HF.out]; rfl]
    obtain ⟨n, hn⟩ : ∃ n : Int, ((p.2 : Nat) : Int) = n := ⟨_, rfl⟩
    rw [hn] at HP ⊢
    have hn0 : n ≠ 0 := by omega
    have hnB : (n != 0) = true := by simpa using hn0
    clear hlen hok hres hbad hl hd hr dl dd dr h0 HF hn
    go_enter Tryz.func54, Tryz.ntmps54
    go_wp2_with fail
    refine HP.out.mono ?_
    rintro e w1 ⟨rfl, b1⟩
    have hb1 : Below w.heap.size w (w1.alloc (.cells #[.string l, .string d, .string r] 85)) := b1.alloc b1.size _
    have B1 := Lib.hid hb1
    clear b1 hb1
    go_wp2_with fail
    go_ret2
    exact ⟨rfl, B1.out⟩
end Go.Proofs.YtogjhpcjjmcjfaaGreatDoor
end
section
/- what is reached of it -/
namespace Go.Proofs.YtogjhpcjjmcjfaaGreatDoor
open Go.RowKit Rg Tx
theorem toList_data (a : ByteArray) : a.toList = a.data.toList := by
  have e : (⟨a.data⟩ : ByteArray).toList = a.data.toList := ByteArray.toList_mk _
  exact e
theorem lt_walk (a b : ByteArray) : Op.bytesLess a.toList b.toList = Jd.ltL a.data.toList b.data.toList := by
  rw [toList_data, toList_data]
  unfold Jd.ltL
  rfl
/-- cmp.Or of two -/
def or2 (x y : Int) : Int := if x = 0 then y else x
set_option maxHeartbeats 1000000 in
theorem or_any (g : Nat) (x y : Int) (w : World) (h0 : w.cell? ⟨g, 0, none⟩ = some (.int .i64 x)) (h1 : w.cell? ⟨g, 1, none⟩ = some (.int .i64 y)) :
    Calls Tryz.prog 66 #[.slice (some ⟨g, 0, none⟩) 2 2] w fun e w' => e = .returned (.int .i64 (or2 x y)) ∧ w' = w := by
  go_enter Tryz.func66, Tryz.ntmps66
  go_wp2_with fail
  go_loop [8] (fun i => ∃ (k : Nat), k ≤ 2 ∧ i = .int .i64 k ∧ (0 < k → x = 0) ∧ (1 < k → y = 0)) (fun i => 2 - (intOf i).toNat)
  case atStart => exact ⟨0, by omega, rfl, by omega, by omega⟩
  case round =>
    obtain ⟨k, hk, rfl, hx, hy⟩ := hrel
    have hX := Lib.hid hx
    have hY := Lib.hid hy
    clear hx hy
    obtain rfl | rfl | rfl : k = 0 ∨ k = 1 ∨ k = 2 := by omega
    · by_cases hz : x = 0
      · subst hz
        go_wp2_with fail
        go_round
        case rel => exact ⟨1, by omega, by go_num, by simp, by omega⟩
        case measure => simp [intOf]
      · have hb : (x != 0) = true := by simpa using hz
        go_wp2_with fail
        go_ret
        exact ⟨by unfold or2; rw [if_neg hz]; rfl, rfl⟩
    · have hx0 := hX.out (by omega)
      subst hx0
      by_cases hz : y = 0
      · subst hz
        go_wp2_with fail
        go_round
        case rel => exact ⟨2, by omega, by go_num, by simp, by simp⟩
        case measure => simp [intOf]
      · have hb : (y != 0) = true := by simpa using hz
        go_wp2_with fail
        go_ret
        exact ⟨by unfold or2; rw [if_pos rfl]; rfl, rfl⟩
    · have hx0 := hX.out (by omega)
      have hy0 := hY.out (by omega)
      subst hx0
      subst hy0
      go_wp2_with fail
      go_ret
      exact ⟨by unfold or2; rw [if_pos rfl]; rfl, rfl⟩
theorem or_less (a b x y : List UInt8) : decide (or2 (Lib.compareBytes x y) (Lib.compareBytes a b) < 0) = (Jd.ltL x y || (x == y && Jd.ltL a b)) := by
  rw [Jd.compare_lt, Jd.compare_lt]
  unfold or2
  rcases Jd.lt_tri x y with ⟨h1, _, h3⟩ | ⟨h1, _, h3⟩ | ⟨h1, _, h3⟩
  · rw [h1]; simp
  · rw [h1]; simp [h3]
  · subst h3
    rw [h1]
    rcases Jd.lt_tri a b with ⟨h4, _, h6⟩ | ⟨h4, _, h6⟩ | ⟨h4, _, h6⟩
    · rw [h4]; simp
    · rw [h4]; simp [h6]
    · rw [h4]; simp [h6]
theorem cut_here {c : UInt8} : ∀ {l : List UInt8} {k : Nat} (hk : k < l.length), (∀ j (h : j < k), (l[j]'(by omega)) ≠ c) → l[k] = c → Jd.cutB c l = (l.take k, l.drop (k + 1), true)
  | [], _, hk, _, _ => absurd hk (by simp)
  | b :: l, 0, _, _, h => by
    have : b = c := h
    unfold Jd.cutB
    rw [if_pos this]
    rfl
  | b :: l, k + 1, hk, hn, h => by
    have h1 : b ≠ c := hn 0 (by omega)
    have ih := cut_here (c := c) (l := l) (k := k) (by simpa using hk) (fun j hj => hn (j + 1) (by omega)) (by simpa using h)
    unfold Jd.cutB
    rw [if_neg h1, ih]
    rfl
end Go.Proofs.YtogjhpcjjmcjfaaGreatDoor
end
section
/- what is reached of it -/
namespace Go.Proofs.YtogjhpcjjmcjfaaGreatDoor
open Go.RowKit Pr
set_option maxHeartbeats 2000000 in
set_option maxRecDepth 100000 in
theorem slcutZ_any (c : UInt8) (s : ByteArray) (w : World) (hs : s.size ≤ 140737488355328) :
    Calls Tryz.prog 101 #[.string s, .string ⟨#[c]⟩] w fun e w' => e = .returned (.tuple #[.string ⟨(Lib.cut s.data.toList (⟨#[c]⟩ : ByteArray).data.toList).1.toArray⟩, .string ⟨(Lib.cut s.data.toList (⟨#[c]⟩ : ByteArray).data.toList).2.1.toArray⟩, .bool (Lib.cut s.data.toList (⟨#[c]⟩ : ByteArray).data.toList).2.2]) ∧ Below w.heap.size w w' := by
  have H := Lib.hid (fun W => Any.stringslite_Index_one (P := Tryz.prog) { Tryz.lays145 with } s c W)
  have hi1 : Lib.indexB s ⟨#[c]⟩ = Lib.indexByte s.data.toList c := Lib.index_one s.data.toList c
  rcases Lib.indexB_cases s ⟨#[c]⟩ with hix | ⟨i, hix, hroom⟩
  · obtain ⟨e1, e2, e3⟩ := Lib.cutB_miss s ⟨#[c]⟩ hix
    rw [e1, e2, e3]
    rw [hi1] at hix
    rw [hix] at H
    clear e1 e2 e3 hix hi1
    go_enter Tryz.func101, Tryz.ntmps101
    go_wp2_with fail
    refine (H.out _).mono ?_
    rintro e w1 ⟨rfl, rfl⟩
    go_wp2_with fail
    go_ret3
    exact ⟨rfl, Below.refl _ _⟩
  · obtain ⟨e1, e2, e3⟩ := Lib.cutB_hit s ⟨#[c]⟩ i hix
    rw [e1, e2, e3]
    rw [hi1] at hix
    rw [hix] at H
    have hsz : (⟨#[c]⟩ : ByteArray).size = 1 := rfl
    rw [hsz] at hroom ⊢
    have c1 : (0 : Int) ≤ (i : Int) := by omega
    have c2 : (i : Int) ≤ (s.size : Int) := by omega
    have c3 : (0 : Int) ≤ (i : Int) + 1 := by omega
    have c4 : (i : Int) + 1 ≤ (s.size : Int) := by omega
    clear e1 e2 e3 hix hi1 hsz
    go_enter Tryz.func101, Tryz.ntmps101
    go_wp2_with fail
    refine (H.out _).mono ?_
    rintro e w1 ⟨rfl, rfl⟩
    go_wp2_with fail
    go_region
    all_goals
      go_wp2_with fail
      go_ret3
      exact ⟨rfl, ⟨rfl, rfl, rfl, Nat.le_refl _, fun _ _ => rfl⟩⟩
set_option maxHeartbeats 1000000 in
theorem cutcZ_any (c : UInt8) (s : ByteArray) (w : World) (_ : MaxL w) (hs : s.size ≤ 140737488355328) :
    Calls Tryz.prog 81 #[.string s, .string ⟨#[c]⟩] w fun e w' => e = .returned (cutV (Jd.cutB c s.data.toList)) ∧ Below w.heap.size w w' := by
  have H := Lib.hid (slcutZ_any c s w hs)
  rw [show (⟨#[c]⟩ : ByteArray).data.toList = [c] from rfl, cut_lib] at H
  obtain ⟨r, hr⟩ : ∃ r, Jd.cutB c s.data.toList = r := ⟨_, rfl⟩
  rw [hr] at H ⊢
  unfold cutV
  obtain ⟨r1, r2, r3⟩ := r
  obtain ⟨Y, hY⟩ : ∃ Y, (⟨r1.toArray⟩ : ByteArray) = Y := ⟨_, rfl⟩
  obtain ⟨Z, hZ⟩ : ∃ Y, (⟨r2.toArray⟩ : ByteArray) = Y := ⟨_, rfl⟩
  simp only at H ⊢
  rw [hY, hZ] at H ⊢
  clear hr hY hZ hs
  go_enter Tryz.func81, Tryz.ntmps81
  go_wp2_with fail
  refine H.out.mono ?_
  rintro e w1 ⟨rfl, b1⟩
  go_wp2_with fail
  go_ret3
  exact ⟨rfl, b1⟩
set_option maxHeartbeats 1000000 in
theorem halvesZ_any (s : ByteArray) (w : World) (hM : MaxL w) (hs : s.size ≤ 140737488355328) :
    Calls Tryz.prog 65 #[.string s] w fun e w' => e = .returned (cutV (Jd.halfL s.data.toList)) ∧ Below w.heap.size w w' := by
  have HC := Lib.hid (cutcZ_any 64 s w hM hs)
  rcases Jd.cutB_cases 64 s.data.toList with ⟨h1, h2⟩ | ⟨p, r, h1, h2, h3⟩
  · rw [Jd.half_none h2]
    rw [h1] at HC
    unfold cutV at HC ⊢
    simp only at HC ⊢
    have et : (⟨s.data.toList.toArray⟩ : ByteArray) = s := rfl
    rw [et] at HC ⊢
    clear h1 h2 et hM
    go_enter Tryz.func65, Tryz.ntmps65
    go_wp2_with fail
    refine HC.out.mono ?_
    rintro e w1 ⟨rfl, b1⟩
    go_wp2_with fail
    go_ret3
    exact ⟨rfl, b1⟩
  · rw [h1, Jd.half_some h2]
    rw [h3] at HC
    unfold cutV at HC ⊢
    simp only at HC ⊢
    obtain ⟨P, hP⟩ : ∃ P : ByteArray, ⟨p.toArray⟩ = P := ⟨_, rfl⟩
    obtain ⟨R, hR⟩ : ∃ R : ByteArray, ⟨r.toArray⟩ = R := ⟨_, rfl⟩
    rw [hP, hR] at HC ⊢
    clear h1 h2 h3 hP hR hM
    go_enter Tryz.func65, Tryz.ntmps65
    go_wp2_with fail
    refine HC.out.mono ?_
    rintro e w1 ⟨rfl, b1⟩
    go_wp2_with fail
    go_ret3
    exact ⟨rfl, b1⟩

set_option maxHeartbeats 4000000 in
theorem less2Z_any (a b : ByteArray) (w : World) (hO : Okw w) (ha : a.size ≤ 140737488355328) (hb : b.size ≤ 140737488355328) :
    Calls Tryz.prog 41 #[.string a, .string b] w fun e w' => e = .returned (.bool (Jd.lessL a.data.toList b.data.toList)) ∧ Below w.heap.size w w' := by
  have H1 := Lib.hid (halvesZ_any a w hO.maxl ha)
  have H2 := Lib.hid (fun W (h : Below w.heap.size w W) => halvesZ_any b W (hO.below h).maxl hb)
  rw [cutV_bts] at H1 H2
  obtain ⟨x1, hx1⟩ : ∃ x, btj (Jd.halfL a.data.toList).1 = x := ⟨_, rfl⟩
  obtain ⟨x2, hx2⟩ : ∃ x, btj (Jd.halfL a.data.toList).2.1 = x := ⟨_, rfl⟩
  obtain ⟨x3, hx3⟩ : ∃ x, (Jd.halfL a.data.toList).2.2 = x := ⟨_, rfl⟩
  obtain ⟨y1, hy1⟩ : ∃ x, btj (Jd.halfL b.data.toList).1 = x := ⟨_, rfl⟩
  obtain ⟨y2, hy2⟩ : ∃ x, btj (Jd.halfL b.data.toList).2.1 = x := ⟨_, rfl⟩
  obtain ⟨y3, hy3⟩ : ∃ x, (Jd.halfL b.data.toList).2.2 = x := ⟨_, rfl⟩
  rw [hx1, hx2, hx3] at H1
  rw [hy1, hy2, hy3] at H2
  have e1 : x2.data.toList = Jd.dmL a.data.toList := by rw [← hx2]; rfl
  have e2 : y2.data.toList = Jd.dmL b.data.toList := by rw [← hy2]; rfl
  have HC1 := fun (W : World) => Tryz.strings_Compare x2 y2 W
  have HC2 := fun (W : World) => Tryz.strings_Compare a b W
  have hr := or_less a.data.toList b.data.toList x2.data.toList y2.data.toList
  rw [e1, e2] at hr HC1
  obtain ⟨p1, hp1⟩ : ∃ p, Lib.compareBytes (Jd.dmL a.data.toList) (Jd.dmL b.data.toList) = p := ⟨_, rfl⟩
  obtain ⟨p2, hp2⟩ : ∃ p, Lib.compareBytes a.data.toList b.data.toList = p := ⟨_, rfl⟩
  rw [hp1] at HC1 hr
  rw [hp2] at HC2 hr
  have HR : Hid (Jd.lessL a.data.toList b.data.toList = decide (or2 p1 p2 < 0)) := hr.symm
  have HO1 := Lib.hid HC1
  have HO2 := Lib.hid HC2
  have HOR := Lib.hid (fun (g : Nat) W => or_any g p1 p2 W)
  clear hx1 hx2 hx3 hy1 hy2 hy3 e1 e2 hp1 hp2 hr hO HC1 HC2
  go_enter Tryz.func41, Tryz.ntmps41
  go_wp2_with fail
  refine H1.out.mono ?_
  rintro e w1 ⟨rfl, b1⟩
  have B1 := Lib.hid b1
  clear b1
  go_wp2_with fail
  refine (H2.out w1 B1.out).mono ?_
  rintro e w2 ⟨rfl, b2⟩
  have B2 := Lib.hid (B1.out.trans (b2.mono B1.out.size))
  clear b2
  go_wp2_with fail
  refine (HO1.out w2).mono ?_
  rintro e w3 ⟨rfl, rfl⟩
  go_wp2_with fail
  refine (HO2.out _).mono ?_
  rintro e w4 ⟨rfl, rfl⟩
  obtain ⟨w5, hw5⟩ : ∃ w5, w4.alloc (.cells #[.int .i64 p1, .int .i64 p2] 3) = w5 := ⟨_, rfl⟩
  have k5 : Bk w5 w4.heap.size 3 #[.int .i64 p1, .int .i64 p2] := by rw [← hw5]; exact Bk.new w4 _ _
  have B5 : Hid (Below w.heap.size w w5) := by unfold Hid; rw [← hw5]; exact B2.out.alloc B2.out.size _
  have A5 := Lib.hid (HOR.out w4.heap.size w5 (k5.cell 0) (k5.cell 1))
  obtain ⟨g, hg⟩ : ∃ g, w4.heap.size = g := ⟨_, rfl⟩
  rw [hg] at A5
  clear k5
  go_wp2_with fail
  refine A5.out.mono ?_
  rintro e w6 ⟨rfl, rfl⟩
  go_wp2_with fail
  go_ret
  exact ⟨by rw [HR.out]; rfl, B5.out⟩

set_option maxHeartbeats 2000000 in
theorem rcutZ_any (c : UInt8) (C : Int) (hC : C = (c.toNat : Int)) (s : ByteArray) (w : World) (hs : s.size ≤ 140737488355328) :
    Calls Tryz.prog 72 #[.string s, .int .u8 C] w fun e w' => e = .returned (cutV (Jd.cutB c s.data.toList)) ∧ Below w.heap.size w w' := by
  have hsz := Lib.size_eq s
  have HN := Lib.hid (fun (h : ∀ j (h : j < s.size), (s[j]'h) ≠ c) => Jd.cutB_none (c := c) (l := s.data.toList) (fun hm => by
    obtain ⟨j, hj, hx⟩ := List.getElem_of_mem hm
    exact h j (by omega) hx))
  have HH := Lib.hid (fun (k : Nat) (hk : k < s.size) (h : ∀ j (h : j < k), (s[j]'(Nat.lt_trans h hk)) ≠ c) (h2 : s[k] = c) => cut_here (c := c) (l := s.data.toList) (k := k) (by omega) (fun j hj => h j hj) h2)
  have HCC := Lib.hid hC
  have HSZ := Lib.hid hsz
  clear hsz hC
  go_enter Tryz.func72, Tryz.ntmps72
  go_wp2_with fail
  go_loop [7] (fun i => ∃ (k : Nat), k ≤ s.size ∧ i = .int .i64 k ∧ Hid (∀ j (h : j < k) (h2 : j < s.size), (s[j]'h2) ≠ c)) (fun i => s.size - (intOf i).toNat)
  case atStart => exact ⟨0, Nat.zero_le _, rfl, Lib.hid (fun j h => absurd h (Nat.not_lt_zero _))⟩
  case round =>
    obtain ⟨k, hk, rfl, hno⟩ := hrel
    by_cases hlt : k < s.size
    · by_cases he : s[k] = c
      · have hf := Lib.hid (HH.out k hlt (fun j hj => hno.out j hj (by omega)) he)
        have hb : ((s[k].toNat : Int) == C) = true := by rw [HCC.out, he]; simp
        have HF : Hid (cutV (Jd.cutB c s.data.toList) = .tuple #[.string (s.extract 0 k), .string (s.extract (k + 1) s.size), .bool true]) := by
          have e1 : s.extract 0 k = btj (s.data.toList.take k) := bytes_of (by rw [mid_cut]; simp)
          have e2 : s.extract (k + 1) s.size = btj (s.data.toList.drop (k + 1)) := bytes_of (Lib.extract_to_end s (k + 1))
          unfold Hid
          rw [hf.out, cutV_bts, e1, e2]
        clear hf he
        go_wp2_with fail
        go_region
        all_goals
          go_wp2_with fail
          go_ret3
          exact ⟨by rw [HF.out]; rfl, (Below.refl _ _).drew⟩
      · have hb : ((s[k].toNat : Int) == C) = false := by
          rw [HCC.out]
          simp only [beq_eq_false_iff_ne, ne_eq]
          intro e
          exact he (UInt8.toNat_inj.1 (by omega))
        have hno2 : Hid (∀ j (h : j < k + 1) (h2 : j < s.size), (s[j]'h2) ≠ c) := Lib.hid (fun j hj h2 => by
          rcases Nat.lt_or_ge j k with h | h
          · exact hno.out j h h2
          · obtain rfl : j = k := by omega
            exact he)
        clear he
        go_wp2_with fail
        go_round
        case rel => exact ⟨k + 1, by omega, by go_num, hno2⟩
        case measure => simp [intOf]; omega
    · have hke : k = s.size := by omega
      have hf := Lib.hid (HN.out (fun j hj => hno.out j (by omega) hj))
      clear hke
      go_wp2_with fail
      go_ret3
      exact ⟨by rw [hf.out]; rfl, Below.refl _ _⟩
set_option maxHeartbeats 1000000 in
theorem domainOfZ_any (s : ByteArray) (w : World) (hs : s.size ≤ 140737488355328) :
    Calls Tryz.prog 49 #[.string s] w fun e w' => e = .returned (.string (btj (Jd.dmL s.data.toList))) ∧ Below w.heap.size w w' := by
  have HC := Lib.hid (rcutZ_any 64 64 rfl s w hs)
  rcases Jd.cutB_cases 64 s.data.toList with ⟨h1, h2⟩ | ⟨p, r, h1, h2, h3⟩
  · have e : Jd.dmL s.data.toList = s.data.toList := by unfold Jd.dmL; rw [Jd.half_none h2]
    rw [e]
    rw [h1, cutV_bts] at HC
    simp only at HC
    rw [btj_eq] at HC ⊢
    clear h1 h2 e
    go_enter Tryz.func49, Tryz.ntmps49
    go_wp2_with fail
    refine HC.out.mono ?_
    rintro e w1 ⟨rfl, b1⟩
    go_wp2_with fail
    go_ret
    exact ⟨rfl, b1⟩
  · have e : Jd.dmL s.data.toList = r := by unfold Jd.dmL; rw [h1, Jd.half_some h2]
    rw [e]
    rw [h3, cutV_bts] at HC
    simp only at HC
    obtain ⟨P, hP⟩ : ∃ P : ByteArray, btj p = P := ⟨_, rfl⟩
    obtain ⟨R, hR⟩ : ∃ R : ByteArray, btj r = R := ⟨_, rfl⟩
    rw [hP, hR] at HC
    rw [hR]
    clear h1 h2 h3 e hP hR
    go_enter Tryz.func49, Tryz.ntmps49
    go_wp2_with fail
    refine HC.out.mono ?_
    rintro e w1 ⟨rfl, b1⟩
    go_wp2_with fail
    go_ret
    exact ⟨rfl, b1⟩
set_option maxHeartbeats 4000000 in
theorem rlessZ_any (a b : ByteArray) (w : World) (ha : a.size ≤ 140737488355328) (hb : b.size ≤ 140737488355328) :
    Calls Tryz.prog 24 #[.string a, .string b] w fun e w' => e = .returned (.bool (Jd.lessL a.data.toList b.data.toList)) ∧ Below w.heap.size w w' := by
  have H1 := Lib.hid (domainOfZ_any a w ha)
  have H2 := Lib.hid (fun W => domainOfZ_any b W hb)
  have hl := Jd.lessL.eq_1 a.data.toList b.data.toList
  obtain ⟨x, hx⟩ : ∃ x, btj (Jd.dmL a.data.toList) = x := ⟨_, rfl⟩
  obtain ⟨y, hy⟩ : ∃ y, btj (Jd.dmL b.data.toList) = y := ⟨_, rfl⟩
  have ex : Jd.dmL a.data.toList = x.data.toList := by rw [← hx]
  have ey : Jd.dmL b.data.toList = y.data.toList := by rw [← hy]
  rw [ex, ey] at hl
  rw [hx] at H1
  rw [hy] at H2
  rw [hl]
  have q1 := lt_walk x y
  have q2 : (x.toList == y.toList) = (x.data.toList == y.data.toList) := by rw [toList_data, toList_data]
  have q3 := lt_walk a b
  clear hl hx hy ex ey
  obtain ⟨v1, hv1⟩ : ∃ v, Jd.ltL x.data.toList y.data.toList = v := ⟨_, rfl⟩
  obtain ⟨v2, hv2⟩ : ∃ v, (x.data.toList == y.data.toList) = v := ⟨_, rfl⟩
  obtain ⟨v3, hv3⟩ : ∃ v, Jd.ltL a.data.toList b.data.toList = v := ⟨_, rfl⟩
  rw [hv1] at q1
  rw [hv2] at q2
  rw [hv3] at q3
  rw [hv1, hv2, hv3]
  clear hv1 hv2 hv3
  cases v1 <;> cases v2 <;> cases v3
  all_goals
    go_enter Tryz.func24, Tryz.ntmps24
    go_wp2_with fail
    refine H1.out.mono ?_
    rintro e w1 ⟨rfl, b1⟩
    have B1 := Lib.hid b1
    clear b1
    go_wp2_with fail
    refine (H2.out w1).mono ?_
    rintro e w2 ⟨rfl, b2⟩
    have B2 := Lib.hid (B1.out.trans (b2.mono B1.out.size))
    clear b2
    go_wp2_with fail
    go_ret
    exact ⟨rfl, B2.out⟩
end Go.Proofs.YtogjhpcjjmcjfaaGreatDoor
end
section
/- what is reached of it -/
namespace Go.Proofs.YtogjhpcjjmcjfaaGreatDoor
open Go.RowKit Rg Tx
/-- what the loop knows at k: no "." from f to k; the pieces ahead of f are right -/
def DGoes (L : List UInt8) (f k : Nat) : Prop := f ≤ k ∧ k ≤ L.length ∧ (∀ c ∈ (L.drop f).take (k - f), c ≠ 46) ∧ (Jd.pcs 46 L).any Jd.badB = (Jd.pcs 46 (L.drop f)).any Jd.badB
theorem DGoes.start (L : List UInt8) : DGoes L 0 0 := ⟨Nat.le_refl _, Nat.zero_le _, by simp, rfl⟩
theorem take_snoc {L : List UInt8} {f k : Nat} (hf : f ≤ k) (hk : k < L.length) : (L.drop f).take (k + 1 - f) = (L.drop f).take (k - f) ++ [L[k]] := by
  rw [show k + 1 - f = (k - f) + 1 by omega, List.take_add_one, List.getElem?_drop, show f + (k - f) = k by omega, List.getElem?_eq_getElem hk]
  rfl
theorem DGoes.next {L : List UInt8} {f k : Nat} (h : DGoes L f k) (hk : k < L.length) (hc : L[k] ≠ 46) : DGoes L f (k + 1) := by
  obtain ⟨h1, h2, h3, h4⟩ := h
  refine ⟨by omega, by omega, fun c hm => ?_, h4⟩
  rw [take_snoc h1 hk] at hm
  rcases List.mem_append.1 hm with hm | hm
  · exact h3 c hm
  · rw [List.mem_singleton.1 hm]; exact hc
theorem DGoes.last {L : List UInt8} {f : Nat} (h : DGoes L f L.length) : (Jd.pcs 46 L).any Jd.badB = Jd.badB ((L.drop f).take (L.length - f)) := by
  obtain ⟨h1, h2, h3, h4⟩ := h
  have e : (L.drop f).take (L.length - f) = L.drop f := List.take_of_length_le (by rw [List.length_drop]; omega)
  rw [e] at h3 ⊢
  rw [h4, Jd.pcs_none (fun hm => h3 46 hm rfl)]
  simp
end Go.Proofs.YtogjhpcjjmcjfaaGreatDoor
end
section
/- what is reached of it -/
namespace Go.Proofs.YtogjhpcjjmcjfaaGreatDoor
open Go.RowKit Rg Tx
/-- the result's block, behind a store -/
theorem stored {w w1 : World} {q : Nat} {a b c : Value} (x y z : Value) (hk : Bk w1 q 85 #[a, b, c]) (hb : Below q w w1) :
    Bk (((w1.setCell ⟨q, 0, none⟩ x).setCell ⟨q, 1, none⟩ y).setCell ⟨q, 2, none⟩ z) q 85 #[x, y, z] ∧ Below q w (((w1.setCell ⟨q, 0, none⟩ x).setCell ⟨q, 1, none⟩ y).setCell ⟨q, 2, none⟩ z) :=
  ⟨((hk.put 0 x).put 1 y).put 2 z, Below.setCell (B := q) (p := ⟨q, 2, none⟩) (Below.setCell (B := q) (p := ⟨q, 1, none⟩) (Below.setCell (B := q) (p := ⟨q, 0, none⟩) hb (Nat.le_refl q) _) (Nat.le_refl q) _) (Nat.le_refl q) _⟩

end Go.Proofs.YtogjhpcjjmcjfaaGreatDoor
end
