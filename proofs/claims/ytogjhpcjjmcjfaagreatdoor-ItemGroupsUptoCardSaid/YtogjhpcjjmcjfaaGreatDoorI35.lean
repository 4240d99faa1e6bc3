import Derived.Test.YtogjhpcjjmcjfaaGreatDoorI34
section
/- what is reached of it -/
namespace Go.Proofs.YtogjhpcjjmcjfaaGreatDoor
open Go.RowKit Rg Tx
theorem empty_true {a : ByteArray} (h : a.data.toList = []) : a = ⟨#[]⟩ := bytes_of h
theorem text_both {l r : ByteArray} (d : ByteArray) (h : l.data.toList ≠ []) (h2 : r.data.toList ≠ []) : Jd.textL (l.data.toList, d.data.toList, r.data.toList) = l.data.toList ++ [64] ++ d.data.toList ++ ([47] ++ r.data.toList) := by
  unfold Jd.textL
  simp only
  rw [if_neg h, if_neg h2]
theorem text_loc {l : ByteArray} (d : ByteArray) (h : l.data.toList ≠ []) : Jd.textL (l.data.toList, d.data.toList, []) = l.data.toList ++ [64] ++ d.data.toList := by
  have e : Jd.textL (l.data.toList, d.data.toList, []) = (if l.data.toList = [] then d.data.toList else l.data.toList ++ [64] ++ d.data.toList) ++ [] := rfl
  rw [e, if_neg h, List.append_nil]
theorem text_res {r : ByteArray} (d : ByteArray) (h2 : r.data.toList ≠ []) : Jd.textL ([], d.data.toList, r.data.toList) = d.data.toList ++ ([47] ++ r.data.toList) := by
  have e : Jd.textL ([], d.data.toList, r.data.toList) = d.data.toList ++ (if r.data.toList = [] then [] else [47] ++ r.data.toList) := rfl
  rw [e, if_neg h2]
theorem text_dom (d : ByteArray) : Jd.textL ([], d.data.toList, []) = d.data.toList := by
  have e : Jd.textL ([], d.data.toList, []) = d.data.toList ++ [] := rfl
  rw [e, List.append_nil]
set_option maxHeartbeats 4000000 in
theorem text_any (l d r : ByteArray) (w : World) (hl : l.size ≤ 1000000) (hd : d.size ≤ 1000000) (hr : r.size ≤ 1000000) :
    Calls Tryz.prog 74 #[.agg #[.string l, .string d, .string r]] w fun e w' => e = .returned (.string (btj (Jd.textL (l.data.toList, d.data.toList, r.data.toList)))) ∧ Below w.heap.size w w' := by
  have hb1 : Below w.heap.size w (w.alloc (.cells #[.string l, .string d, .string r] 85)) := (Below.refl _ w).alloc (Nat.le_refl _) _
  have HB := Lib.hid hb1
  clear hb1
  by_cases h1 : l.data.toList = []
  · obtain rfl := empty_true h1
    by_cases h2 : r.data.toList = []
    · obtain rfl := empty_true h2
      have HF := Lib.hid (text_dom d)
      clear h1 h2
      go_enter Tryz.func74, Tryz.ntmps74
      go_wp2_with fail
      go_ret
      exact ⟨ret_str (bytes_of HF.out.symm), HB.out⟩
    · have e2 := empty_false h2
      have HF := Lib.hid (text_res d h2)
      clear h1 h2
      go_enter Tryz.func74, Tryz.ntmps74
      go_wp2_with fail
      go_ret
      exact ⟨ret_str (bytes_of (by rw [cat_list, cat_list]; exact HF.out.symm)), HB.out⟩
  · have e1 := empty_false h1
    by_cases h2 : r.data.toList = []
    · obtain rfl := empty_true h2
      have HF := Lib.hid (text_loc d h1)
      clear h1 h2
      go_enter Tryz.func74, Tryz.ntmps74
      go_wp2_with fail
      go_ret
      exact ⟨ret_str (bytes_of (by rw [cat_list, cat_list]; exact HF.out.symm)), HB.out⟩
    · have e2 := empty_false h2
      have HF := Lib.hid (text_both d h1 h2)
      clear h1 h2
      go_enter Tryz.func74, Tryz.ntmps74
      go_wp2_with fail
      go_ret
      exact ⟨ret_str (bytes_of (by rw [cat_list, cat_list, cat_list, cat_list]; exact HF.out.symm)), HB.out⟩
theorem jidnV_of {s : Gat} : jidnV s = .tuple #[.agg #[.string (btj s.1.1), .string (btj s.1.2.1), .string (btj s.1.2.2)], .int .i64 (s.2 : Nat)] := rfl
set_option maxHeartbeats 4000000 in
theorem bare_any (s : ByteArray) (w : World) (hO : Okw w) (hs : s.size ≤ 100000000) :
    Calls Tryz.prog 54 #[.string s] w fun e w' => e = .returned (twoV (Jd.bareL s.data.toList)) ∧ Below w.heap.size w w' := by
  have HP := Lib.hid (parse_any s w hO hs)
  obtain ⟨p, hp⟩ : ∃ p, Jd.parseL s.data.toList = p := ⟨_, rfl⟩
  have hlen := Jd.parse_len (s := s.data.toList) (j := p.1)
  have hok := Jd.bare_ok (s := s.data.toList) (j := p.1)
  have hres := Jd.bare_res (s := s.data.toList) (j := p.1)
  have hbad := Jd.bare_bad (s := s.data.toList)
  rw [hp] at HP hlen hok hres hbad
  rw [jidnV_of] at HP
  clear hp hO hs
  obtain ⟨l, hl⟩ : ∃ l, btj p.1.1 = l := ⟨_, rfl⟩
  obtain ⟨d, hd⟩ : ∃ d, btj p.1.2.1 = d := ⟨_, rfl⟩
  obtain ⟨r, hr⟩ : ∃ r, btj p.1.2.2 = r := ⟨_, rfl⟩
  have dl : l.data.toList = p.1.1 := by rw [← hl]
  have dd : d.data.toList = p.1.2.1 := by rw [← hd]
  have dr : r.data.toList = p.1.2.2 := by rw [← hr]
  rw [hl, hd, hr] at HP
  by_cases h0 : p.2 = 0
  · have e0 : p = (p.1, 0) := Prod.ext rfl h0
    obtain ⟨z1, z2, z3⟩ := hlen e0
    rw [h0] at HP
    by_cases h1 : p.1.2.2 = []
    · have HF := Lib.hid (hok e0 h1)
      have hre : r = ⟨#[]⟩ := empty_true (by rw [dr]; exact h1)
      subst hre
      have HT := Lib.hid (fun W => text_any l d ⟨#[]⟩ W (by rw [Lib.size_eq, dl]; omega) (by rw [Lib.size_eq, dd]; omega) (by decide))
      have e3 : (l.data.toList, d.data.toList, (⟨#[]⟩ : ByteArray).data.toList) = p.1 := by rw [dl, dd]; exact Prod.ext rfl (Prod.ext rfl h1.symm)
      rw [e3] at HT
      rw [show twoV (Jd.bareL s.data.toList) = .tuple #[.string (btj (Jd.textL p.1)), .int .i64 0] from by rw [HF.out]; rfl]
      obtain ⟨x, hx⟩ : ∃ x, btj (Jd.textL p.1) = x := ⟨_, rfl⟩
      rw [hx] at HT ⊢
      clear hlen hok hres hbad hl hd hr dl dd dr e0 z1 z2 z3 h0 h1 HF e3 hx
      go_enter Tryz.func54, Tryz.ntmps54
      go_wp2_with fail
      refine HP.out.mono ?_
      rintro e w1 ⟨rfl, b1⟩
      have hb1 : Below w.heap.size w (w1.alloc (.cells #[.string l, .string d, .string ⟨#[]⟩] 85)) := b1.alloc b1.size _
      have B1 := Lib.hid hb1
      clear b1 hb1
      go_wp2_with fail
      refine (HT.out _).mono ?_
      rintro e w2 ⟨rfl, b2⟩
      have B2 := Lib.hid (B1.out.trans (b2.mono B1.out.size))
      clear b2
      go_wp2_with fail
      go_ret2
      exact ⟨rfl, B2.out⟩
    · have HF := Lib.hid (hres e0 h1)
      have hne := empty_false (a := r) (by rw [dr]; exact h1)
      rw [show twoV (Jd.bareL s.data.toList) = .tuple #[.string ⟨#[]⟩, .int .i64 14] from by rw [HF.out]; rfl]
      clear hlen hok hres hbad hl hd hr dl dd dr e0 z1 z2 z3 h0 h1 HF
      go_enter Tryz.func54, Tryz.ntmps54
      go_wp2_with fail
      refine HP.out.mono ?_
      rintro e w1 ⟨rfl, b1⟩
      have hb1 : Below w.heap.size w (w1.alloc (.cells #[.string l, .string d, .string r] 85)) := b1.alloc b1.size _
      have B1 := Lib.hid hb1
      clear b1 hb1
      go_wp2_with fail
      go_ret2
      exact ⟨rfl, B1.out⟩
  · have HF := Lib.hid (hbad h0)
    rw [show twoV (Jd.bareL s.data.toList) = .tuple #[.string ⟨#[]⟩, .int .i64 (p.2 : Nat)] from by rw [HF.out]; rfl]
    obtain ⟨n, hn⟩ : ∃ n : Int, ((p.2 : Nat) : Int) = n := ⟨_, rfl⟩
    rw [hn] at HP ⊢
    have hn0 : n ≠ 0 := by omega
    have hnB : (n != 0) = true := by simpa using hn0
    clear hlen hok hres hbad hl hd hr dl dd dr h0 HF hn
    go_enter Tryz.func54, Tryz.ntmps54
    go_wp2_with fail
    refine HP.out.mono ?_
    rintro e w1 ⟨rfl, b1⟩
    have hb1 : Below w.heap.size w (w1.alloc (.cells #[.string l, .string d, .string r] 85)) := b1.alloc b1.size _
    have B1 := Lib.hid hb1
    clear b1 hb1
    go_wp2_with fail
    go_ret2
    exact ⟨rfl, B1.out⟩
end Go.Proofs.YtogjhpcjjmcjfaaGreatDoor
end
section
/- what is reached of it -/
namespace Go.Proofs.YtogjhpcjjmcjfaaGreatDoor
open Go.RowKit Rg Tx
theorem toList_data (a : ByteArray) : a.toList = a.data.toList := by
  have e : (⟨a.data⟩ : ByteArray).toList = a.data.toList := ByteArray.toList_mk _
  exact e
theorem lt_walk (a b : ByteArray) : Op.bytesLess a.toList b.toList = Jd.ltL a.data.toList b.data.toList := by
  rw [toList_data, toList_data]
  unfold Jd.ltL
  rfl
end Go.Proofs.YtogjhpcjjmcjfaaGreatDoor
end
