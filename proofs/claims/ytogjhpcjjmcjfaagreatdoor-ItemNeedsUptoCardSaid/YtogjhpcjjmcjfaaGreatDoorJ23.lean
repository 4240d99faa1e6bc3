import Derived.Test.YtogjhpcjjmcjfaaGreatDoorJ22
section
/- what is reached of it -/
namespace Go.Proofs.YtogjhpcjjmcjfaaGreatDoor
open Go.RowKit Rg Tx
theorem empty_true {a : ByteArray} (h : a.data.toList = []) : a = ⟨#[]⟩ := bytes_of h
theorem text_both {l r : ByteArray} (d : ByteArray) (h : l.data.toList ≠ []) (h2 : r.data.toList ≠ []) : Jd.textL (l.data.toList, d.data.toList, r.data.toList) = l.data.toList ++ [64] ++ d.data.toList ++ ([47] ++ r.data.toList) := by
  unfold Jd.textL
  simp only
  rw [if_neg h, if_neg h2]
theorem text_loc {l : ByteArray} (d : ByteArray) (h : l.data.toList ≠ []) : Jd.textL (l.data.toList, d.data.toList, []) = l.data.toList ++ [64] ++ d.data.toList := by
  have e : Jd.textL (l.data.toList, d.data.toList, []) = (if l.data.toList = [] then d.data.toList else l.data.toList ++ [64] ++ d.data.toList) ++ [] := rfl
  rw [e, if_neg h, List.append_nil]
theorem text_res {r : ByteArray} (d : ByteArray) (h2 : r.data.toList ≠ []) : Jd.textL ([], d.data.toList, r.data.toList) = d.data.toList ++ ([47] ++ r.data.toList) := by
  have e : Jd.textL ([], d.data.toList, r.data.toList) = d.data.toList ++ (if r.data.toList = [] then [] else [47] ++ r.data.toList) := rfl
  rw [e, if_neg h2]
theorem text_dom (d : ByteArray) : Jd.textL ([], d.data.toList, []) = d.data.toList := by
  have e : Jd.textL ([], d.data.toList, []) = d.data.toList ++ [] := rfl
  rw [e, List.append_nil]
set_option maxHeartbeats 4000000 in
theorem text_any (l d r : ByteArray) (w : World) (hl : l.size ≤ 1000000) (hd : d.size ≤ 1000000) (hr : r.size ≤ 1000000) :
    Calls Tryz.prog 74 #[.agg #[.string l, .string d, .string r]] w fun e w' => e = .returned (.string (btj (Jd.textL (l.data.toList, d.data.toList, r.data.toList)))) ∧ Below w.heap.size w w' := by
  have hb1 : Below w.heap.size w (w.alloc (.cells #[.string l, .string d, .string r] 85)) := (Below.refl _ w).alloc (Nat.le_refl _) _
  have HB := Lib.hid hb1
  clear hb1
  by_cases h1 : l.data.toList = []
  · obtain rfl := empty_true h1
    by_cases h2 : r.data.toList = []
    · obtain rfl := empty_true h2
      have HF := Lib.hid (text_dom d)
      clear h1 h2
      go_enter Tryz.func74, Tryz.ntmps74
      go_wp2_with fail
      go_ret
      exact ⟨ret_str (bytes_of HF.out.symm), HB.out⟩
    · have e2 := empty_false h2
      have HF := Lib.hid (text_res d h2)
      clear h1 h2
      go_enter Tryz.func74, Tryz.ntmps74
      go_wp2_with fail
      go_ret
      exact ⟨ret_str (bytes_of (by rw [cat_list, cat_list]; exact HF.out.symm)), HB.out⟩
  · have e1 := empty_false h1
    by_cases h2 : r.data.toList = []
    · obtain rfl := empty_true h2
      have HF := Lib.hid (text_loc d h1)
      clear h1 h2
      go_enter Tryz.func74, Tryz.ntmps74
      go_wp2_with fail
      go_ret
      exact ⟨ret_str (bytes_of (by rw [cat_list, cat_list]; exact HF.out.symm)), HB.out⟩
    · have e2 := empty_false h2
      have HF := Lib.hid (text_both d h1 h2)
      clear h1 h2
      go_enter Tryz.func74, Tryz.ntmps74
      go_wp2_with fail
      go_ret
      exact ⟨ret_str (bytes_of (by rw [cat_list, cat_list, cat_list, cat_list]; exact HF.out.symm)), HB.out⟩
set_option maxHeartbeats 4000000 in
theorem rtext_any (l d r : ByteArray) (w : World) (hl : l.size ≤ 1000000) (hd : d.size ≤ 1000000) (hr : r.size ≤ 1000000) :
    Calls Tryz.prog 78 #[.agg #[.string l, .string d, .string r]] w fun e w' => e = .returned (.string (btj (Jd.textL (l.data.toList, d.data.toList, r.data.toList)))) ∧ Below w.heap.size w w' := by
  have hb1 : Below w.heap.size w (w.alloc (.cells #[.string l, .string d, .string r] 85)) := (Below.refl _ w).alloc (Nat.le_refl _) _
  have HB := Lib.hid hb1
  clear hb1
  by_cases h1 : l.data.toList = []
  · obtain rfl := empty_true h1
    by_cases h2 : r.data.toList = []
    · obtain rfl := empty_true h2
      have HF := Lib.hid (text_dom d)
      clear h1 h2
      go_enter Tryz.func78, Tryz.ntmps78
      go_wp2_with fail
      go_ret
      exact ⟨ret_str (bytes_of HF.out.symm), HB.out⟩
    · have e2 := empty_false h2
      have HF := Lib.hid (text_res d h2)
      clear h1 h2
      go_enter Tryz.func78, Tryz.ntmps78
      go_wp2_with fail
      go_ret
      exact ⟨ret_str (bytes_of (by rw [cat_list, cat_list, List.append_assoc]; exact HF.out.symm)), HB.out⟩
  · have e1 := empty_false h1
    by_cases h2 : r.data.toList = []
    · obtain rfl := empty_true h2
      have HF := Lib.hid (text_loc d h1)
      clear h1 h2
      go_enter Tryz.func78, Tryz.ntmps78
      go_wp2_with fail
      go_ret
      exact ⟨ret_str (bytes_of (by rw [cat_list, cat_list]; exact HF.out.symm)), HB.out⟩
    · have e2 := empty_false h2
      have HF := Lib.hid (text_both d h1 h2)
      clear h1 h2
      go_enter Tryz.func78, Tryz.ntmps78
      go_wp2_with fail
      go_ret
      exact ⟨ret_str (bytes_of (by rw [cat_list, cat_list, cat_list, cat_list, List.append_assoc (l.data.toList ++ [64] ++ d.data.toList)]; exact HF.out.symm)), HB.out⟩
theorem jidnV_of {s : Gat} : jidnV s = .tuple #[.agg #[.string (btj s.1.1), .string (btj s.1.2.1), .string (btj s.1.2.2)], .int .i64 (s.2 : Nat)] := rfl
set_option maxHeartbeats 4000000 in
theorem bare_any (s : ByteArray) (w : World) (hO : Okw w) (hs : s.size ≤ 100000000) :
    Calls Tryz.prog 54 #[.string s] w fun e w' => e = .returned (twoV (Jd.bareL s.data.toList)) ∧ Below w.heap.size w w' := by
  have HP := Lib.hid (parse_any s w hO hs)
  obtain ⟨p, hp⟩ : ∃ p, Jd.parseL s.data.toList = p := ⟨_, rfl⟩
  have hlen := Jd.parse_len (s := s.data.toList) (j := p.1)
  have hok := Jd.bare_ok (s := s.data.toList) (j := p.1)
  have hres := Jd.bare_res (s := s.data.toList) (j := p.1)
  have hbad := Jd.bare_bad (s := s.data.toList)
  rw [hp] at HP hlen hok hres hbad
  rw [jidnV_of] at HP
  clear hp hO hs
  obtain ⟨l, hl⟩ : ∃ l, btj p.1.1 = l := ⟨_, rfl⟩
  obtain ⟨d, hd⟩ : ∃ d, btj p.1.2.1 = d := ⟨_, rfl⟩
  obtain ⟨r, hr⟩ : ∃ r, btj p.1.2.2 = r := ⟨_, rfl⟩
  have dl : l.data.toList = p.1.1 := by rw [← hl]
  have dd : d.data.toList = p.1.2.1 := by rw [← hd]
  have dr : r.data.toList = p.1.2.2 := by rw [← hr]
  rw [hl, hd, hr] at HP
  by_cases h0 : p.2 = 0
  · have e0 : p = (p.1, 0) := Prod.ext rfl h0
    obtain ⟨z1, z2, z3⟩ := hlen e0
    rw [h0] at HP
    by_cases h1 : p.1.2.2 = []
    · have HF := Lib.hid (hok e0 h1)
      have hre : r = ⟨#[]⟩ := empty_true (by rw [dr]; exact h1)
      subst hre
      have HT := Lib.hid (fun W => text_any l d ⟨#[]⟩ W (by rw [Lib.size_eq, dl]; omega) (by rw [Lib.size_eq, dd]; omega) (by decide))
      have e3 : (l.data.toList, d.data.toList, (⟨#[]⟩ : ByteArray).data.toList) = p.1 := by rw [dl, dd]; exact Prod.ext rfl (Prod.ext rfl h1.symm)
      rw [e3] at HT
      rw [show twoV (Jd.bareL s.data.toList) = .tuple #[.string (btj (Jd.textL p.1)), .int .i64 0] from by rw [HF.out]; rfl]
      obtain ⟨x, hx⟩ : ∃ x, btj (Jd.textL p.1) = x := ⟨_, rfl⟩
      rw [hx] at HT ⊢
      clear hlen hok hres hbad hl hd hr dl dd dr e0 z1 z2 z3 h0 h1 HF e3 hx
      go_enter Tryz.func54, Tryz.ntmps54
      go_wp2_with fail
      refine HP.out.mono ?_
      rintro e w1 ⟨rfl, b1⟩
      have hb1 : Below w.heap.size w (w1.alloc (.cells #[.string l, .string d, .string ⟨#[]⟩] 85)) := b1.alloc b1.size _
      have B1 := Lib.hid hb1
      clear b1 hb1
      go_wp2_with fail
      refine (HT.out _).mono ?_
      rintro e w2 ⟨rfl, b2⟩
      have B2 := Lib.hid (B1.out.trans (b2.mono B1.out.size))
      clear b2
      go_wp2_with fail
      go_ret2
      exact ⟨rfl, B2.out⟩
    · have HF := Lib.hid (hres e0 h1)
      have hne := empty_false (a := r) (by rw [dr]; exact h1)
      rw [show twoV (Jd.bareL s.data.toList) = .tuple #[.string ⟨#[]⟩, .int .i64 14] from by rw [HF.out]; rfl]
      clear hlen hok hres hbad hl hd hr dl dd dr e0 z1 z2 z3 h0 h1 HF
      go_enter Tryz.func54, Tryz.ntmps54
      go_wp2_with fail
      refine HP.out.mono ?_
      rintro e w1 ⟨rfl, b1⟩
      have hb1 : Below w.heap.size w (w1.alloc (.cells #[.string l, .string d, .string r] 85)) := b1.alloc b1.size _
      have B1 := Lib.hid hb1
      clear b1 hb1
      go_wp2_with fail
      go_ret2
      exact ⟨rfl, B1.out⟩
  · have HF := Lib.hid (hbad h0)
    rw [show twoV (Jd.bareL s.data.toList) = .tuple #[.string ⟨#[]⟩, .int .i64 (p.2 : Nat)] from by rw [HF.out]; rfl]
    obtain ⟨n, hn⟩ : ∃ n : Int, ((p.2 : Nat) : Int) = n := ⟨_, rfl⟩
    rw [hn] at HP ⊢
    have hn0 : n ≠ 0 := by omega
    have hnB : (n != 0) = true := by simpa using hn0
    clear hlen hok hres hbad hl hd hr dl dd dr h0 HF hn
    go_enter Tryz.func54, Tryz.ntmps54
    go_wp2_with fail
    refine HP.out.mono ?_
    rintro e w1 ⟨rfl, b1⟩
    have hb1 : Below w.heap.size w (w1.alloc (.cells #[.string l, .string d, .string r] 85)) := b1.alloc b1.size _
    have B1 := Lib.hid hb1
    clear b1 hb1
    go_wp2_with fail
    go_ret2
    exact ⟨rfl, B1.out⟩
end Go.Proofs.YtogjhpcjjmcjfaaGreatDoor
end
section
/- what is reached of it -/
namespace Go.Proofs.YtogjhpcjjmcjfaaGreatDoor
open Go.RowKit Rg Tx
theorem toList_data (a : ByteArray) : a.toList = a.data.toList := by
  have e : (⟨a.data⟩ : ByteArray).toList = a.data.toList := ByteArray.toList_mk _
  exact e
theorem lt_walk (a b : ByteArray) : Op.bytesLess a.toList b.toList = Jd.ltL a.data.toList b.data.toList := by
  rw [toList_data, toList_data]
  unfold Jd.ltL
  rfl
theorem cut_here {c : UInt8} : ∀ {l : List UInt8} {k : Nat} (hk : k < l.length), (∀ j (h : j < k), (l[j]'(by omega)) ≠ c) → l[k] = c → Jd.cutB c l = (l.take k, l.drop (k + 1), true)
  | [], _, hk, _, _ => absurd hk (by simp)
  | b :: l, 0, _, _, h => by
    have : b = c := h
    unfold Jd.cutB
    rw [if_pos this]
    rfl
  | b :: l, k + 1, hk, hn, h => by
    have h1 : b ≠ c := hn 0 (by omega)
    have ih := cut_here (c := c) (l := l) (k := k) (by simpa using hk) (fun j hj => hn (j + 1) (by omega)) (by simpa using h)
    unfold Jd.cutB
    rw [if_neg h1, ih]
    rfl
set_option maxHeartbeats 2000000 in
theorem rcut_any (c : UInt8) (C : Int) (hC : C = (c.toNat : Int)) (s : ByteArray) (w : World) (hs : s.size ≤ 1000000000) :
    Calls Tryz.prog 72 #[.string s, .int .u8 C] w fun e w' => e = .returned (cutV (Jd.cutB c s.data.toList)) ∧ Below w.heap.size w w' := by
  have hsz := Lib.size_eq s
  have HN := Lib.hid (fun (h : ∀ j (h : j < s.size), (s[j]'h) ≠ c) => Jd.cutB_none (c := c) (l := s.data.toList) (fun hm => by
    obtain ⟨j, hj, hx⟩ := List.getElem_of_mem hm
    exact h j (by omega) hx))
  have HH := Lib.hid (fun (k : Nat) (hk : k < s.size) (h : ∀ j (h : j < k), (s[j]'(Nat.lt_trans h hk)) ≠ c) (h2 : s[k] = c) => cut_here (c := c) (l := s.data.toList) (k := k) (by omega) (fun j hj => h j hj) h2)
  have HCC := Lib.hid hC
  have HSZ := Lib.hid hsz
  clear hsz hC
  go_enter Tryz.func72, Tryz.ntmps72
  go_wp2_with fail
  go_loop [7] (fun i => ∃ (k : Nat), k ≤ s.size ∧ i = .int .i64 k ∧ Hid (∀ j (h : j < k) (h2 : j < s.size), (s[j]'h2) ≠ c)) (fun i => s.size - (intOf i).toNat)
  case atStart => exact ⟨0, Nat.zero_le _, rfl, Lib.hid (fun j h => absurd h (Nat.not_lt_zero _))⟩
  case round =>
    obtain ⟨k, hk, rfl, hno⟩ := hrel
    by_cases hlt : k < s.size
    · by_cases he : s[k] = c
      · have hf := Lib.hid (HH.out k hlt (fun j hj => hno.out j hj (by omega)) he)
        have hb : ((s[k].toNat : Int) == C) = true := by rw [HCC.out, he]; simp
        have HF : Hid (cutV (Jd.cutB c s.data.toList) = .tuple #[.string (s.extract 0 k), .string (s.extract (k + 1) s.size), .bool true]) := by
          have e1 : s.extract 0 k = btj (s.data.toList.take k) := bytes_of (by rw [mid_cut]; simp)
          have e2 : s.extract (k + 1) s.size = btj (s.data.toList.drop (k + 1)) := bytes_of (Lib.extract_to_end s (k + 1))
          unfold Hid
          rw [hf.out, cutV_bts, e1, e2]
        clear hf he
        go_wp2_with fail
        go_region
        all_goals
          go_wp2_with fail
          go_ret3
          exact ⟨by rw [HF.out]; rfl, (Below.refl _ _).drew⟩
      · have hb : ((s[k].toNat : Int) == C) = false := by
          rw [HCC.out]
          simp only [beq_eq_false_iff_ne, ne_eq]
          intro e
          exact he (UInt8.toNat_inj.1 (by omega))
        have hno2 : Hid (∀ j (h : j < k + 1) (h2 : j < s.size), (s[j]'h2) ≠ c) := Lib.hid (fun j hj h2 => by
          rcases Nat.lt_or_ge j k with h | h
          · exact hno.out j h h2
          · obtain rfl : j = k := by omega
            exact he)
        clear he
        go_wp2_with fail
        go_round
        case rel => exact ⟨k + 1, by omega, by go_num, hno2⟩
        case measure => simp [intOf]; omega
    · have hke : k = s.size := by omega
      have hf := Lib.hid (HN.out (fun j hj => hno.out j (by omega) hj))
      clear hke
      go_wp2_with fail
      go_ret3
      exact ⟨by rw [hf.out]; rfl, Below.refl _ _⟩
theorem half_cut (l : List UInt8) : Jd.halfL l = if (Jd.cutB 64 l).2.2 then Jd.cutB 64 l else ([], l, false) := rfl
end Go.Proofs.YtogjhpcjjmcjfaaGreatDoor
end
