import Derived.Test.YtfbdnaclkfmiaaaGreatDoorG21
import Derived.Test.YtfbdnaclkfmiaaaGreatDoorG36
section
/- what is reached of it -/
namespace Go.Proofs.YtfbdnaclkfmiaaaGreatDoor
open Go.RowKit Rg Tx
theorem empty_true {a : ByteArray} (h : a.data.toList = []) : a = ⟨#[]⟩ := bytes_of h
theorem text_both {l r : ByteArray} (d : ByteArray) (h : l.data.toList ≠ []) (h2 : r.data.toList ≠ []) : Jd.textL (l.data.toList, d.data.toList, r.data.toList) = l.data.toList ++ [64] ++ d.data.toList ++ ([47] ++ r.data.toList) := by
  unfold Jd.textL
  simp only
  rw [if_neg h, if_neg h2]
theorem text_loc {l : ByteArray} (d : ByteArray) (h : l.data.toList ≠ []) : Jd.textL (l.data.toList, d.data.toList, []) = l.data.toList ++ [64] ++ d.data.toList := by
  have e : Jd.textL (l.data.toList, d.data.toList, []) = (if l.data.toList = [] then d.data.toList else l.data.toList ++ [64] ++ d.data.toList) ++ [] := rfl
  rw [e, if_neg h, List.append_nil]
theorem text_res {r : ByteArray} (d : ByteArray) (h2 : r.data.toList ≠ []) : Jd.textL ([], d.data.toList, r.data.toList) = d.data.toList ++ ([47] ++ r.data.toList) := by
  have e : Jd.textL ([], d.data.toList, r.data.toList) = d.data.toList ++ (if r.data.toList = [] then [] else [47] ++ r.data.toList) := rfl
  rw [e, if_neg h2]
theorem text_dom (d : ByteArray) : Jd.textL ([], d.data.toList, []) = d.data.toList := by
  have e : Jd.textL ([], d.data.toList, []) = d.data.toList ++ [] := rfl
  rw [e, List.append_nil]
set_option maxHeartbeats 4000000 in
theorem text_any (l d r : ByteArray) (w : World) (hl : l.size ≤ 1000000) (hd : d.size ≤ 1000000) (hr : r.size ≤ 1000000) :
    Calls Tryz.prog 124 #[.agg #[.string l, .string d, .string r]] w fun e w' => e = .returned (.string (btj (Jd.textL (l.data.toList, d.data.toList, r.data.toList)))) ∧ Below w.heap.size w w' := by
  have hb1 : Below w.heap.size w (w.alloc (.cells #[.string l, .string d, .string r] 139)) := (Below.refl _ w).alloc (Nat.le_refl _) _
  have HB := Lib.hid hb1
  clear hb1
  by_cases h1 : l.data.toList = []
  · obtain rfl := empty_true h1
    by_cases h2 : r.data.toList = []
    · obtain rfl := empty_true h2
      have HF := Lib.hid (text_dom d)
      clear h1 h2
      go_enter Tryz.func124, Tryz.ntmps124
      go_wp2_with fail
      go_ret
      exact ⟨ret_str (bytes_of HF.out.symm), HB.out⟩
    · have e2 := empty_false h2
      have HF := Lib.hid (text_res d h2)
      clear h1 h2
      go_enter Tryz.func124, Tryz.ntmps124
      go_wp2_with fail
      go_ret
      exact ⟨ret_str (bytes_of (by rw [cat_list, cat_list]; exact HF.out.symm)), HB.out⟩
  · have e1 := empty_false h1
    by_cases h2 : r.data.toList = []
    · obtain rfl := empty_true h2
      have HF := Lib.hid (text_loc d h1)
      clear h1 h2
      go_enter Tryz.func124, Tryz.ntmps124
      go_wp2_with fail
      go_ret
      exact ⟨ret_str (bytes_of (by rw [cat_list, cat_list]; exact HF.out.symm)), HB.out⟩
    · have e2 := empty_false h2
      have HF := Lib.hid (text_both d h1 h2)
      clear h1 h2
      go_enter Tryz.func124, Tryz.ntmps124
      go_wp2_with fail
      go_ret
      exact ⟨ret_str (bytes_of (by rw [cat_list, cat_list, cat_list, cat_list]; exact HF.out.symm)), HB.out⟩
theorem jidnV_of {s : Gat} : jidnV s = .tuple #[.agg #[.string (btj s.1.1), .string (btj s.1.2.1), .string (btj s.1.2.2)], .int .i64 (s.2 : Nat)] := rfl
set_option maxHeartbeats 4000000 in
theorem bare_any (s : ByteArray) (w : World) (hO : Okw w) (hs : s.size ≤ 100000000) :
    Calls Tryz.prog 95 #[.string s] w fun e w' => e = .returned (twoV (Jd.bareL s.data.toList)) ∧ Below w.heap.size w w' := by
  have HP := Lib.hid (parse_any s w hO hs)
  obtain ⟨p, hp⟩ : ∃ p, Jd.parseL s.data.toList = p := ⟨_, rfl⟩
  have hlen := Jd.parse_len (s := s.data.toList) (j := p.1)
  have hok := Jd.bare_ok (s := s.data.toList) (j := p.1)
  have hres := Jd.bare_res (s := s.data.toList) (j := p.1)
  have hbad := Jd.bare_bad (s := s.data.toList)
  rw [hp] at HP hlen hok hres hbad
  rw [jidnV_of] at HP
  clear hp hO hs
  obtain ⟨l, hl⟩ : ∃ l, btj p.1.1 = l := ⟨_, rfl⟩
  obtain ⟨d, hd⟩ : ∃ d, btj p.1.2.1 = d := ⟨_, rfl⟩
  obtain ⟨r, hr⟩ : ∃ r, btj p.1.2.2 = r := ⟨_, rfl⟩
  have dl : l.data.toList = p.1.1 := by rw [← hl]
  have dd : d.data.toList = p.1.2.1 := by rw [← hd]
  have dr : r.data.toList = p.1.2.2 := by rw [← hr]
  rw [hl, hd, hr] at HP
  by_cases h0 : p.2 = 0
  · have e0 : p = (p.1, 0) := Prod.ext rfl h0
    obtain ⟨z1, z2, z3⟩ := hlen e0
    rw [h0] at HP
    by_cases h1 : p.1.2.2 = []
    · have HF := Lib.hid (hok e0 h1)
      have hre : r = ⟨#[]⟩ := empty_true (by rw [dr]; exact h1)
      subst hre
      have HT := Lib.hid (fun W => text_any l d ⟨#[]⟩ W (by rw [Lib.size_eq, dl]; omega) (by rw [Lib.size_eq, dd]; omega) (by decide))
      have e3 : (l.data.toList, d.data.toList, (⟨#[]⟩ : ByteArray).data.toList) = p.1 := by rw [dl, dd]; exact Prod.ext rfl (Prod.ext rfl h1.symm)
      rw [e3] at HT
      rw [show twoV (Jd.bareL s.data.toList) = .tuple #[.string (btj (Jd.textL p.1)), .int .i64 0] from by rw [HF.out]; rfl]
      obtain ⟨x, hx⟩ : ∃ x, btj (Jd.textL p.1) = x := ⟨_, rfl⟩
      rw [hx] at HT ⊢
      clear hlen hok hres hbad hl hd hr dl dd dr e0 z1 z2 z3 h0 h1 HF e3 hx
      go_enter Tryz.func95, Tryz.ntmps95
      go_wp2_with fail
      refine HP.out.mono ?_
      rintro e w1 ⟨rfl, b1⟩
      have hb1 : Below w.heap.size w (w1.alloc (.cells #[.string l, .string d, .string ⟨#[]⟩] 139)) := b1.alloc b1.size _
      have B1 := Lib.hid hb1
      clear b1 hb1
      go_wp2_with fail
      refine (HT.out _).mono ?_
      rintro e w2 ⟨rfl, b2⟩
      have B2 := Lib.hid (B1.out.trans (b2.mono B1.out.size))
      clear b2
      go_wp2_with fail
      go_ret2
      exact ⟨rfl, B2.out⟩
    · have HF := Lib.hid (hres e0 h1)
      have hne := empty_false (a := r) (by rw [dr]; exact h1)
      rw [show twoV (Jd.bareL s.data.toList) = .tuple #[.string ⟨#[]⟩, .int .i64 14] from by rw [HF.out]; rfl]
      clear hlen hok hres hbad hl hd hr dl dd dr e0 z1 z2 z3 h0 h1 HF
      go_enter Tryz.func95, Tryz.ntmps95
      go_wp2_with fail
      refine HP.out.mono ?_
      rintro e w1 ⟨rfl, b1⟩
      have hb1 : Below w.heap.size w (w1.alloc (.cells #[.string l, .string d, .string r] 139)) := b1.alloc b1.size _
      have B1 := Lib.hid hb1
      clear b1 hb1
      go_wp2_with fail
      go_ret2
      exact ⟨rfl, B1.out⟩
  · have HF := Lib.hid (hbad h0)
    rw [show twoV (Jd.bareL s.data.toList) = .tuple #[.string ⟨#[]⟩, .int .i64 (p.2 : Nat)] from by rw [HF.out]; rfl]
    obtain ⟨n, hn⟩ : ∃ n : Int, ((p.2 : Nat) : Int) = n := ⟨_, rfl⟩
    rw [hn] at HP ⊢
    have hn0 : n ≠ 0 := by omega
    have hnB : (n != 0) = true := by simpa using hn0
    clear hlen hok hres hbad hl hd hr dl dd dr h0 HF hn
    go_enter Tryz.func95, Tryz.ntmps95
    go_wp2_with fail
    refine HP.out.mono ?_
    rintro e w1 ⟨rfl, b1⟩
    have hb1 : Below w.heap.size w (w1.alloc (.cells #[.string l, .string d, .string r] 139)) := b1.alloc b1.size _
    have B1 := Lib.hid hb1
    clear b1 hb1
    go_wp2_with fail
    go_ret2
    exact ⟨rfl, B1.out⟩
end Go.Proofs.YtfbdnaclkfmiaaaGreatDoor
end
section
/- what is reached of it -/
namespace Go.Proofs.YtfbdnaclkfmiaaaGreatDoor
open Go.RowKit Vc Ct
theorem emptyB {l : List UInt8} : (bts l).toList.isEmpty = decide (l = []) := by
  rw [ByteArray.toList_mk]
  cases l <;> rfl
/-- What becomes of a contact that something was put into: what was wrong; where nothing was, its cells; all other blocks as they were. -/
def PutE (g : Nat) (r : Nat × Con) (gv o : Value) (W : World) (e : Ending) (W' : World) : Prop := e = .returned (.int .i64 (r.1 : Nat)) ∧ (r.1 = 0 → Bk W' g 25 (conCells r.2 gv o)) ∧ W.grownBy W' (some g)
set_option maxHeartbeats 2000000 in
theorem putJid_any (g h cap : Nat) (c : Con) (gv o : Value) (x : List UInt8) (W : World) (hO : Okw W) (hk : Bk W g 25 (conCells c gv o)) (hx : W.cell? ⟨h, 0, none⟩ = some (.string (bts x))) (hs : x.length ≤ 1000000) :
    Calls Tryz.prog 69 #[.pointer (some ⟨g, 0, none⟩), .slice (some ⟨h, 0, none⟩) 1 cap] W (PutE g ((Jd.bareL x).2, { c with jid := (Jd.bareL x).1 }) gv o W) := by
  have HB := Lib.hid (bare_any (bts x) W hO (by rw [Lib.size_eq]; show x.length ≤ _; omega))
  unfold twoV at HB
  rw [show (bts x).data.toList = x from rfl] at HB
  obtain ⟨r, hr⟩ : ∃ r, Jd.bareL x = r := ⟨_, rfl⟩
  rw [hr] at HB ⊢
  obtain ⟨X, hX⟩ : ∃ X, bts x = X := ⟨_, rfl⟩
  obtain ⟨Y, hY⟩ : ∃ X, (⟨r.1.toArray⟩ : ByteArray) = X := ⟨_, rfl⟩
  have HY := Lib.hid hY
  rw [hX] at hx HB
  rw [hY] at HB
  have HK := Lib.hid hk
  clear hO hk hr hX hY
  go_enter Tryz.func69, Tryz.ntmps69
  go_wp2_with fail
  refine HB.out.mono ?_
  rintro e w1 ⟨rfl, b1⟩
  have B1 := Lib.hid b1
  have k1 := HK.out.below b1 HK.out.lt
  have K1 := Lib.hid k1
  have hfz : w1.frozen? ⟨g, 4, none⟩ = false := k1.free 4
  have hcl : w1.cell? ⟨g, 4, none⟩ = some (.string (bts c.jid)) := k1.cell 4
  clear b1 k1
  go_wp2_with fail
  go_ret
  have k9 := K1.out.put 4 (.string Y)
  refine ⟨rfl, fun _ => ?_, ?_⟩
  · rw [← HY.out] at k9 ⊢
    exact k9
  · exact gtrans (row := some g) ⟨B1.out.os, B1.out.tape, B1.out.output, B1.out.size, fun i hi _ => B1.out.block i hi⟩ (grown_set _)
end Go.Proofs.YtfbdnaclkfmiaaaGreatDoor
end
section
/- what is reached of it -/
namespace Go.Proofs.YtfbdnaclkfmiaaaGreatDoor
open Go.RowKit Vc Ct
theorem five_of_len {xs : List (List UInt8)} (h : xs.length = 5) : ∃ a b c d e, xs = [a, b, c, d, e] := by
  match xs, h with
  | [a, b, c, d, e], _ => exact ⟨a, b, c, d, e, rfl⟩
set_option maxHeartbeats 4000000 in
theorem putNames_any (g h cap : Nat) (c : Con) (gv o : Value) (xs : List (List UInt8)) (n : Nat) (hn : xs.length = n) (hnb : n ≤ 1000000) (W : World) (hk : Bk W g 25 (conCells c gv o)) (hx : ∀ j x, xs[j]? = some x → W.cell? ⟨h, j, none⟩ = some (.string (bts x))) (hne : h ≠ g) :
    Calls Tryz.prog 66 #[.pointer (some ⟨g, 0, none⟩), .slice (some ⟨h, 0, none⟩) n cap] W (PutE g (fiveC c xs) gv o W) := by
  have HK := Lib.hid hk
  by_cases h5 : n = 5
  · subst h5
    obtain ⟨x0, x1, x2, x3, x4, rfl⟩ := five_of_len hn
    have c0 : W.cell? ⟨h, 0, none⟩ = some (.string (bts x0)) := hx 0 _ rfl
    have c1 : W.cell? ⟨h, 1, none⟩ = some (.string (bts x1)) := hx 1 _ rfl
    have c2 : W.cell? ⟨h, 2, none⟩ = some (.string (bts x2)) := hx 2 _ rfl
    have c3 : W.cell? ⟨h, 3, none⟩ = some (.string (bts x3)) := hx 3 _ rfl
    have c4 : W.cell? ⟨h, 4, none⟩ = some (.string (bts x4)) := hx 4 _ rfl
    have e2 := emptyB (l := x2)
    have e3 := emptyB (l := x3)
    have e4 := emptyB (l := x4)
    obtain ⟨X0, hX0⟩ : ∃ X, bts x0 = X := ⟨_, rfl⟩
    obtain ⟨X1, hX1⟩ : ∃ X, bts x1 = X := ⟨_, rfl⟩
    obtain ⟨X2, hX2⟩ : ∃ X, bts x2 = X := ⟨_, rfl⟩
    obtain ⟨X3, hX3⟩ : ∃ X, bts x3 = X := ⟨_, rfl⟩
    obtain ⟨X4, hX4⟩ : ∃ X, bts x4 = X := ⟨_, rfl⟩
    have H0 := Lib.hid hX0
    have H1 := Lib.hid hX1
    rw [hX0] at c0
    rw [hX1] at c1
    rw [hX2] at c2 e2
    rw [hX3] at c3 e3
    rw [hX4] at c4 e4
    have HR : Hid (¬ (x2 = [] ∧ x3 = [] ∧ x4 = []) → fiveC c [x0, x1, x2, x3, x4] = (12, c)) := fun hh => five_ok (fun a b e => hh (by
      injection e with _ e
      injection e with _ e
      injection e with e2 e
      injection e with e3 e
      injection e with e4 e
      exact ⟨e2, e3, e4⟩))
    clear hx hX0 hX1 hX2 hX3 hX4 hk hn hnb
    by_cases h2 : x2 = []
    · rw [decide_eq_true h2] at e2
      by_cases h3 : x3 = []
      · rw [decide_eq_true h3] at e3
        by_cases h4 : x4 = []
        · rw [decide_eq_true h4] at e4
          subst h2 h3 h4
          have k1 := HK.out
          have f1 : W.frozen? ⟨g, 1, none⟩ = false := k1.free 1
          have f2 : W.frozen? ⟨g, 2, none⟩ = false := k1.free 2
          have g1 : W.cell? ⟨g, 1, none⟩ = some (.string (bts c.family)) := k1.cell 1
          have g2 : W.cell? ⟨g, 2, none⟩ = some (.string (bts c.given)) := k1.cell 2
          have hne2 : g ≠ h := fun e => hne e.symm
          clear k1 HR
          go_enter Tryz.func66, Tryz.ntmps66
          go_wp2_with fail
          go_region
          go_wp2_with fail
          go_ret
          have k9 := (HK.out.put 1 (.string X0)).put 2 (.string X1)
          have e9 : ((conCells c gv o).setIfInBounds 1 (.string X0)).setIfInBounds 2 (.string X1) = conCells { c with family := x0, given := x1 } gv o := by rw [← H0.out, ← H1.out]; rfl
          rw [e9] at k9
          refine ⟨rfl, fun _ => k9, ?_⟩
          have d := gtrans (grown_set (w := W) (b := g) (o := 1) (.string X0)) (grown_set (b := g) (o := 2) (.string X1))
          exact ⟨d.os, d.tape, d.output, d.size, d.block⟩
        · rw [decide_eq_false h4] at e4
          have HF := Lib.hid (HR.out (fun hh => h4 hh.2.2))
          clear h2 h3 h4 HR
          go_enter Tryz.func66, Tryz.ntmps66
          go_wp2_with fail
          go_ret
          rw [HF.out]
          exact ⟨rfl, fun e => absurd e (show ¬ (12 : Nat) = 0 by decide), grown_self _ _⟩
      · rw [decide_eq_false h3] at e3
        have HF := Lib.hid (HR.out (fun hh => h3 hh.2.1))
        clear h2 h3 HR e4
        go_enter Tryz.func66, Tryz.ntmps66
        go_wp2_with fail
        go_ret
        rw [HF.out]
        exact ⟨rfl, fun e => absurd e (show ¬ (12 : Nat) = 0 by decide), grown_self _ _⟩
    · rw [decide_eq_false h2] at e2
      have HF := Lib.hid (HR.out (fun hh => h2 hh.1))
      clear h2 HR e3 e4
      go_enter Tryz.func66, Tryz.ntmps66
      go_wp2_with fail
      go_ret
      rw [HF.out]
      exact ⟨rfl, fun e => absurd e (show ¬ (12 : Nat) = 0 by decide), grown_self _ _⟩
  · have HF : Hid (fiveC c xs = (12, c)) := five_ok (fun a b e => h5 (by rw [← hn, e]; rfl))
    have hz : (((n : Nat) : Int) != 5) = true := by simp; omega
    clear hx hk hn
    go_enter Tryz.func66, Tryz.ntmps66
    go_wp2_with fail
    go_ret
    rw [HF.out]
    exact ⟨rfl, fun e => absurd e (show ¬ (12 : Nat) = 0 by decide), grown_self _ _⟩
end Go.Proofs.YtfbdnaclkfmiaaaGreatDoor
end
