import Derived.Test.YtfbdnaclkfmiaaaGreatDoorG25
/- what is reached of it -/
namespace Go.Proofs.YtfbdnaclkfmiaaaGreatDoor
open Go.RowKit Vc
/-- Four cells stored one by one. -/
abbrev four (g : Nat) (w : World) (a b c d : Value) : World := (((w.setCell ⟨g, 0, none⟩ a).setCell ⟨g, 1, none⟩ b).setCell ⟨g, 2, none⟩ c).setCell ⟨g, 3, none⟩ d
theorem Bk.four {w : World} {g : Nat} {t : TypeId} {cs : Array Value} (h : Bk w g t cs) (hc : ∃ x0 x1 x2 x3, cs = #[x0, x1, x2, x3]) (a b c d : Value) : Bk (four g w a b c d) g t #[a, b, c, d] := by
  obtain ⟨x0, x1, x2, x3, rfl⟩ := hc
  have := (((h.put 0 a).put 1 b).put 2 c).put 3 d
  simpa using this
theorem below_four {B g : Nat} {w0 w : World} (h : Below B w0 w) (hg : B ≤ g) (a b c d : Value) : Below B w0 (four g w a b c d) :=
  (((h.setCell (p := ⟨g, 0, none⟩) hg a).setCell (p := ⟨g, 1, none⟩) hg b).setCell (p := ⟨g, 2, none⟩) hg c).setCell (p := ⟨g, 3, none⟩) hg d
theorem OwnA.four {B g : Nat} {w : World} {v : Value} {l : List Att} {cs : Array Value} {t : TypeId} (h : OwnA B w v l) (hb : Bk w g t cs) (ht : t ≠ 48) (a b c d : Value) : OwnA B (four g w a b c d) v l := by
  have h1 := h.stored hb ht 0 a
  have b1 := hb.put 0 a
  have h2 := h1.stored b1 ht 1 b
  have b2 := b1.put 1 b
  have h3 := h2.stored b2 ht 2 c
  have b3 := b2.put 2 c
  exact h3.stored b3 ht 3 d
/-- What a property's call answers. -/
def PropV (B : Nat) (l : List UInt8) (e : Ending) (w' : World) : Prop :=
  (∃ (p : Pr) (u : Value), e = .returned (.tuple #[agP p u, .bool true]) ∧ propL l = some p ∧ OwnA B w' u p.2.2.1 ∧ p.1.length ≤ l.length ∧ p.2.1.length ≤ l.length ∧ p.2.2.2.length ≤ l.length ∧ p.2.2.1.length ≤ l.length) ∨ (propL l = none ∧ e = .returned (.tuple #[.agg #[.string ⟨#[]⟩, .string ⟨#[]⟩, .slice none 0 0, .string ⟨#[]⟩], .bool false]))
theorem pars_names (l : List UInt8) : parsF (l.length + 1) [] (namesL l).2.2 = parsF ((namesL l).2.2.length + 1) [] (namesL l).2.2 :=
  pars_fuel (l.length + 1) ((namesL l).2.2.length + 1) (namesL l).2.2 [] (by have := names_le l; omega) (by omega)
theorem prop_name {l : List UInt8} (h : (namesL l).2.1 = []) : propL l = none := by
  unfold propL
  rw [head_names, if_pos (by simp only [h]; rfl)]
theorem prop_pars {l : List UInt8} (h : parsF ((namesL l).2.2.length + 1) [] (namesL l).2.2 = none) : propL l = none := by
  unfold propL
  split
  · rfl
  · rw [head_names]
    simp only
    rw [pars_names, h]
theorem prop_end {l t : List UInt8} {ps : List Par} (h : parsF ((namesL l).2.2.length + 1) [] (namesL l).2.2 = some (ps, t)) (ht : t.head? ≠ some 58) : propL l = none := by
  unfold propL
  split
  · rfl
  · rw [head_names]
    simp only
    rw [pars_names, h]
    split
    · rename_i e
      injection e with e
      injection e with e1 e2
      subst e2
      exact absurd rfl ht
    · rfl
theorem prop_yes {l v : List UInt8} {ps : List Par} (h : parsF ((namesL l).2.2.length + 1) [] (namesL l).2.2 = some (ps, 58 :: v)) (hn : (namesL l).2.1 ≠ []) : propL l = some ((namesL l).1, up (namesL l).2.1, ps, v) := by
  unfold propL
  rw [head_names, if_neg (by intro e; apply hn; unfold up at e; simpa using e)]
  simp only
  rw [pars_names, h]
  rfl
theorem names_wc (l : List UInt8) : ∀ c ∈ (namesL l).2.1, wc c = true := by
  unfold namesL
  split
  · exact while_wc _
  · exact while_wc _
set_option maxHeartbeats 4000000 in
set_option maxRecDepth 100000 in
/-- vcard.property -/
theorem property_any (s : ByteArray) (w : World) (hM : MaxL w) (hs : s.size ≤ 1000000000) :
    Calls Tryz.prog 224 #[.string s] w fun e w' => PropV w.heap.size s.data.toList e w' ∧ Below w.heap.size w w' := by
  obtain ⟨l, hl⟩ : ∃ l, s.data.toList = l := ⟨_, rfl⟩
  have hsz := Lib.size_eq s
  have HN := Lib.hid (fun (W : World) => names_any s W hs)
  rw [hl] at hsz HN ⊢
  have hle := names_le l
  have HM := Lib.hid hM
  obtain ⟨R, hR⟩ : ∃ R, bts (namesL l).2.2 = R := ⟨_, rfl⟩
  have hRs : R.size ≤ 1000000000 := by rw [← hR, bts_size]; omega
  have HP := Lib.hid (fun (W : World) (h : Below w.heap.size w W) => parameters_any R W (HM.out.below h) hRs)
  have HRL : Hid (R.data.toList = (namesL l).2.2) := by rw [← hR]; rfl
  have HLE := Lib.hid hle
  obtain ⟨gb, hgb⟩ : ∃ gb, bts (namesL l).1 = gb := ⟨_, rfl⟩
  obtain ⟨nb, hnb⟩ : ∃ nb, bts (namesL l).2.1 = nb := ⟨_, rfl⟩
  have HGB := Lib.hid hgb
  have HNB := Lib.hid hnb
  have hnw : ∀ c ∈ nb.data.toList, wc c = true := by rw [← hnb]; exact names_wc l
  have HU := Lib.hid (fun (W : World) => upper_any nb W (by rw [← hnb, bts_size]; omega) hnw)
  have hls : l.length ≤ 1000000000 := by omega
  obtain ⟨eb, heb⟩ : ∃ eb, nb.toList.isEmpty = eb := ⟨_, rfl⟩
  have HEB : Hid (eb = decide ((namesL l).2.1 = [])) := by
    unfold Hid
    rw [← heb, ← hnb, ByteArray.toList_mk]
    cases (namesL l).2.1 <;> rfl
  rw [hR, hgb, hnb] at HN
  clear hM hs hsz hl hle hR hgb hnb hnw
  go_enter Tryz.func224, Tryz.ntmps224
  go_wp2_with fail
  refine (HN.out _).mono ?_
  rintro e w1 ⟨rfl, b1⟩
  have K1 := Lib.hid ((Bk.new w 41 #[.string ⟨#[]⟩, .string ⟨#[]⟩, .slice none 0 0, .string ⟨#[]⟩]).below b1 (Bk.new _ _ _).lt)
  have B1 : Hid (Below w.heap.size w w1) := ((Below.refl _ w).alloc (Nat.le_refl _) _).trans (b1.mono (by simp))
  clear b1
  go_wp2_with fail
  refine (HP.out _ B1.out).mono ?_
  rintro e w2 ⟨hv, b2⟩
  have B2 : Hid (Below w.heap.size w w2) := B1.out.trans (b2.mono B1.out.size)
  have K2 := Lib.hid (K1.out.below b2 K1.out.lt)
  have Z1 : Hid (w.heap.size ≤ w1.heap.size) := B1.out.size
  have HV : Hid (ParsV w1.heap.size (namesL l).2.2 e w2) := by unfold Hid; rw [← HRL.out]; exact hv
  clear hv b2
  obtain ⟨v0, d0⟩ : ∃ v, w2.cell? ⟨w.heap.size, 0, none⟩ = some v := ⟨_, K2.out.cell 0⟩
  obtain ⟨v1, d1⟩ : ∃ v, w2.cell? ⟨w.heap.size, 1, none⟩ = some v := ⟨_, K2.out.cell 1⟩
  obtain ⟨v2, d2⟩ : ∃ v, w2.cell? ⟨w.heap.size, 2, none⟩ = some v := ⟨_, K2.out.cell 2⟩
  obtain ⟨v3, d3⟩ : ∃ v, w2.cell? ⟨w.heap.size, 3, none⟩ = some v := ⟨_, K2.out.cell 3⟩
  have f0 : w2.frozen? ⟨w.heap.size, 0, none⟩ = false := K2.out.free 0
  have f1 : w2.frozen? ⟨w.heap.size, 1, none⟩ = false := K2.out.free 1
  have f2 : w2.frozen? ⟨w.heap.size, 2, none⟩ = false := K2.out.free 2
  have f3 : w2.frozen? ⟨w.heap.size, 3, none⟩ = false := K2.out.free 3
  rcases HV.out with ⟨v, ps, t, rfl, hps, hown, htl, hpl⟩ | ⟨rfl, hps⟩
  · by_cases h58 : t.head? = some 58
    · obtain ⟨r, rfl⟩ : ∃ r, t = 58 :: r := by
        cases t with
        | nil => cases h58
        | cons x t => exact ⟨t, by rw [show x = 58 by simpa using h58]⟩
      have HC := Lib.hid (fun (W : World) => cutp1_yes 58 (bts (58 :: r)) r W rfl)
      cases eb
      · have hn : (namesL l).2.1 ≠ [] := fun e => by have := HEB.out; rw [decide_eq_true e] at this; cases this
        have HX := Lib.hid (prop_yes hps hn)
        obtain ⟨rb, hrb⟩ : ∃ rb, bts r = rb := ⟨_, rfl⟩
        obtain ⟨tb, htb⟩ : ∃ tb, bts (58 :: r) = tb := ⟨_, rfl⟩
        have HRB := Lib.hid hrb
        have HO := Lib.hid hown
        obtain ⟨A, cap, rfl⟩ := hown.slice
        have HLL : Hid (r.length ≤ l.length ∧ ps.length ≤ l.length) := by have := HLE.out; simp only [List.length_cons] at htl; exact ⟨by omega, by omega⟩
        rw [hrb, htb] at HC
        rw [htb]
        clear hrb htb hn h58 hps hown htl hpl
        go_wp2_with fail
        refine (HC.out _).mono ?_
        rintro e w3 ⟨rfl, rfl⟩
        clear d0 d1 d2 d3 f0 f1 f2 f3
        go_wp2_with fail
        refine (HU.out _).mono ?_
        rintro e w4 ⟨rfl, b4⟩
        have B4 : Hid (Below w.heap.size w w4) := B2.out.trans (b4.mono B2.out.size)
        have K4 := Lib.hid (K2.out.below b4 K2.out.lt)
        have O4 := Lib.hid (HO.out.below b4)
        obtain ⟨ub, hub⟩ : ∃ ub, bts (up nb.data.toList) = ub := ⟨_, rfl⟩
        have HUB := Lib.hid hub
        rw [hub]
        clear hub b4
        obtain ⟨v0, d0⟩ : ∃ v, w4.cell? ⟨w.heap.size, 0, none⟩ = some v := ⟨_, K4.out.cell 0⟩
        obtain ⟨v1, d1⟩ : ∃ v, w4.cell? ⟨w.heap.size, 1, none⟩ = some v := ⟨_, K4.out.cell 1⟩
        obtain ⟨v2, d2⟩ : ∃ v, w4.cell? ⟨w.heap.size, 2, none⟩ = some v := ⟨_, K4.out.cell 2⟩
        obtain ⟨v3, d3⟩ : ∃ v, w4.cell? ⟨w.heap.size, 3, none⟩ = some v := ⟨_, K4.out.cell 3⟩
        have f0 : w4.frozen? ⟨w.heap.size, 0, none⟩ = false := K4.out.free 0
        have f1 : w4.frozen? ⟨w.heap.size, 1, none⟩ = false := K4.out.free 1
        have f2 : w4.frozen? ⟨w.heap.size, 2, none⟩ = false := K4.out.free 2
        have f3 : w4.frozen? ⟨w.heap.size, 3, none⟩ = false := K4.out.free 3
        go_wp2_with fail
        have KF := Bk.four K4.out ⟨_, _, _, _, rfl⟩ (.string gb) (.string ub) (.slice A ps.length cap) (.string rb)
        have q0 : World.cell? (four w.heap.size w4 (.string gb) (.string ub) (.slice A ps.length cap) (.string rb)) ⟨w.heap.size, 0, none⟩ = some (.string gb) := KF.cell 0
        have q1 : World.cell? (four w.heap.size w4 (.string gb) (.string ub) (.slice A ps.length cap) (.string rb)) ⟨w.heap.size, 1, none⟩ = some (.string ub) := KF.cell 1
        have q2 : World.cell? (four w.heap.size w4 (.string gb) (.string ub) (.slice A ps.length cap) (.string rb)) ⟨w.heap.size, 2, none⟩ = some (.slice A ps.length cap) := KF.cell 2
        have q3 : World.cell? (four w.heap.size w4 (.string gb) (.string ub) (.slice A ps.length cap) (.string rb)) ⟨w.heap.size, 3, none⟩ = some (.string rb) := KF.cell 3
        refine bodyPost_ret (v := .tuple #[.agg #[.string gb, .string ub, .slice A ps.length cap, .string rb], .bool true]) (by simp [results, Tryz.results224, go_sem, q0, q1, q2, q3]) rfl ⟨.inl ⟨_, .slice A ps.length cap, ?_, HX.out, ((O4.out.weak Z1.out).four K4.out (by decide) _ _ _ _), ?_⟩, below_four B4.out (Nat.le_refl _) _ _ _ _⟩
        · show Ending.returned (.tuple #[.agg #[.string gb, .string ub, .slice A ps.length cap, .string rb], .bool true]) = .returned (.tuple #[.agg #[.string (bts (namesL l).1), .string (bts (up (namesL l).2.1)), .slice A ps.length cap, .string (bts r)], .bool true])
          rw [HGB.out, HRB.out, ← HUB.out, ← HNB.out]
        · have h1 := HLE.out
          refine ⟨h1.1, ?_, HLL.out.1, HLL.out.2⟩
          show (up (namesL l).2.1).length ≤ l.length
          unfold up
          rw [List.length_map]
          exact h1.2.1
      · have HX := Lib.hid (prop_name (l := l) (by have := HEB.out; exact of_decide_eq_true this.symm))
        obtain ⟨tb, htb⟩ : ∃ tb, bts (58 :: r) = tb := ⟨_, rfl⟩
        rw [htb] at HC
        obtain ⟨A, cap, rfl⟩ := hown.slice
        rw [htb]
        clear htb h58 hps hown htl hpl
        go_wp2_with fail
        refine (HC.out _).mono ?_
        rintro e w3 ⟨rfl, rfl⟩
        go_wp2_with fail
        have KF := Bk.four K2.out ⟨_, _, _, _, rfl⟩ (.string ⟨#[]⟩) (.string ⟨#[]⟩) (.slice none 0 0) (.string ⟨#[]⟩)
        have q0 : World.cell? (four w.heap.size w3 (.string ⟨#[]⟩) (.string ⟨#[]⟩) (.slice none 0 0) (.string ⟨#[]⟩)) ⟨w.heap.size, 0, none⟩ = some (.string ⟨#[]⟩) := KF.cell 0
        have q1 : World.cell? (four w.heap.size w3 (.string ⟨#[]⟩) (.string ⟨#[]⟩) (.slice none 0 0) (.string ⟨#[]⟩)) ⟨w.heap.size, 1, none⟩ = some (.string ⟨#[]⟩) := KF.cell 1
        have q2 : World.cell? (four w.heap.size w3 (.string ⟨#[]⟩) (.string ⟨#[]⟩) (.slice none 0 0) (.string ⟨#[]⟩)) ⟨w.heap.size, 2, none⟩ = some (.slice none 0 0) := KF.cell 2
        have q3 : World.cell? (four w.heap.size w3 (.string ⟨#[]⟩) (.string ⟨#[]⟩) (.slice none 0 0) (.string ⟨#[]⟩)) ⟨w.heap.size, 3, none⟩ = some (.string ⟨#[]⟩) := KF.cell 3
        refine bodyPost_ret (v := .tuple #[.agg #[.string ⟨#[]⟩, .string ⟨#[]⟩, .slice none 0 0, .string ⟨#[]⟩], .bool false]) (by simp [results, Tryz.results224, go_sem, q0, q1, q2, q3]) rfl ⟨.inr ⟨HX.out, rfl⟩, below_four B2.out (Nat.le_refl _) _ _ _ _⟩
    · have HC := Lib.hid (fun (W : World) => cutp1_no 58 (bts t) W h58)
      have HX := Lib.hid (prop_end hps h58)
      obtain ⟨tb, htb⟩ : ∃ tb, bts t = tb := ⟨_, rfl⟩
      rw [htb] at HC
      obtain ⟨A, cap, rfl⟩ := hown.slice
      rw [htb]
      clear htb h58 hps hown htl hpl
      go_wp2_with fail
      refine (HC.out _).mono ?_
      rintro e w3 ⟨rfl, rfl⟩
      cases eb
      all_goals
        go_wp2_with fail
        have KF := Bk.four K2.out ⟨_, _, _, _, rfl⟩ (.string ⟨#[]⟩) (.string ⟨#[]⟩) (.slice none 0 0) (.string ⟨#[]⟩)
        have q0 : World.cell? (four w.heap.size w3 (.string ⟨#[]⟩) (.string ⟨#[]⟩) (.slice none 0 0) (.string ⟨#[]⟩)) ⟨w.heap.size, 0, none⟩ = some (.string ⟨#[]⟩) := KF.cell 0
        have q1 : World.cell? (four w.heap.size w3 (.string ⟨#[]⟩) (.string ⟨#[]⟩) (.slice none 0 0) (.string ⟨#[]⟩)) ⟨w.heap.size, 1, none⟩ = some (.string ⟨#[]⟩) := KF.cell 1
        have q2 : World.cell? (four w.heap.size w3 (.string ⟨#[]⟩) (.string ⟨#[]⟩) (.slice none 0 0) (.string ⟨#[]⟩)) ⟨w.heap.size, 2, none⟩ = some (.slice none 0 0) := KF.cell 2
        have q3 : World.cell? (four w.heap.size w3 (.string ⟨#[]⟩) (.string ⟨#[]⟩) (.slice none 0 0) (.string ⟨#[]⟩)) ⟨w.heap.size, 3, none⟩ = some (.string ⟨#[]⟩) := KF.cell 3
        refine bodyPost_ret (v := .tuple #[.agg #[.string ⟨#[]⟩, .string ⟨#[]⟩, .slice none 0 0, .string ⟨#[]⟩], .bool false]) (by simp [results, Tryz.results224, go_sem, q0, q1, q2, q3]) rfl ⟨.inr ⟨HX.out, rfl⟩, below_four B2.out (Nat.le_refl _) _ _ _ _⟩
  · have HC := Lib.hid (fun (W : World) => cutp1_no 58 ⟨#[]⟩ W (by intro e; cases e))
    have HX := Lib.hid (prop_pars hps)
    clear hps
    go_wp2_with fail
    refine (HC.out _).mono ?_
    rintro e w3 ⟨rfl, rfl⟩
    cases eb
    all_goals
      go_wp2_with fail
      have KF := Bk.four K2.out ⟨_, _, _, _, rfl⟩ (.string ⟨#[]⟩) (.string ⟨#[]⟩) (.slice none 0 0) (.string ⟨#[]⟩)
      have q0 : World.cell? (four w.heap.size w3 (.string ⟨#[]⟩) (.string ⟨#[]⟩) (.slice none 0 0) (.string ⟨#[]⟩)) ⟨w.heap.size, 0, none⟩ = some (.string ⟨#[]⟩) := KF.cell 0
      have q1 : World.cell? (four w.heap.size w3 (.string ⟨#[]⟩) (.string ⟨#[]⟩) (.slice none 0 0) (.string ⟨#[]⟩)) ⟨w.heap.size, 1, none⟩ = some (.string ⟨#[]⟩) := KF.cell 1
      have q2 : World.cell? (four w.heap.size w3 (.string ⟨#[]⟩) (.string ⟨#[]⟩) (.slice none 0 0) (.string ⟨#[]⟩)) ⟨w.heap.size, 2, none⟩ = some (.slice none 0 0) := KF.cell 2
      have q3 : World.cell? (four w.heap.size w3 (.string ⟨#[]⟩) (.string ⟨#[]⟩) (.slice none 0 0) (.string ⟨#[]⟩)) ⟨w.heap.size, 3, none⟩ = some (.string ⟨#[]⟩) := KF.cell 3
      refine bodyPost_ret (v := .tuple #[.agg #[.string ⟨#[]⟩, .string ⟨#[]⟩, .slice none 0 0, .string ⟨#[]⟩], .bool false]) (by simp [results, Tryz.results224, go_sem, q0, q1, q2, q3]) rfl ⟨.inr ⟨HX.out, rfl⟩, below_four B2.out (Nat.le_refl _) _ _ _ _⟩
end Go.Proofs.YtfbdnaclkfmiaaaGreatDoor
