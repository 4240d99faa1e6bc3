/-
  package vcard: a line, by where it stands (take).
-/
import Derived.Test.YtphopnfnjnieaaaGreatDoorVChk
namespace Go.Proofs.YtphopnfnjnieaaaGreatDoor
open Go.RowKit Vc

/-- What an add of a property leaves. -/
def AddP (B G o : Nat) (w : World) (c : List Pr) (x : Pr) (k : Nat) (w' : World) : Prop :=
  (c.length = 40 ∧ k = 4 ∧ Below w.heap.size w w') ∨ (c.length ≠ 40 ∧ k = 0 ∧ ∃ w2 v', w' = w2.setCell ⟨G, o, none⟩ v' ∧ Grew B w w2 ∧ OwnP B w2 v' (c ++ [x]))
theorem addP_one (B G o : Nat) (w : World) (v : Value) (c : List Pr) (x : Pr) (u : Value) (tG : TypeId) (cs : Array Value) (hG : Bk w G tG cs) (ht : tG ≠ 41) (h0 : w.cell? ⟨G, o, none⟩ = some v) (h1 : w.cell? ⟨G, o + 1, none⟩ = some (.int .i64 40))
    (hown : OwnP B w v c) (hu : RowA w u x.2.2.1) (hB : B ≤ w.heap.size) (hc : c.length ≤ 40) (k : Nat) (hk : k = if c.length = 40 then 4 else 0) :
    Calls Tryz.prog 40 #[.pointer (some ⟨G, o, none⟩), agP x u] w fun e w' => e = .returned (.int .i64 k) ∧ AddP B G o w c x k w' := by
  refine (addP_any B G o w v c x u tG cs hG ht h0 h1 hown hu hB hc).mono ?_
  rintro e w' (⟨h, rfl, hb⟩ | ⟨h, rfl, hx⟩)
  · rw [if_pos h] at hk
    subst hk
    exact ⟨rfl, .inl ⟨h, rfl, hb⟩⟩
  · rw [if_neg h] at hk
    subst hk
    exact ⟨rfl, .inr ⟨h, rfl, hx⟩⟩
theorem step_own {l : List UInt8} {a : List (List Pr)} {c : List Pr} (he : up l ≠ endT) (ho : ownE l ≠ 0) : stepV (a, some (false, c)) l = (ownE l, (a, some (false, c))) := by
  simp only [stepV]
  rw [if_neg he]
  unfold ownE at ho ⊢
  cases hp : propL l with
  | none => rfl
  | some p =>
    rw [hp] at ho
    simp only at ho ⊢
    by_cases hb : p.2.1 = beginN ∨ p.2.1 = versN
    · have : ownN p.2.1 = true := by unfold ownN; rcases hb with hb | hb <;> simp [hb]
      rw [if_pos hb, if_pos this]
    · exfalso
      have : ¬ ownN p.2.1 = true := by
        unfold ownN
        intro h
        simp only [Bool.or_eq_true, decide_eq_true_eq] at h
        exact hb h
      rw [if_neg this] at ho
      exact ho rfl
theorem step_add {l : List UInt8} {a : List (List Pr)} {c : List Pr} {p : Pr} (he : up l ≠ endT) (ho : ownE l = 0) (hp : propL l = some p) : stepV (a, some (false, c)) l = if 40 ≤ c.length then (4, (a, some (false, c))) else (0, (a, some (false, c ++ [p]))) := by
  simp only [stepV]
  rw [if_neg he, hp]
  simp only
  unfold ownE at ho
  rw [hp] at ho
  simp only at ho
  rw [if_neg]
  intro hb
  have : ownN p.2.1 = true := by unfold ownN; rcases hb with hb | hb <;> simp [hb]
  rw [if_pos this] at ho
  cases ho
theorem take_end {B R C g lcap kk : Nat} {w W5 w6 w7 : World} {a : List (List Pr)} {c : List Pr} {p : Pr} {l : List UInt8} {v u : Value} {us : List Value} {lcs : Array Value} {e : Value} (hBC : B ≤ C) (hC : C ≤ w.heap.size) (hn : a.length < 60) (hc40 : c.length ≤ 40)
    (hvg : v = .slice (some ⟨g, 0, none⟩) (us.length + 1) lcap) (b5 : Below w.heap.size w W5) (kr : Bk W5 R 50 #[.int .i64 2, v, .int .i64 60]) (o5 : OwnL B W5 v (us ++ [u])) (r5 : RowsP C W5 us a) (kl : Bk W5 g 75 lcs)
    (b6 : Below W5.heap.size W5 w6) (h7 : AddP C g (us.length * 2) w6 c p kk w7) (hst : stepV (a, some (false, c)) l = if 40 ≤ c.length then (4, (a, some (false, c))) else (0, (a, some (false, c ++ [p])))) (he : e = .int .i64 kk := by rfl) :
    Ending.returned e = .returned (.int .i64 ((stepV (a, some (false, c)) l).1 : Nat)) ∧ Below B w w7 ∧ ((stepV (a, some (false, c)) l).1 = 0 → Rdg B R w7 (stepV (a, some (false, c)) l).2) := by
  subst he
  have b6' : Below B w w6 := (b5.mono (Nat.le_trans hBC hC)).trans (b6.mono (Nat.le_trans hBC (Nat.le_trans hC b5.size)))
  have z6 : C ≤ w6.heap.size := Nat.le_trans hC (Nat.le_trans b5.size b6.size)
  rcases h7 with ⟨h40, rfl, b7⟩ | ⟨h40, rfl, w8, v', rfl, g8, o8⟩
  · rw [hst, if_pos (by omega)]
    exact ⟨rfl, b6'.trans (b7.mono (Nat.le_trans hBC z6)), fun h => by cases h⟩
  · rw [hst, if_neg (by omega)]
    have kr8 : Bk w8 R 50 #[.int .i64 2, v, .int .i64 60] := g8.2 _ _ _ (kr.below b6 kr.lt) (by decide)
    have kl8 : Bk w8 g 75 lcs := g8.2 _ _ _ (kl.below b6 kl.lt) (by decide)
    have o8L : OwnL B w8 v (us ++ [u]) := (o5.keep (keepL_below b6)).keep (fun k cs hk => g8.2 k cs _ hk (by decide))
    have r8 : RowsP C w8 us a := (r5.below b6).keep (Nat.le_refl _) (fun k cs hk hb => (g8.1.block k hk).trans hb) (fun k cs hk => g8.2 k cs _ hk (by decide))
    obtain ⟨g2, cap2, cs2, hv2, hg2, -, -, -, -, hset⟩ := o8L.last
    rw [hvg] at hv2
    injection hv2 with e1 e2 e3
    injection e1 with e1
    injection e1 with e1
    subst e1
    refine ⟨rfl, (b6'.trans (g8.1.mono hBC)).setCell (p := ⟨g, us.length * 2, none⟩) hg2 _, fun _ => ⟨v, us, C, hBC, ?_, ?_, ⟨v', hset v', ?_⟩, ?_, hn, ?_⟩⟩
    · rw [World.size_setCell]; exact Nat.le_trans z6 g8.1.size
    · exact kr8.stored kl8 (by decide) _ _
    · exact o8.keep (KeepP.set kl8 (by decide) _ _) (KeepA.set kl8 (by decide) _ _)
    · exact r8.keep (Nat.le_refl _) (fun k cs _ hk => hk.stored kl8 (by decide) _ _) (KeepA.set kl8 (by decide) _ _)
    · rw [List.length_append, List.length_singleton]; omega
set_option maxHeartbeats 4000000 in
set_option maxRecDepth 100000 in
/-- (*reading).take -/
theorem take_any (B R : Nat) (s : ByteArray) (w : World) (st : RSt) (hT : Tabs w) (hF : Folds w) (hM : MaxL w) (hs : s.size ≤ 1000000000) (hR : Rdg B R w st) (hBR : B ≤ R) :
    Calls Tryz.prog 16 #[.pointer (some ⟨R, 0, none⟩), .string s] w fun e w' => e = .returned (.int .i64 ((stepV st s.data.toList).1 : Nat)) ∧ Below B w w' ∧ ((stepV st s.data.toList).1 = 0 → Rdg B R w' (stepV st s.data.toList).2) := by
  obtain ⟨a, op⟩ := st
  match op, hR with
  | none, hR =>
    have HO := Lib.hid (opened_any B R s w a hT hF hs hR hBR)
    obtain ⟨v, us, C, hBC, hC, hk, -⟩ := hR
    have c0 : w.cell? ⟨R, 0, none⟩ = some (.int .i64 0) := hk.cell 0
    obtain ⟨k, hkk⟩ : ∃ k, (stepV (a, none) s.data.toList).1 = k := ⟨_, rfl⟩
    rw [hkk] at HO ⊢
    clear hT hF hM hk hkk
    go_enter Tryz.func16, Tryz.ntmps16
    go_wp2_with fail
    refine HO.out.mono ?_
    rintro e w1 ⟨rfl, h1, h2⟩
    go_wp2_with fail
    go_ret
    exact ⟨rfl, h1, h2⟩
  | some (true, c), hR =>
    have HO := Lib.hid (checked_any B R s w a c hM hs hR hBR)
    obtain ⟨v, us, C, hBC, hC, hk, -⟩ := hR
    have c0 : w.cell? ⟨R, 0, none⟩ = some (.int .i64 1) := hk.cell 0
    obtain ⟨k, hkk⟩ : ∃ k, (stepV (a, some (true, c)) s.data.toList).1 = k := ⟨_, rfl⟩
    rw [hkk] at HO ⊢
    clear hT hF hM hk hkk
    go_enter Tryz.func16, Tryz.ntmps16
    go_wp2_with fail
    refine HO.out.mono ?_
    rintro e w1 ⟨rfl, h1, h2⟩
    go_wp2_with fail
    go_ret
    exact ⟨rfl, h1, h2⟩
  | some (false, c), hR =>
    obtain ⟨l, hl⟩ : ∃ l, s.data.toList = l := ⟨_, rfl⟩
    have HI := is_any s ⟨#[69, 78, 68, 58, 86, 67, 65, 82, 68]⟩ w plain_end hT hF (by omega)
    have HW := fun (W : World) (h : Below w.heap.size w W) => own_any s W (hM.below h) hs
    rw [hl] at HI HW ⊢
    rw [show up (⟨#[69, 78, 68, 58, 86, 67, 65, 82, 68]⟩ : ByteArray).data.toList = endT from up_end] at HI
    have HOW := Lib.hid HW
    obtain ⟨v, us, C, hBC, hC, hk, ⟨u, ho, hp⟩, hr, hn, hc40⟩ := hR
    have HK := Lib.hid hk
    have HO := Lib.hid ho
    have HPc := Lib.hid hp
    have HR := Lib.hid hr
    simp only at HR hn
    rw [if_neg (by decide)] at HK
    have c0 : w.cell? ⟨R, 0, none⟩ = some (.int .i64 2) := HK.out.cell 0
    by_cases he : up l = endT
    · rw [decide_eq_true he] at HI
      have HIH := Lib.hid HI
      have hst : Hid (stepV (a, some (false, c)) l = (0, (a ++ [c], none))) := by unfold Hid; simp only [stepV]; rw [if_pos he]
      clear HI HW hT hF hM hk ho hp hr he hl
      go_enter Tryz.func16, Tryz.ntmps16
      go_wp2_with fail
      refine HIH.out.mono ?_
      rintro e w1 ⟨rfl, b1⟩
      have K1 := Lib.hid (HK.out.below b1 HK.out.lt)
      have B1 := Lib.hid b1
      obtain ⟨v0, d0⟩ : ∃ v, w1.cell? ⟨R, 0, none⟩ = some v := ⟨_, K1.out.cell 0⟩
      have f0 : w1.frozen? ⟨R, 0, none⟩ = false := K1.out.free 0
      clear b1 c0
      go_wp2_with fail
      go_ret
      rw [hst.out]
      have hP1 := HPc.out.below B1.out
      refine ⟨rfl, (B1.out.mono (Nat.le_trans hBC hC)).setCell (p := ⟨R, 0, none⟩) hBR _, fun _ => ⟨v, us ++ [u], w1.heap.size, ?_, ?_, ?_, ?_, ?_, ?_⟩⟩
      · exact Nat.le_trans hBC (Nat.le_trans hC B1.out.size)
      · rw [World.size_setCell]; exact Nat.le_refl _
      · have := K1.out.put 0 (.int .i64 0)
        simpa using this
      · exact (HO.out.keep (keepL_below B1.out)).keep (fun g cs hg => hg.stored K1.out (by decide) _ _)
      · refine RowsP.keep (C := w1.heap.size) ?_ (Nat.le_refl _) (fun g cs _ hg => hg.stored K1.out (by decide) _ _) (KeepA.set K1.out (by decide) _ _)
        exact ((HR.out.below B1.out).keep (Nat.le_trans hC B1.out.size) (fun _ _ _ h => h) (fun _ _ h => h)).snoc hP1.row
      · show (a ++ [c]).length ≤ 60
        rw [List.length_append, List.length_singleton]
        omega
    · rw [decide_eq_false he] at HI
      have HIH := Lib.hid HI
      have HE := Lib.hid he
      clear HI HW hT hF hM hk ho hp hr he hl
      go_enter Tryz.func16, Tryz.ntmps16
      go_wp2_with fail
      refine HIH.out.mono ?_
      rintro e w1 ⟨rfl, b1⟩
      go_wp2_with fail
      refine (HOW.out w1 b1).mono ?_
      rintro e w2 ⟨hv, b2⟩
      have HV := Lib.hid hv
      have B2 : Hid (Below w.heap.size w w2) := b1.trans (b2.mono b1.size)
      clear hv b1 b2 c0
      rcases HV.out with ⟨p, pu, rfl, hoe, hpp, hown, -⟩ | ⟨hoe, rfl⟩
      · have HPP := Lib.hid hpp
        have HOE := Lib.hid hoe
        have HOA := Lib.hid hown
        obtain ⟨A, cap, rfl⟩ := hown.slice
        obtain ⟨n, hn2⟩ : ∃ n, p.2.2.1.length = n := ⟨_, rfl⟩
        obtain ⟨x0, e0⟩ : ∃ a, bts p.1 = a := ⟨_, rfl⟩
        obtain ⟨x1, e1⟩ : ∃ a, bts p.2.1 = a := ⟨_, rfl⟩
        obtain ⟨x3, e3⟩ : ∃ a, bts p.2.2.2 = a := ⟨_, rfl⟩
        have HEX : Hid (agP p (.slice A n cap) = .agg #[.string x0, .string x1, .slice A n cap, .string x3]) := by unfold Hid agP; rw [e0, e1, e3]
        unfold agP
        rw [e0, e1, e3, hn2]
        rw [hn2] at HOA
        clear hown e0 e1 e3 hn2 hpp hoe
        go_upto_region 11 with fail
        obtain ⟨W5, hW5⟩ : ∃ W5, w2.alloc (.cells #[.string x0, .string x1, .slice A n cap, .string x3] 41) = W5 := ⟨_, rfl⟩
        obtain ⟨Y, hY⟩ : ∃ Y, w2.heap.size = Y := ⟨_, rfl⟩
        have b5 : Below w2.heap.size w2 W5 := by rw [← hW5]; exact (Below.refl _ _).alloc (Nat.le_refl _) _
        have k5 : Bk W5 Y 41 #[.string x0, .string x1, .slice A n cap, .string x3] := by rw [← hW5, ← hY]; exact Bk.new _ _ _
        have b5' : Below w.heap.size w W5 := B2.out.trans (b5.mono B2.out.size)
        have B5 := Lib.hid b5'
        have KR := Lib.hid (HK.out.below b5' HK.out.lt)
        have O5 : Hid (OwnL B W5 v (us ++ [u])) := HO.out.keep (keepL_below b5')
        have P5 := Lib.hid (HPc.out.below b5')
        have R5 := Lib.hid (HR.out.below b5')
        have U5 := Lib.hid ((HOA.out.row).keep (KeepA.below b5))
        have hus : us.length ≤ 1000 := by have := HR.out.1; omega
        obtain ⟨g, lcap, lcs, hvg, hgB, -, hlk, l0, l1, -⟩ := O5.out.last
        have KL := Lib.hid hlk
        have HVG := Lib.hid hvg
        have Z5 : Hid (C ≤ W5.heap.size) := Nat.le_trans hC b5'.size
        obtain ⟨kk, hkk⟩ : ∃ kk, (if c.length = 40 then 4 else 0 : Nat) = kk := ⟨_, rfl⟩
        have HKK := Lib.hid hkk
        have L0 := Lib.hid l0
        have L1 := Lib.hid l1
        have HLA : Hid (∀ W : World, Below W5.heap.size W5 W → Calls Tryz.prog 39 #[.pointer (some ⟨R, 1, none⟩)] W fun e w' => e = .returned (.pointer (some ⟨g, us.length * 2, none⟩)) ∧ Below W.heap.size W w') := fun W hW =>
          (lastL_any B R 2 v u us W (KR.out.below hW KR.out.lt) (O5.out.keep (keepL_below hW)) hus).mono (by
            rintro e w' ⟨g2, rfl, ⟨cap2, hv2⟩, hb⟩
            rw [HVG.out] at hv2
            injection hv2 with e1 e2 e3
            injection e1 with e1
            injection e1 with e1
            subst e1
            exact ⟨rfl, hb⟩)
        have HAD : Hid (∀ W : World, Below W5.heap.size W5 W → Calls Tryz.prog 40 #[.pointer (some ⟨g, us.length * 2, none⟩), .agg #[.string x0, .string x1, .slice A n cap, .string x3]] W fun e w' => e = .returned (.int .i64 kk) ∧ AddP C g (us.length * 2) W c p kk w') := fun W hW => by
          have h := addP_one C g (us.length * 2) W u c p (.slice A n cap) _ _ (KL.out.below hW KL.out.lt) (by decide) (by rw [hW.cell (p := ⟨g, us.length * 2, none⟩) KL.out.lt]; exact L0.out) (by rw [hW.cell (p := ⟨g, us.length * 2 + 1, none⟩) KL.out.lt]; exact L1.out) (P5.out.below hW) (U5.out.keep (KeepA.below hW)) (Nat.le_trans Z5.out hW.size) hc40 kk HKK.out.symm
          rw [HEX.out] at h
          exact h
        have HST := Lib.hid (step_add (a := a) (c := c) HE.out HOE.out HPP.out)
        have y0 : W5.cell? ⟨Y, 0, none⟩ = some (.string x0) := k5.cell 0
        have y1 : W5.cell? ⟨Y, 1, none⟩ = some (.string x1) := k5.cell 1
        have y2 : W5.cell? ⟨Y, 2, none⟩ = some (.slice A n cap) := k5.cell 2
        have y3 : W5.cell? ⟨Y, 3, none⟩ = some (.string x3) := k5.cell 3
        have HYL : Hid (Y < W5.heap.size) := k5.lt
        have HLY : Hid (∀ (W : World) (i : Nat), Below W5.heap.size W5 W → W.cell? ⟨Y, i, none⟩ = W5.cell? ⟨Y, i, none⟩) := fun W i hW => hW.cell (p := ⟨Y, i, none⟩) HYL.out
        have Y0 := Lib.hid y0
        have Y1 := Lib.hid y1
        have Y2 := Lib.hid y2
        have Y3 := Lib.hid y3
        rw [hW5, hY]
        clear b5 b5' k5 hW5 hY hvg hlk l0 l1 hkk HOA HPc HR HO HK B2
        go_region_with (first
          | (go_at_call 39; refine (HLA.out _ ?_).mono ?_; exact ⟨rfl, rfl, rfl, Nat.le_refl _, fun _ _ => rfl⟩; rintro e w6 ⟨rfl, b6⟩; have B6 : Hid (Below W5.heap.size W5 w6) := (Below.refl W5.heap.size W5).drew.trans b6; have z0 : w6.cell? ⟨Y, 0, none⟩ = some (.string x0) := (HLY.out w6 0 B6.out).trans Y0.out; have z1 : w6.cell? ⟨Y, 1, none⟩ = some (.string x1) := (HLY.out w6 1 B6.out).trans Y1.out; have z2 : w6.cell? ⟨Y, 2, none⟩ = some (.slice A n cap) := (HLY.out w6 2 B6.out).trans Y2.out; have z3 : w6.cell? ⟨Y, 3, none⟩ = some (.string x3) := (HLY.out w6 3 B6.out).trans Y3.out; clear b6)
          | (go_at_call 40; refine (HAD.out _ ?_).mono ?_; exact B6.out; rintro e w7 ⟨rfl, h7⟩; have H7 := Lib.hid h7; clear h7))
        all_goals
          go_wp2_with fail
          go_ret
          exact take_end hBC hC hn hc40 HVG.out B5.out KR.out O5.out R5.out KL.out B6.out H7.out HST.out
      · have HST := Lib.hid (step_own (a := a) (c := c) HE.out hoe)
        obtain ⟨z, hz⟩ : ∃ z : Int, ((ownE l : Nat) : Int) = z := ⟨_, rfl⟩
        have gz : (z != 0) = true := bne_iff_ne.2 (by omega)
        have HZ := Lib.hid hz
        have HNE := Lib.hid hoe
        rw [hz]
        clear hz hoe
        go_wp2_with fail
        go_ret
        rw [HST.out]
        exact ⟨by rw [HZ.out]; rfl, (B2.out.alloc B2.out.size _).mono (Nat.le_trans hBC hC), fun h => absurd h HNE.out⟩
end Go.Proofs.YtphopnfnjnieaaaGreatDoor
