/-
  package vcard's lists: a property more (add), a card more (add).
-/
import Derived.Test.YtphopnfnjnieaaaGreatDoorVLst
namespace Go.Proofs.YtphopnfnjnieaaaGreatDoor
open Go.RowKit Vc

theorem RowA.slice {w : World} {u : Value} {l : List Att} (h : RowA w u l) : ∃ A cap, u = .slice A l.length cap := by
  obtain ⟨A, cap, rfl, _⟩ := h
  exact ⟨A, cap, rfl⟩
theorem _root_.Go.RowKit.Below.drewNW {B : Nat} {w w' : World} (h : Below B w w') (n : Nat) : Below B w (w'.drewN n) := ⟨h.os, h.tape, h.output, h.size, h.block⟩
theorem Grew.of {B : Nat} {w w2 w3 : World} (h : Below w.heap.size w w2) (g : Grew B w2.drew w3) (hB : B ≤ w.heap.size) : Grew B w w3 :=
  ⟨(h.mono hB).drew.trans g.1, fun k cs t hk ht => g.2 k cs t (have e : Bk w2 k t cs := hk.below h hk.lt; e) ht⟩
theorem GrewL.of {B : Nat} {w w2 w3 : World} (h : Below w.heap.size w w2) (g : GrewL B w2.drew w3) (hB : B ≤ w.heap.size) : GrewL B w w3 :=
  ⟨(h.mono hB).drew.trans g.1, fun k cs t hk ht => g.2 k cs t (have e : Bk w2 k t cs := hk.below h hk.lt; e) ht⟩
set_option maxHeartbeats 4000000 in
set_option maxRecDepth 100000 in
/-- (*list[Prop]).add -/
theorem addP_any (B G o : Nat) (w : World) (v : Value) (c : List Pr) (x : Pr) (u : Value) (tG : TypeId) (cs : Array Value) (hG : Bk w G tG cs) (ht : tG ≠ 41) (h0 : w.cell? ⟨G, o, none⟩ = some v) (h1 : w.cell? ⟨G, o + 1, none⟩ = some (.int .i64 40))
    (hown : OwnP B w v c) (hu : RowA w u x.2.2.1) (hB : B ≤ w.heap.size) (hc : c.length ≤ 40) :
    Calls Tryz.prog 40 #[.pointer (some ⟨G, o, none⟩), agP x u] w fun e w' =>
      (c.length = 40 ∧ e = .returned (.int .i64 4) ∧ Below w.heap.size w w') ∨ (c.length ≠ 40 ∧ e = .returned (.int .i64 0) ∧ ∃ w2 v', w' = w2.setCell ⟨G, o, none⟩ v' ∧ Grew B w w2 ∧ OwnP B w2 v' (c ++ [x])) := by
  obtain ⟨A, cap, rfl⟩ := hown.slice
  have HU := Lib.hid hu
  obtain ⟨UA, ucap, rfl⟩ := hu.slice
  obtain ⟨n, hn⟩ : ∃ n, c.length = n := ⟨_, rfl⟩
  obtain ⟨un, hun⟩ : ∃ un, x.2.2.1.length = un := ⟨_, rfl⟩
  obtain ⟨s0, e0⟩ : ∃ a, bts x.1 = a := ⟨_, rfl⟩
  obtain ⟨s1, e1⟩ : ∃ a, bts x.2.1 = a := ⟨_, rfl⟩
  obtain ⟨s3, e3⟩ : ∃ a, bts x.2.2.2 = a := ⟨_, rfl⟩
  unfold agP
  rw [e0, e1, e3]
  have E0 := Lib.hid e0
  have E1 := Lib.hid e1
  have E3 := Lib.hid e3
  have HO := Lib.hid hown
  have HG := Lib.hid hG
  have HN := Lib.hid hn
  have HT := Lib.hid ht
  have HBW := Lib.hid hB
  have hGl := hG.lt
  rw [hun] at HU ⊢
  rw [hn] at HO h0 hc ⊢
  clear hown hu hG e0 e1 e3 hn hun ht hB
  have g40 : ((n : Int) == 40) = decide (n = 40) := by rw [Bool.eq_iff_iff]; simp; omega
  have c0' : (w.alloc (.cells #[.string s0, .string s1, .slice UA un ucap, .string s3] 41)).cell? ⟨G, o, none⟩ = some (.slice A n cap) := by rw [((Below.refl w.heap.size w).alloc (Nat.le_refl _) _).cell (p := ⟨G, o, none⟩) hGl]; exact h0
  have c1' : (w.alloc (.cells #[.string s0, .string s1, .slice UA un ucap, .string s3] 41)).cell? ⟨G, o + 1, none⟩ = some (.int .i64 40) := by rw [((Below.refl w.heap.size w).alloc (Nat.le_refl _) _).cell (p := ⟨G, o + 1, none⟩) hGl]; exact h1
  by_cases h40 : n = 40
  · rw [decide_eq_true h40] at g40
    go_enter Tryz.func40, Tryz.ntmps40
    go_wp2_with fail
    go_quiet (fail)
    go_wp2_with fail
    go_ret
    exact .inl ⟨h40, rfl, ((Below.refl _ w).alloc (Nat.le_refl _) _).drewNW _⟩
  · rw [decide_eq_false h40] at g40
    go_enter Tryz.func40, Tryz.ntmps40
    go_wp2_with fail
    go_quiet (fail)
    go_upto_region 3 with fail
    obtain ⟨W2, hW2⟩ : ∃ W2, (w.alloc (.cells #[.string s0, .string s1, .slice UA un ucap, .string s3] 41)).drewN nq = W2 := ⟨_, rfl⟩
    have hb2 : Below w.heap.size w W2 := by rw [← hW2]; exact ((Below.refl _ w).alloc (Nat.le_refl _) _).drewNW _
    have hk2 : Bk W2 w.heap.size 41 #[.string s0, .string s1, .slice UA un ucap, .string s3] := by rw [← hW2]; exact Bk.new _ _ _
    rw [hW2]
    obtain ⟨Y, hY⟩ : ∃ Y, w.heap.size = Y := ⟨_, rfl⟩
    have G2 : Hid (Bk W2 G tG cs) := HG.out.below hb2 hGl
    have B2 := Lib.hid hb2
    have O2 := Lib.hid (HO.out.below hb2)
    have U2 : Hid (RowA W2 (.slice UA un ucap) x.2.2.1) := HU.out.keep (KeepA.below hb2)
    have Z2 : Hid (B ≤ W2.heap.size) := Nat.le_trans HBW.out hb2.size
    have HN2 : Hid (c.length ≤ 1000000000) := by unfold Hid; rw [HN.out]; omega
    have HYE := Lib.hid hY
    rw [hY] at hk2
    have y0 : W2.cell? ⟨Y, 0, none⟩ = some (.string s0) := hk2.cell 0
    have y1 : W2.cell? ⟨Y, 1, none⟩ = some (.string s1) := hk2.cell 1
    have y2 : W2.cell? ⟨Y, 2, none⟩ = some (.slice UA un ucap) := hk2.cell 2
    have y3 : W2.cell? ⟨Y, 3, none⟩ = some (.string s3) := hk2.cell 3
    have g0 : W2.cell? ⟨G, o, none⟩ = some (.slice A n cap) := by rw [hb2.cell (p := ⟨G, o, none⟩) hGl]; exact h0
    have g0a : ∀ ob, (W2.alloc ob).cell? ⟨G, o, none⟩ = some (.slice A n cap) := fun ob => by rw [((Below.refl W2.heap.size W2).alloc (Nat.le_refl _) ob).cell (p := ⟨G, o, none⟩) G2.out.lt]; exact g0
    rw [hY]
    clear hb2 hk2 hW2 hY c0' c1' h0 h1
    go_region_law (refine step_prp rfl _ _ rfl B (.slice A n cap) c x (.slice UA un ucap) s0 s1 s3 E0.out E1.out E3.out W2.drew rfl O2.out U2.out rfl HN2.out Z2.out ?_; intro v5 w5 o5 g5; have k5 := Lib.hid (g5.2 G cs tG G2.out HT.out); have c5 : w5.cell? ⟨G, o, none⟩ = some (.slice A n cap) := (k5.out.cell o).trans ((G2.out.cell o).symm.trans g0); have f5 : w5.frozen? ⟨G, o, none⟩ = false := k5.out.free o; have O5 := Lib.hid o5; have G5 := Lib.hid g5; obtain ⟨A5, cap5, hv5⟩ := o5.slice; replace hv5 : v5 = .slice A5 (n + 1) cap5 := (by rw [hv5, List.length_append, HN.out]; rfl); subst hv5; clear o5 g5)
    all_goals
      go_wp2_with fail
      go_ret
      refine .inr ⟨h40, rfl, w5, _, rfl, Grew.of B2.out G5.out HBW.out, ?_⟩
      have := O5.out
      exact this
set_option maxHeartbeats 4000000 in
set_option maxRecDepth 100000 in
/-- (*list[list[Prop]]).add -/
theorem addL_any (B R : Nat) (w : World) (pl : Int) (v : Value) (vs : List Value) (hG : Bk w R 50 #[.int .i64 pl, v, .int .i64 60]) (hown : OwnL B w v vs) (hB : B ≤ w.heap.size) (hc : vs.length ≤ 60) :
    Calls Tryz.prog 59 #[.pointer (some ⟨R, 1, none⟩), .agg #[.slice none 0 0, .int .i64 40]] w fun e w' =>
      (vs.length = 60 ∧ e = .returned (.int .i64 4) ∧ Below w.heap.size w w') ∨ (vs.length ≠ 60 ∧ e = .returned (.int .i64 0) ∧ ∃ w2 v', w' = w2.setCell ⟨R, 1, none⟩ v' ∧ GrewL B w w2 ∧ OwnL B w2 v' (vs ++ [.slice none 0 0])) := by
  obtain ⟨A, cap, rfl⟩ := hown.slice
  obtain ⟨n, hn⟩ : ∃ n, vs.length = n := ⟨_, rfl⟩
  have HO := Lib.hid hown
  have HG := Lib.hid hG
  have HN := Lib.hid hn
  have HBW := Lib.hid hB
  have hGl := hG.lt
  rw [hn] at HO hc HG ⊢
  have h0 : w.cell? ⟨R, 1, none⟩ = some (.slice A n cap) := HG.out.cell 1
  have h1 : w.cell? ⟨R, 2, none⟩ = some (.int .i64 60) := HG.out.cell 2
  clear hown hG hn hB
  have g40 : ((n : Int) == 60) = decide (n = 60) := by rw [Bool.eq_iff_iff]; simp; omega
  have c0' : (w.alloc (.cells #[.slice none 0 0, .int .i64 40] 75)).cell? ⟨R, 1, none⟩ = some (.slice A n cap) := by rw [((Below.refl w.heap.size w).alloc (Nat.le_refl _) _).cell (p := ⟨R, 1, none⟩) hGl]; exact h0
  have c1' : (w.alloc (.cells #[.slice none 0 0, .int .i64 40] 75)).cell? ⟨R, 2, none⟩ = some (.int .i64 60) := by rw [((Below.refl w.heap.size w).alloc (Nat.le_refl _) _).cell (p := ⟨R, 2, none⟩) hGl]; exact h1
  by_cases h40 : n = 60
  · rw [decide_eq_true h40] at g40
    go_enter Tryz.func59, Tryz.ntmps59
    go_wp2_with fail
    go_quiet (fail)
    go_wp2_with fail
    go_ret
    exact .inl ⟨h40, rfl, ((Below.refl _ w).alloc (Nat.le_refl _) _).drewNW _⟩
  · rw [decide_eq_false h40] at g40
    go_enter Tryz.func59, Tryz.ntmps59
    go_wp2_with fail
    go_quiet (fail)
    go_upto_region 3 with fail
    obtain ⟨W2, hW2⟩ : ∃ W2, (w.alloc (.cells #[.slice none 0 0, .int .i64 40] 75)).drewN nq = W2 := ⟨_, rfl⟩
    have hb2 : Below w.heap.size w W2 := by rw [← hW2]; exact ((Below.refl _ w).alloc (Nat.le_refl _) _).drewNW _
    have hk2 : Bk W2 w.heap.size 75 #[.slice none 0 0, .int .i64 40] := by rw [← hW2]; exact Bk.new _ _ _
    rw [hW2]
    obtain ⟨Y, hY⟩ : ∃ Y, w.heap.size = Y := ⟨_, rfl⟩
    have G2 := Lib.hid (HG.out.below hb2 hGl)
    have B2 := Lib.hid hb2
    have O2 : Hid (OwnL B W2 (.slice A n cap) vs) := HO.out.keep (fun g cs hk => hk.below hb2 hk.lt)
    have Z2 : Hid (B ≤ W2.heap.size) := Nat.le_trans HBW.out hb2.size
    have HN2 : Hid (vs.length ≤ 1000000000) := by unfold Hid; rw [HN.out]; omega
    rw [hY] at hk2
    have y0 : W2.cell? ⟨Y, 0, none⟩ = some (.slice none 0 0) := hk2.cell 0
    have y1 : W2.cell? ⟨Y, 1, none⟩ = some (.int .i64 40) := hk2.cell 1
    have g0 : W2.cell? ⟨R, 1, none⟩ = some (.slice A n cap) := G2.out.cell 1
    have g0a : ∀ ob, (W2.alloc ob).cell? ⟨R, 1, none⟩ = some (.slice A n cap) := fun ob => by rw [((Below.refl W2.heap.size W2).alloc (Nat.le_refl _) ob).cell (p := ⟨R, 1, none⟩) G2.out.lt]; exact g0
    rw [hY]
    clear hb2 hk2 hW2 hY c0' c1' h0 h1
    go_region_law (refine step_lst rfl _ _ rfl B (.slice A n cap) vs (.slice none 0 0) rfl W2.drew rfl O2.out rfl HN2.out Z2.out ?_; intro v5 w5 o5 g5; have k5 := Lib.hid (g5.2 R _ _ G2.out (by decide)); have c5 : w5.cell? ⟨R, 1, none⟩ = some (.slice A n cap) := k5.out.cell 1; have f5 : w5.frozen? ⟨R, 1, none⟩ = false := k5.out.free 1; have O5 := Lib.hid o5; have G5 := Lib.hid g5; obtain ⟨A5, cap5, hv5⟩ := o5.slice; replace hv5 : v5 = .slice A5 (n + 1) cap5 := (by rw [hv5, List.length_append, HN.out]; rfl); subst hv5; clear o5 g5)
    all_goals
      go_wp2_with fail
      go_ret
      exact .inr ⟨h40, rfl, w5, _, rfl, GrewL.of B2.out G5.out HBW.out, O5.out⟩
end Go.Proofs.YtphopnfnjnieaaaGreatDoor
