/-
  package vcard: how a reader stands; a line, by where it stands (opened, checked, take).
-/
import Derived.Test.YtphopnfnjnieaaaGreatDoorVOwn
namespace Go.Proofs.YtphopnfnjnieaaaGreatDoor
open Go.RowKit Vc

/-- Rows that stand, one by one. -/
def RowsP (C : Nat) (w : World) (us : List Value) (cs : List (List Pr)) : Prop := us.length = cs.length ∧ ∀ (i : Nat) (u : Value) (c : List Pr), us[i]? = some u → cs[i]? = some c → RowP C w u c
theorem RowsP.nil (C : Nat) (w : World) : RowsP C w [] [] := ⟨rfl, fun i u c h => by simp at h⟩
theorem RowsP.keep {C D : Nat} {w w' : World} {us : List Value} {cs : List (List Pr)} (h : RowsP C w us cs) (hC : C ≤ D) (hb : ∀ g cs, g < C → Bk w g 41 cs → Bk w' g 41 cs) (ha : KeepA w w') : RowsP D w' us cs :=
  ⟨h.1, fun i u c h1 h2 => ((h.2 i u c h1 h2).keep hb ha).more hC⟩
theorem RowsP.below {C : Nat} {w w' : World} {us : List Value} {cs : List (List Pr)} (h : RowsP C w us cs) (hb : Below w.heap.size w w') : RowsP C w' us cs :=
  h.keep (Nat.le_refl _) (fun _ _ _ hg => (hb.block _ hg.lt).trans hg) (KeepA.below hb)
theorem RowsP.snoc {C : Nat} {w : World} {us : List Value} {cs : List (List Pr)} {u : Value} {c : List Pr} (h : RowsP C w us cs) (hu : RowP C w u c) : RowsP C w (us ++ [u]) (cs ++ [c]) := by
  refine ⟨by simp [h.1], fun i x y h1 h2 => ?_⟩
  rcases Nat.lt_trichotomy i us.length with hi | hi | hi
  · rw [List.getElem?_append_left hi] at h1
    rw [List.getElem?_append_left (by rw [← h.1]; exact hi)] at h2
    exact h.2 i x y h1 h2
  · subst hi
    rw [List.getElem?_append_right (Nat.le_refl _), Nat.sub_self] at h1
    rw [h.1, List.getElem?_append_right (Nat.le_refl _), Nat.sub_self] at h2
    obtain rfl : u = x := by simpa using h1
    obtain rfl : c = y := by simpa using h2
    exact hu
  · rw [List.getElem?_eq_none (by simp; omega)] at h1
    cases h1
/-- How a reader stands: it lies in block R, all that it has made lies above block B. -/
def Rdg (B R : Nat) (w : World) (st : RSt) : Prop :=
  ∃ (v : Value) (us : List Value) (C : Nat), B ≤ C ∧ C ≤ w.heap.size ∧ match st.2 with
    | none => Bk w R 50 #[.int .i64 0, v, .int .i64 60] ∧ OwnL B w v us ∧ RowsP C w us st.1 ∧ st.1.length ≤ 60
    | some (f, c) => Bk w R 50 #[.int .i64 (if f then 1 else 2), v, .int .i64 60] ∧ (∃ u, OwnL B w v (us ++ [u]) ∧ OwnP C w u c) ∧ RowsP C w us st.1 ∧ st.1.length < 60 ∧ c.length ≤ 40
theorem up_begin : up beginT = beginT := by decide +kernel
theorem up_end : up endT = endT := by decide +kernel
theorem plain_begin : Plainly ⟨#[66, 69, 71, 73, 78, 58, 86, 67, 65, 82, 68]⟩ := Plainly.of (by decide +kernel)
theorem plain_end : Plainly ⟨#[69, 78, 68, 58, 86, 67, 65, 82, 68]⟩ := Plainly.of (by decide +kernel)
theorem keepL_below {w w' : World} (h : Below w.heap.size w w') : ∀ g cs, Bk w g 75 cs → Bk w' g 75 cs := fun _ _ hg => (h.block _ hg.lt).trans hg
/-- a store into a block -/
theorem Bk.stored {w : World} {g k : Nat} {t tk : TypeId} {cs ck : Array Value} (hk : Bk w k tk ck) (hg : Bk w g t cs) (ht : tk ≠ t) (o : Nat) (x : Value) : Bk (w.setCell ⟨g, o, none⟩ x) k tk ck :=
  (Below.heap_setCell _ _ _ _ (Bk.type_ne hk hg ht)).trans hk
set_option maxHeartbeats 4000000 in
set_option maxRecDepth 100000 in
/-- (*reading).opened -/
theorem opened_any (B R : Nat) (s : ByteArray) (w : World) (a : List (List Pr)) (hT : Tabs w) (hF : Folds w) (hs : s.size ≤ 1000000000) (hR : Rdg B R w (a, none)) (hBR : B ≤ R) :
    Calls Tryz.prog 35 #[.pointer (some ⟨R, 0, none⟩), .string s] w fun e w' => e = .returned (.int .i64 ((stepV (a, none) s.data.toList).1 : Nat)) ∧ Below B w w' ∧ ((stepV (a, none) s.data.toList).1 = 0 → Rdg B R w' (stepV (a, none) s.data.toList).2) := by
  obtain ⟨l, hl⟩ : ∃ l, s.data.toList = l := ⟨_, rfl⟩
  have HI := is_any s ⟨#[66, 69, 71, 73, 78, 58, 86, 67, 65, 82, 68]⟩ w plain_begin hT hF (by omega)
  rw [hl] at HI ⊢
  rw [show up (⟨#[66, 69, 71, 73, 78, 58, 86, 67, 65, 82, 68]⟩ : ByteArray).data.toList = beginT from up_begin] at HI
  obtain ⟨v, us, C, hBC, hC, hk, ho, hr, hn⟩ := hR
  have HK := Lib.hid hk
  have HO := Lib.hid ho
  have HR := Lib.hid hr
  simp only at HR hn
  by_cases hb : up l = beginT
  · rw [decide_eq_true hb] at HI
    have HIH := Lib.hid HI
    have hst : stepV (a, none) l = if 60 ≤ a.length then (4, (a, none)) else (0, (a, some (true, []))) := by
      simp only [stepV]
      rw [if_neg (fun h => h hb)]
    have HST := Lib.hid hst
    have hul : us.length = a.length := hr.1
    clear HI hT hF hk ho hr hst hb hl
    go_enter Tryz.func35, Tryz.ntmps35
    go_wp2_with fail
    refine HIH.out.mono ?_
    rintro e w1 ⟨rfl, b1⟩
    have K1 := Lib.hid (HK.out.below b1 HK.out.lt)
    have O1 : Hid (OwnL B w1 v us) := HO.out.keep (keepL_below b1)
    have R1 : Hid (RowsP C w1 us a) := HR.out.below b1
    have Z1 : Hid (w.heap.size ≤ w1.heap.size) := b1.size
    have B1 : Hid (Below B w w1) := b1.mono (Nat.le_trans hBC hC)
    obtain ⟨v0, d0⟩ : ∃ v, w1.cell? ⟨R, 0, none⟩ = some v := ⟨_, K1.out.cell 0⟩
    have f0 : w1.frozen? ⟨R, 0, none⟩ = false := K1.out.free 0
    clear b1
    go_upto_region 4 with fail
    obtain ⟨W2, hW2⟩ : ∃ W2, w1.setCell ⟨R, 0, none⟩ (.int .i64 1) = W2 := ⟨_, rfl⟩
    have k2 : Bk W2 R 50 #[.int .i64 1, v, .int .i64 60] := by rw [← hW2]; have := K1.out.put 0 (.int .i64 1); simpa using this
    have o2 : OwnL B W2 v us := O1.out.keep (fun g cs hg => by rw [← hW2]; exact hg.stored K1.out (by decide) _ _)
    have r2 : RowsP C W2 us a := R1.out.keep (Nat.le_refl _) (fun g cs _ hg => by rw [← hW2]; exact hg.stored K1.out (by decide) _ _) (by rw [← hW2]; exact KeepA.set K1.out (by decide) _ _)
    have b2 : Below B w W2 := by rw [← hW2]; exact B1.out.setCell (p := ⟨R, 0, none⟩) hBR _
    have z2 : w1.heap.size = W2.heap.size := by rw [← hW2]; simp [World.setCell]
    have HA := Lib.hid (addL_any B R W2 1 v us k2 o2 (by have := Z1.out; omega) (by omega))
    rw [hW2]
    have R2 := Lib.hid r2
    have B2 := Lib.hid b2
    have K2 := Lib.hid k2
    have Z2 : Hid (C ≤ W2.heap.size) := by unfold Hid; have := Z1.out; omega
    clear k2 o2 r2 b2 z2 hW2 d0 f0
    go_wp2_with fail
    refine HA.out.mono ?_
    rintro e w3 hcase
    have HC := Lib.hid hcase
    clear hcase
    rcases HC.out with ⟨h60, rfl, b3⟩ | ⟨h60, rfl, w4, v', rfl, g4, o4⟩
    · have hs4 : Hid (stepV (a, none) l = (4, (a, none))) := by unfold Hid; rw [HST.out, if_pos (by omega)]
      clear HC
      go_wp2_with fail
      go_ret
      rw [hs4.out]
      exact ⟨rfl, B2.out.trans (b3.mono (Nat.le_trans hBC Z2.out)), fun h => by cases h⟩
    · have hs4 : Hid (stepV (a, none) l = (0, (a, some (true, [])))) := by unfold Hid; rw [HST.out, if_neg (by omega)]
      have G4 := Lib.hid g4
      have O4 := Lib.hid o4
      clear HC g4 o4
      go_wp2_with fail
      go_ret
      rw [hs4.out]
      have k4 : Bk w4 R 50 #[.int .i64 1, v, .int .i64 60] := G4.out.2 R _ _ K2.out (by decide)
      have r4 : RowsP C w4 us a := R2.out.keep (Nat.le_refl _) (fun g cs _ hg => G4.out.2 g cs _ hg (by decide)) (fun g cs hg => G4.out.2 g cs _ hg (by decide))
      refine ⟨rfl, (B2.out.trans G4.out.1).setCell (p := ⟨R, 1, none⟩) hBR _, fun _ => ⟨v', us, w4.heap.size, ?_, by simp [World.setCell], ?_, ⟨_, O4.out.keep (fun g cs hg => hg.stored k4 (by decide) _ _), OwnP.nil _ _⟩, ?_, ?_, by simp⟩⟩
      · exact Nat.le_trans hBC (Nat.le_trans Z2.out G4.out.1.size)
      · have := k4.put 1 v'
        simpa using this
      · exact r4.keep (Nat.le_trans Z2.out G4.out.1.size) (fun g cs _ hg => hg.stored k4 (by decide) _ _) (KeepA.set k4 (by decide) _ _)
      · show a.length < 60
        omega
  · rw [decide_eq_false hb] at HI
    have HIH := Lib.hid HI
    have hst : Hid (stepV (a, none) l = (20, (a, none))) := by
      unfold Hid
      simp only [stepV]
      rw [if_pos hb]
    clear HI hT hF hk ho hr hb hl
    go_enter Tryz.func35, Tryz.ntmps35
    go_wp2_with fail
    refine HIH.out.mono ?_
    rintro e w1 ⟨rfl, b1⟩
    go_wp2_with fail
    go_ret
    rw [hst.out]
    exact ⟨rfl, b1.mono (Nat.le_trans hBC hC), fun h => by cases h⟩
end Go.Proofs.YtphopnfnjnieaaaGreatDoor
