/-
  package vcard: the lines of a card (written), of all of them (Write): what they answer.
-/
import Derived.Test.YtphopnfnjnieaaaGreatDoorVCom
import Derived.Test.YtphopnfnjnieaaaGreatDoorFoCh
namespace Go.Proofs.YtphopnfnjnieaaaGreatDoor
open Go.RowKit Vc

/-- No line of its properties is longer than so much. -/
def Mild (c : List Pr) : Prop := ∀ p ∈ c, (lineT p).length ≤ 1000000000
theorem Mild.few {p : Pr} (h : (lineT p).length ≤ 1000000000) : p.2.2.1.length ≤ 1000000000 := by
  have h1 := flat_len p.2.2.1
  have h2 := line_parts p
  omega
theorem comesLine_any (p : Pr) (u : Value) (w : World) (hT : Tabs w) (hF : Folds w) (hM : MaxL w) (hu : ReadA w u p.2.2.1) (hp : (lineT p).length ≤ 1000000000) :
    Calls Tryz.prog 45 #[.string (bts (lineT p)), agP p u] w fun e w' => e = .returned (.bool (mayB p)) ∧ Below w.heap.size w w' :=
  (comesBack_any (bts (lineT p)) p u w hT hF hM (by rw [bts_size]; exact hp) hu (Mild.few hp)).mono fun e w' ⟨h1, h2⟩ => ⟨h1.trans (congrArg (fun b => Ending.returned (.bool b)) (may_com p)), h2⟩
/-- What written answers. -/
def WrittenV (B : Nat) (c : List Pr) (e : Ending) (w' : World) : Prop :=
  (∃ v, e = .returned (.tuple #[v, .bool true]) ∧ OwnT B w' v (sts (c.map lineT)) ∧ c.length ≤ 40 ∧ ∀ p ∈ c, mayB p = true) ∨ (e = .returned (.tuple #[.slice none 0 0, .bool false]) ∧ ¬ (c.length ≤ 40 ∧ ∀ p ∈ c, mayB p = true))
set_option maxHeartbeats 4000000 in
set_option maxRecDepth 100000 in
theorem written_any (v : Value) (c : List Pr) (w : World) (hT : Tabs w) (hF : Folds w) (hM : MaxL w) (hR : ReadP w v c) (hc : Mild c) (hcl : c.length ≤ 1000000000) :
    Calls Tryz.prog 21 #[v] w fun e w' => WrittenV w.heap.size c e w' ∧ Below w.heap.size w w' := by
  obtain ⟨A, cap, rfl, hcell⟩ := hR
  obtain ⟨n, hn⟩ : ∃ n, c.length = n := ⟨_, rfl⟩
  have HN := Lib.hid hn
  rw [hn] at hcell hcl ⊢
  by_cases h40 : 40 < n
  · have hno : Hid (¬ (c.length ≤ 40 ∧ ∀ p ∈ c, mayB p = true)) := fun h => by have := h.1; have := HN.out; omega
    clear hcell hn hT hF hM hc
    go_enter Tryz.func21, Tryz.ntmps21
    go_wp2_with fail
    go_ret2
    exact ⟨.inr ⟨rfl, hno.out⟩, Below.refl _ _⟩
  have HC := Lib.hid hcell
  have HMI := Lib.hid hc
  have HLO := Lib.hid (fun (p : Pr) (u : Value) (W : World) (h : Below w.heap.size w W) (hu : ReadA W u p.2.2.1) (hp : (lineT p).length ≤ 1000000000) => lineOf_any p u W hu hp)
  have HCB := Lib.hid (fun (p : Pr) (u : Value) (W : World) (h : Below w.heap.size w W) (hu : ReadA W u p.2.2.1) (hp : (lineT p).length ≤ 1000000000) => comesLine_any p u W (hT.below h) (hF.below h) (hM.below h) hu hp)
  obtain ⟨D, hD⟩ : ∃ D, w.heap.size = D := ⟨_, rfl⟩
  have HDE := Lib.hid hD
  have HO0 : Hid (OwnT D w (.slice none 0 0) (sts ((c.take 0).map lineT))) := OwnT.nil _ _
  have HB0 : Hid (Below w.heap.size w w) := Below.refl _ _
  have HA0 : Hid (∀ p ∈ c.take 0, mayB p = true) := fun p hp => by cases hp
  clear hcell hn hT hF hM hc hD
  go_enter Tryz.func21, Tryz.ntmps21
  go_wp2_with fail
  go_loopw [4, 13] (fun lv iv wr => ∃ (k : Nat) (lx : Value), lv = lx ∧ iv = .int .i64 k ∧ k ≤ n ∧ Hid (OwnT D wr lx (sts ((c.take k).map lineT))) ∧ Hid (Below w.heap.size w wr) ∧ Hid (∀ p ∈ c.take k, mayB p = true)) (fun _ iv _ => n - (intOf iv).toNat)
  case atStart => exact ⟨0, _, rfl, rfl, Nat.zero_le _, HO0, HB0, HA0⟩
  case round =>
    obtain ⟨k, lx, hlx, rfl, hkn, HO, HBW, HALL⟩ := hrel
    have hlx2 := hlx.symm
    subst hlx2
    by_cases hlt : k < n
    · obtain ⟨ad, rfl, hlb, hcell⟩ := HC.out (by omega)
      obtain ⟨p, hp⟩ : ∃ p, c[k]? = some p := ⟨_, List.getElem?_eq_getElem (by rw [HN.out]; exact hlt)⟩
      obtain ⟨u, hat, hru⟩ := hcell k p hp
      obtain ⟨c0, c1, c2, c3⟩ := hat.of (w' := wr) (HBW.out.block _ (by rw [addBlock]; exact hlb))
      have hru2 := hru.below HBW.out
      have hpm := HMI.out p (List.mem_of_getElem? hp)
      have HPM := Lib.hid hpm
      obtain ⟨UA, ucap, hua, -⟩ := hru
      obtain ⟨un, hun⟩ : ∃ un, p.2.2.1.length = un := ⟨_, rfl⟩
      rw [hun] at hua
      subst hua
      have HRU := Lib.hid hru2
      obtain ⟨x0, e0⟩ : ∃ a, bts p.1 = a := ⟨_, rfl⟩
      obtain ⟨x1, e1⟩ : ∃ a, bts p.2.1 = a := ⟨_, rfl⟩
      obtain ⟨x3, e3⟩ : ∃ a, bts p.2.2.2 = a := ⟨_, rfl⟩
      have HEX : Hid (agP p (.slice UA un ucap) = .agg #[.string x0, .string x1, .slice UA un ucap, .string x3]) := by unfold Hid agP; rw [e0, e1, e3]
      rw [e0] at c0
      rw [e1] at c1
      rw [e3] at c3
      have htk : Hid (c.take (k + 1) = c.take k ++ [p]) := by unfold Hid; rw [List.take_add_one, hp]; rfl
      have HZ : Hid (w.heap.size ≤ wr.heap.size) := HBW.out.size
      have hkl : Hid ((sts ((c.take k).map lineT)).length = k) := by unfold Hid; rw [sts_len, List.length_map, List.length_take, HN.out]; omega
      have HMEM : Hid (p ∈ c) := List.mem_of_getElem? hp
      clear hcell hat hp e0 e1 e3 hru2 hun hpm hlx
      go_upto_region 7 with fail
      obtain ⟨W5, hW5⟩ : ∃ W5, wr.alloc (.cells #[.string x0, .string x1, .slice UA un ucap, .string x3] 41) = W5 := ⟨_, rfl⟩
      obtain ⟨Y, hY⟩ : ∃ Y, wr.heap.size = Y := ⟨_, rfl⟩
      have b5 : Below wr.heap.size wr W5 := by rw [← hW5]; exact (Below.refl _ _).alloc (Nat.le_refl _) _
      have k5 : Bk W5 Y 41 #[.string x0, .string x1, .slice UA un ucap, .string x3] := by rw [← hW5, ← hY]; exact Bk.new _ _ _
      have y0 : W5.cell? ⟨Y, 0, none⟩ = some (.string x0) := k5.cell 0
      have y1 : W5.cell? ⟨Y, 1, none⟩ = some (.string x1) := k5.cell 1
      have y2 : W5.cell? ⟨Y, 2, none⟩ = some (.slice UA un ucap) := k5.cell 2
      have y3 : W5.cell? ⟨Y, 3, none⟩ = some (.string x3) := k5.cell 3
      have K5 := Lib.hid k5
      have B5 : Hid (Below w.heap.size w W5) := HBW.out.trans (b5.mono HZ.out)
      have O5 := Lib.hid (HO.out.below b5)
      have R5 := Lib.hid (HRU.out.below b5)
      have hl5 := HLO.out p (.slice UA un ucap) W5 B5.out R5.out HPM.out
      rw [HEX.out] at hl5
      have HL5 := Lib.hid hl5
      rw [hW5, hY]
      clear b5 k5 hW5 hY c0 c1 c2 c3 hl5
      go_wp2_with fail
      refine HL5.out.mono ?_
      rintro e w6 ⟨rfl, b6⟩
      have B6 : Hid (Below w.heap.size w w6) := B5.out.trans (b6.mono B5.out.size)
      have O6 := Lib.hid (O5.out.below b6)
      have k6 := K5.out.below b6 K5.out.lt
      have z0 : w6.cell? ⟨Y, 0, none⟩ = some (.string x0) := k6.cell 0
      have z1 : w6.cell? ⟨Y, 1, none⟩ = some (.string x1) := k6.cell 1
      have z2 : w6.cell? ⟨Y, 2, none⟩ = some (.slice UA un ucap) := k6.cell 2
      have z3 : w6.cell? ⟨Y, 3, none⟩ = some (.string x3) := k6.cell 3
      have hc6 := HCB.out p (.slice UA un ucap) w6 B6.out (R5.out.below b6) HPM.out
      rw [HEX.out] at hc6
      obtain ⟨lb, hlbe⟩ : ∃ lb, bts (lineT p) = lb := ⟨_, rfl⟩
      have HLB := Lib.hid hlbe
      obtain ⟨mb, hmb⟩ : ∃ mb, mayB p = mb := ⟨_, rfl⟩
      have HMB := Lib.hid hmb
      rw [hlbe, hmb] at hc6
      have HC6 := Lib.hid hc6
      rw [hlbe]
      clear hc6 b6 k6 y0 y1 y2 y3 hlbe hmb
      go_wp2_with fail
      refine HC6.out.mono ?_
      rintro e w7 ⟨rfl, b7⟩
      have B7 : Hid (Below w.heap.size w w7) := B6.out.trans (b7.mono B6.out.size)
      have O7 := Lib.hid (O6.out.below b7)
      clear b7 z0 z1 z2 z3
      cases mb
      · have hno : Hid (¬ (c.length ≤ 40 ∧ ∀ p ∈ c, mayB p = true)) := fun h => by have := h.2 p HMEM.out; rw [HMB.out] at this; cases this
        go_wp2_with fail
        go_ret2
        exact ⟨.inr ⟨rfl, hno.out⟩, B7.out⟩
      · obtain ⟨LA, lcap, rfl⟩ : ∃ A cap, lx = .slice A k cap := by
          obtain ⟨A, cap, e⟩ := O7.out.slice
          rw [hkl.out] at e
          exact ⟨A, cap, e⟩
        have Z7 : Hid (D ≤ w7.heap.size) := by rw [← HDE.out]; exact B7.out.size
        have HAL : Hid ((sts ((c.take k).map lineT)).length ≤ 1000000000000) := by unfold Hid; rw [hkl.out]; omega
        go_wp2_with (at_builtin; refine push_str rfl _ _ rfl D (.slice LA k lcap) _ lb w7 rfl O7.out rfl HAL.out Z7.out ?_)
        intro v8 w8 o8 b8
        have O8 : Hid (OwnT D w8 v8 (sts ((c.take (k + 1)).map lineT))) := by
          unfold Hid
          rw [htk.out, List.map_append, List.map_singleton, sts_snoc, show (⟨(lineT p).toArray⟩ : ByteArray) = lb from HLB.out, List.map_take]
          exact o8
        have A8 : Hid (∀ p ∈ c.take (k + 1), mayB p = true) := fun q hq => by
          rw [htk.out] at hq
          rcases List.mem_append.1 hq with hq | hq
          · exact HALL.out q hq
          · rw [List.mem_singleton] at hq; subst hq; exact HMB.out
        have B8 : Hid (Below w.heap.size w w8) := by
          have := B7.out
          rw [HDE.out] at this ⊢
          exact this.trans b8
        clear o8 b8
        go_wp2_with fail
        go_roundw
        case rel => exact ⟨k + 1, _, rfl, by go_num, by omega, O8, B8, A8⟩
        case measure => simp [intOf]; omega
    · have hke : k = n := by omega
      have hcn : Hid (c.take k = c) := List.take_of_length_le (by rw [HN.out]; omega)
      have HOE := HO.out
      have HAE := HALL.out
      rw [hcn.out] at HOE HAE
      have HOF := Lib.hid HOE
      have HAF := Lib.hid HAE
      obtain ⟨LA, lcap, rfl⟩ := HO.out.slice
      clear hlx HOE HAE hke
      go_wp2_with fail
      go_ret2
      exact ⟨.inl ⟨_, rfl, by rw [HDE.out]; exact HOF.out, by rw [HN.out]; omega, HAF.out⟩, HBW.out⟩
end Go.Proofs.YtphopnfnjnieaaaGreatDoor
