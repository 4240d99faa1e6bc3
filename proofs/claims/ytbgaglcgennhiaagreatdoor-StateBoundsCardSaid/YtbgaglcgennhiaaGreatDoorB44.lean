import Derived.Test.YtbgaglcgennhiaaGreatDoorB42
import Derived.Test.YtbgaglcgennhiaaGreatDoorB43
/- what is reached of it -/
namespace Go.Proofs.YtbgaglcgennhiaaGreatDoor
open Go.RowKit Go.Sort Tx Vc Ct
def zeroU : Value := .agg #[.string ⟨#[]⟩, .string ⟨#[]⟩, .slice none 0 0, .slice none 0 0]
/-- what Find answers -/
def FindSV (hs : List Hst) (s : List UInt8) (w : World) (e : Ending) (w' : World) : Prop :=
  Below w.heap.size w w' ∧ ((NoU hs s ∧ e = .returned (.tuple #[zeroU, .bool false])) ∨
    ∃ i k h u y, FirstU hs s i k h u ∧ e = .returned (.tuple #[.agg (encU y).toArray, .bool true]) ∧ plU y = plU u ∧ LiveU w.heap.size w'.heap.size w' y)
set_option maxHeartbeats 8000000 in
set_option maxRecDepth 100000 in
theorem sfind_any (v : Value) (hs : List Hst) (s : List UInt8) (w : World) (hR : ReadH w v hs) (hl : hs.length ≤ 1000000) (hs2 : ∀ h ∈ hs, SmH h) (hsl : s.length ≤ 1000000000) :
    Calls Tryz.prog 13 #[.agg #[v], .string (bts s)] w fun e w' => FindSV hs s w e w' := by
  obtain ⟨va, vn, vc, rfl⟩ : ∃ a n c, v = .slice a n c := by obtain ⟨⟨A, cap, hv, _⟩, _⟩ := hR; exact ⟨A, _, cap, hv⟩
  obtain ⟨W1, hW1⟩ : ∃ W1, w.alloc (.cells #[.slice va vn vc] 24) = W1 := ⟨_, rfl⟩
  obtain ⟨sb, hsb⟩ : ∃ bx, w.heap.size = bx := ⟨_, rfl⟩
  obtain ⟨W2, hW2⟩ : ∃ W2, W1.alloc (.cells #[.string ⟨#[]⟩, .string ⟨#[]⟩, .slice none 0 0, .slice none 0 0] 28) = W2 := ⟨_, rfl⟩
  obtain ⟨rb, hrb1⟩ : ∃ r, sb + 1 = r := ⟨_, rfl⟩
  have hrb : W1.heap.size = rb := by rw [← hW1, World.size_alloc, hsb, hrb1]
  have k1 : Bk W1 sb 24 #[.slice va vn vc] := by rw [← hW1, ← hsb]; exact Bk.new _ _ _
  have k2 : Bk W2 sb 24 #[.slice va vn vc] := by rw [← hW2]; exact k1.alloc _
  have R2 : Hid (Bk W2 rb 28 #[.string ⟨#[]⟩, .string ⟨#[]⟩, .slice none 0 0, .slice none 0 0]) := by rw [← hW2, ← hrb]; exact Bk.new _ _ _
  have B2 : Hid (Below w.heap.size w W2) := by rw [← hW2, ← hW1]; exact ((Below.refl _ _).alloc (Nat.le_refl _) _).alloc (by rw [World.size_alloc]; omega) _
  have HRW : Hid (w.heap.size ≤ rb) := by unfold Hid; omega
  have HAT := Lib.hid (sat_any (.slice va vn vc) hs s W2 (hR.upon B2.out) hl (fun h hh => ⟨(hs2 h hh).users, (hs2 h hh).name⟩) hsl)
  have HUS : Hid (∀ W, Below W2.heap.size W2 W → ∀ i k h u, FirstU hs s i k h u → ReadU W (sl h.uv) h.users ∧ InU W u ∧ SmU u) := fun W hW i k h u hf => by
    have hmem : h ∈ hs := List.mem_of_getElem? hf.host
    have hum : u ∈ h.users := List.mem_of_getElem? hf.user
    have hr := ((hR.upon B2.out).upon hW).2 h hmem
    exact ⟨hr, hr.2 u hum, (hs2 h hmem).each u hum⟩
  have c0 : W2.cell? ⟨sb, 0, none⟩ = some (.slice va vn vc) := k2.cell 0
  have HW1 := Lib.hid hW1
  have HW2 := Lib.hid hW2
  have HSB := Lib.hid hsb
  have HRB := Lib.hid hrb1
  obtain ⟨S, hS⟩ : ∃ S, bts s = S := ⟨_, rfl⟩
  rw [hS] at HAT ⊢
  clear hW1 hW2 hsb hrb1 hrb k1 k2 hR hl hs2 hsl hS
  go_enter Tryz.func13, Tryz.ntmps13
  go_upto_region 1 with fail
  (try rw [HW1.out])
  (try rw [HSB.out])
  (try rw [HRB.out])
  (try rw [HW2.out])
  go_wp2_with fail
  refine HAT.out.mono ?_
  rintro e w3 ⟨b3, h3⟩
  have B3 : Hid (Below w.heap.size w w3) := B2.out.trans (b3.mono B2.out.size)
  have R3 := Lib.hid (R2.out.below b3 R2.out.lt)
  have HB23 := Lib.hid b3
  clear b3 c0 HAT
  rcases h3 with ⟨hno, rfl⟩ | ⟨i, k, h, u, b, off, un, uc, hf, huv, rfl⟩
  · have HNO := Lib.hid hno
    have r0 : w3.cell? ⟨rb, 0, none⟩ = some (.string ⟨#[]⟩) := R3.out.cell 0
    have g0 : w3.frozen? ⟨rb, 0, none⟩ = false := R3.out.free 0
    have r1 : w3.cell? ⟨rb, 1, none⟩ = some (.string ⟨#[]⟩) := R3.out.cell 1
    have g1 : w3.frozen? ⟨rb, 1, none⟩ = false := R3.out.free 1
    have r2 : w3.cell? ⟨rb, 2, none⟩ = some (.slice none 0 0) := R3.out.cell 2
    have g2 : w3.frozen? ⟨rb, 2, none⟩ = false := R3.out.free 2
    have r3 : w3.cell? ⟨rb, 3, none⟩ = some (.slice none 0 0) := R3.out.cell 3
    have g3 : w3.frozen? ⟨rb, 3, none⟩ = false := R3.out.free 3
    have R5 := Lib.hid (laidS4_bk R3.out (.string ⟨#[]⟩) (.string ⟨#[]⟩) (.slice none 0 0) (.slice none 0 0))
    have B5 := Lib.hid (laidS4_below B3.out HRW.out (.string ⟨#[]⟩) (.string ⟨#[]⟩) (.slice none 0 0) (.slice none 0 0))
    obtain ⟨w5, hw5⟩ : ∃ z, laidS4 w3 rb (.string ⟨#[]⟩) (.string ⟨#[]⟩) (.slice none 0 0) (.slice none 0 0) = z := ⟨_, rfl⟩
    rw [hw5] at R5 B5
    clear hno
    go_wp2_with fail
    (try rw [hw5])
    have j0 : w5.cell? ⟨rb, 0, none⟩ = some (.string ⟨#[]⟩) := R5.out.cell 0
    have j1 : w5.cell? ⟨rb, 1, none⟩ = some (.string ⟨#[]⟩) := R5.out.cell 1
    have j2 : w5.cell? ⟨rb, 2, none⟩ = some (.slice none 0 0) := R5.out.cell 2
    have j3 : w5.cell? ⟨rb, 3, none⟩ = some (.slice none 0 0) := R5.out.cell 3
    refine bodyPost_ret (v := .tuple #[zeroU, .bool false]) (by simp [zeroU, results, Tryz.results13, go_sem, j0, j1, j2, j3]) rfl ?_
    exact ⟨B5.out, .inl ⟨HNO.out, rfl⟩⟩
  · have HF := Lib.hid hf
    have hus := HUS.out w3 HB23.out i k h u hf
    rw [huv] at hus
    have HOU := Lib.hid (sownUser_any u w3 hus.2.1 hus.2.2)
    obtain ⟨A0, cap0, hv0, hc0⟩ := hus.1.1
    have hku := hf.user
    have hkl := (List.getElem?_eq_some_iff.1 hku).1
    obtain ⟨b', o', ha0, _, hcc⟩ := hc0 (by omega)
    have e0 : sl (some ⟨b, off, none⟩, un, uc) = .slice (some ⟨b, off, none⟩) un uc := rfl
    rw [e0] at hv0
    injection hv0 with v1 v2 v3
    rw [ha0] at v1
    injection v1 with v1
    injection v1 with v1 v4
    subst v1 v4
    have hcu := fun c q hq => hcc k u hku c q hq
    obtain ⟨P, hP⟩ : ∃ P, off + k * 4 = P := ⟨_, rfl⟩
    rw [hP] at hcu ⊢
    have HPL : Hid (plU u = plU u) := rfl
    obtain ⟨uj, um, uis, ⟨uA, unn, ucc⟩, ups, ⟨uD, ue, uf⟩⟩ := u
    obtain ⟨UX, hUX⟩ : ∃ J, bts uj = J := ⟨_, rfl⟩
    obtain ⟨UM, hUM⟩ : ∃ J, bts um = J := ⟨_, rfl⟩
    have eu : encU (⟨uj, um, uis, ⟨uA, unn, ucc⟩, ups, ⟨uD, ue, uf⟩⟩ : Usr) = [.string UX, .string UM, .slice uA unn ucc, .slice uD ue uf] := by rw [← hUX, ← hUM]; rfl
    rw [eu] at hcu HOU
    have p0 : w3.cell? ⟨b, P, none⟩ = some (.string UX) := hcu 0 _ rfl
    have p1 : w3.cell? ⟨b, P + 1, none⟩ = some (.string UM) := hcu 1 _ rfl
    have p2 : w3.cell? ⟨b, P + 2, none⟩ = some (.slice uA unn ucc) := hcu 2 _ rfl
    have p3 : w3.cell? ⟨b, P + 3, none⟩ = some (.slice uD ue uf) := hcu 3 _ rfl
    clear hf huv hus hc0 hku hkl hcc hcu eu hUX hUM e0 ha0 HUS v2 v3
    go_wp2_with fail
    refine HOU.out.mono ?_
    rintro e w4 ⟨y, rfl, ⟨hpl, hlive⟩, b4⟩
    have R4 := Lib.hid (R3.out.below b4 R3.out.lt)
    have B4 : Hid (Below w.heap.size w w4) := B3.out.trans (b4.mono B3.out.size)
    have HPL2 := Lib.hid hpl
    have HLV := Lib.hid hlive
    have HS34 : Hid (w.heap.size ≤ w3.heap.size ∧ rb < w3.heap.size) := ⟨B3.out.size, R3.out.lt⟩
    clear p0 p1 p2 p3 b4 hpl hlive HPL
    obtain ⟨y', hyy⟩ : ∃ y', y = y' := ⟨_, rfl⟩
    have HYY := Lib.hid hyy
    rw [hyy]
    clear hyy
    obtain ⟨yj, ym, yis, ⟨A2, n2, c2⟩, yps, ⟨D2, m2, d2⟩⟩ := y'
    obtain ⟨X, hX⟩ : ∃ J, bts yj = J := ⟨_, rfl⟩
    obtain ⟨M, hM⟩ : ∃ J, bts ym = J := ⟨_, rfl⟩
    have ey : (encU (⟨yj, ym, yis, ⟨A2, n2, c2⟩, yps, ⟨D2, m2, d2⟩⟩ : Usr)).toArray = #[.string X, .string M, .slice A2 n2 c2, .slice D2 m2 d2] := by rw [← hX, ← hM]; rfl
    have HEY : Hid ((encU y).toArray = #[.string X, .string M, .slice A2 n2 c2, .slice D2 m2 d2]) := by unfold Hid; rw [HYY.out]; exact ey
    rw [ey]
    clear ey hX hM
    have r0 : w4.cell? ⟨rb, 0, none⟩ = some (.string ⟨#[]⟩) := R4.out.cell 0
    have g0 : w4.frozen? ⟨rb, 0, none⟩ = false := R4.out.free 0
    have r1 : w4.cell? ⟨rb, 1, none⟩ = some (.string ⟨#[]⟩) := R4.out.cell 1
    have g1 : w4.frozen? ⟨rb, 1, none⟩ = false := R4.out.free 1
    have r2 : w4.cell? ⟨rb, 2, none⟩ = some (.slice none 0 0) := R4.out.cell 2
    have g2 : w4.frozen? ⟨rb, 2, none⟩ = false := R4.out.free 2
    have r3 : w4.cell? ⟨rb, 3, none⟩ = some (.slice none 0 0) := R4.out.cell 3
    have g3 : w4.frozen? ⟨rb, 3, none⟩ = false := R4.out.free 3
    have R5 := Lib.hid (laidS4_bk R4.out (.string X) (.string M) (.slice A2 n2 c2) (.slice D2 m2 d2))
    have B5 := Lib.hid (laidS4_below B4.out HRW.out (.string X) (.string M) (.slice A2 n2 c2) (.slice D2 m2 d2))
    have L5 : Hid (LiveU w3.heap.size w4.heap.size (laidS4 w4 rb (.string X) (.string M) (.slice A2 n2 c2) (.slice D2 m2 d2)) y) := liveU_stable _ _ _ _ _ (fun b hb _ => set_many_other rb [.string X, .string M, .slice A2 n2 c2, .slice D2 m2 d2] 0 w4 b (by have := HS34.out.2; omega)) HLV.out
    have HSZ5 : Hid ((laidS4 w4 rb (.string X) (.string M) (.slice A2 n2 c2) (.slice D2 m2 d2)).heap.size = w4.heap.size) := set_many_size rb [.string X, .string M, .slice A2 n2 c2, .slice D2 m2 d2] 0 w4
    obtain ⟨w5, hw5⟩ : ∃ z, laidS4 w4 rb (.string X) (.string M) (.slice A2 n2 c2) (.slice D2 m2 d2) = z := ⟨_, rfl⟩
    rw [hw5] at R5 B5 L5 HSZ5
    go_wp2_with fail
    (try rw [hw5])
    have j0 : w5.cell? ⟨rb, 0, none⟩ = some (.string X) := R5.out.cell 0
    have j1 : w5.cell? ⟨rb, 1, none⟩ = some (.string M) := R5.out.cell 1
    have j2 : w5.cell? ⟨rb, 2, none⟩ = some (.slice A2 n2 c2) := R5.out.cell 2
    have j3 : w5.cell? ⟨rb, 3, none⟩ = some (.slice D2 m2 d2) := R5.out.cell 3
    refine bodyPost_ret (v := .tuple #[.agg #[.string X, .string M, .slice A2 n2 c2, .slice D2 m2 d2], .bool true]) (by simp [results, Tryz.results13, go_sem, j0, j1, j2, j3]) rfl ?_
    exact ⟨B5.out, .inr ⟨i, k, h, _, y, HF.out, by rw [HEY.out], HPL2.out, liveU_wide _ _ _ _ _ _ HS34.out.1 (by rw [HSZ5.out]; exact Nat.le_refl _) L5.out⟩⟩
end Go.Proofs.YtbgaglcgennhiaaGreatDoor
