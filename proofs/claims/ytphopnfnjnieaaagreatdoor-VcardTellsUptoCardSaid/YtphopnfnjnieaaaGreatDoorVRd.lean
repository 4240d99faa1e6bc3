/-
  package vcard: Read: what it answers, at every string.
-/
import Derived.Test.YtphopnfnjnieaaaGreatDoorVRead
namespace Go.Proofs.YtphopnfnjnieaaaGreatDoor
open Go.RowKit Vc

theorem unfA_z (l : List UInt8) : 0 ≤ (unfA l).2 ∧ ((unfA l).2 ≠ 0 → (unfA l).1 = []) ∧ (unfA l).2 ≤ 17 := by
  unfold unfA
  split
  · exact ⟨by decide, fun _ => rfl, by decide⟩
  · split
    · split
      · exact ⟨by simp, fun h => absurd rfl h, by simp⟩
      · exact ⟨by decide, fun _ => rfl, by decide⟩
    · exact ⟨by decide, fun _ => rfl, by decide⟩
theorem unfA_le (l : List UInt8) : (unfA l).1.length ≤ l.length ∧ ∀ x ∈ (unfA l).1, x.length ≤ l.length := by
  unfold unfA
  split
  · exact ⟨Nat.zero_le _, fun x h => by cases h⟩
  · split
    · split
      · rename_i m hm
        obtain ⟨h1, h2⟩ := unfold_tot hm
        exact ⟨h2, fun x hx => Nat.le_trans (tot_mem hx) h1⟩
      · exact ⟨Nat.zero_le _, fun x h => by cases h⟩
    · exact ⟨Nat.zero_le _, fun x h => by cases h⟩
theorem readV_unf (l : List UInt8) : readV l = if (unfA l).2 = 0 then runV 0 ([], none) (unfA l).1 else ([], 0, (unfA l).2.toNat) := by
  unfold readV
  by_cases h1 : 20000 < l.length
  · rw [unfA_big h1, if_pos h1]
    rfl
  · rw [if_neg h1]
    cases h2 : Tx.valid l with
    | false =>
      rw [unfA_utf h1 h2]
      rfl
    | true =>
      rw [if_neg (by decide)]
      cases h3 : Tx.unfold l with
      | none => rw [unfA_line h1 h2 h3]; rfl
      | some ls => rw [unfA_ok h1 h2 h3]; rfl
/-- What Read answers. -/
def ReadsV (B : Nat) (w : World) (l : List UInt8) (e : Ending) (w' : World) : Prop :=
  (∃ v, e = .returned (.tuple #[v, .int .i64 ((readV l).2.1 : Nat), .int .i64 ((readV l).2.2 : Nat)]) ∧ ReadV w' v (readV l).1) ∧ Below B w w'
theorem ReadsV.of {B : Nat} {w w' : World} {l : List UInt8} {v : Value} {r : List (List Pr) × Nat × Nat} {z1 z2 : Int} (h : readV l = r) (hv : ReadV w' v r.1) (h1 : (r.2.1 : Int) = z1) (h2 : (r.2.2 : Int) = z2) (hb : Below B w w') : ReadsV B w l (.returned (.tuple #[v, .int .i64 z1, .int .i64 z2])) w' := by
  subst h h1 h2
  exact ⟨⟨v, rfl, hv⟩, hb⟩
set_option maxHeartbeats 4000000 in
set_option maxRecDepth 100000 in
theorem read_any (s : ByteArray) (w : World) (hT : Tabs w) (hM : MaxL w) (hF : Folds w) (hs : s.size < 1000000000) :
    Calls Tryz.prog 8 #[.string s] w (ReadsV w.heap.size w s.data.toList) := by
  obtain ⟨l, hl⟩ : ∃ l, s.data.toList = l := ⟨_, rfl⟩
  have hsz := Lib.size_eq s
  have HU := unfold_any s w hT hM hs
  rw [hl] at HU hsz ⊢
  have HUH := Lib.hid HU
  have HT := Lib.hid hT
  have HM := Lib.hid hM
  have HF := Lib.hid hF
  obtain ⟨hz0, hz1, hz2⟩ := unfA_z l
  obtain ⟨hle1, hle2⟩ := unfA_le l
  have HRV := Lib.hid (readV_unf l)
  obtain ⟨z, hz⟩ : ∃ z, (unfA l).2 = z := ⟨_, rfl⟩
  obtain ⟨m, hm⟩ : ∃ m, (unfA l).1 = m := ⟨_, rfl⟩
  have HUD : Hid (∀ e w', Unfolded w.heap.size w l e w' → ∃ v, e = .returned (.tuple #[v, .int .i64 z]) ∧ ReadT w'.heap.size w' v (sts m) ∧ Below w.heap.size w w') := fun e w' h => by
    unfold Unfolded at h
    rwa [hz, hm] at h
  rw [hz, hm] at HRV
  rw [hz] at hz0 hz1 hz2
  rw [hm] at hz1 hle1 hle2
  have HLE2 := Lib.hid hle2
  have hml : m.length ≤ 1000000000 := by omega
  have hll : l.length ≤ 1000000000 := by omega
  clear HU hT hM hF hsz hl hz hm hle2
  go_enter Tryz.func8, Tryz.ntmps8
  go_wp2_with fail
  refine HUH.out.mono ?_
  intro e w1 hx
  obtain ⟨v, rfl, hv, b1⟩ := HUD.out e w1 hx
  have B1 := Lib.hid b1
  have HV := Lib.hid hv
  clear hx b1 hv
  by_cases h0 : z = 0
  · have HRV0 : Hid (readV l = runV 0 ([], none) m) := by unfold Hid; rw [HRV.out, if_pos h0]
    subst h0
    obtain ⟨A, cap, rfl, hcell⟩ := HV.out
    have hsl : (sts m).length = m.length := sts_len m
    rw [hsl] at hcell ⊢
    obtain ⟨n, hn⟩ : ∃ n, m.length = n := ⟨_, rfl⟩
    rw [hn] at hcell hml ⊢
    have HN := Lib.hid hn
    have HC := Lib.hid hcell
    clear hsl hn hcell hz0 hz1 hz2 hle1
    go_upto_region 5 with fail
    obtain ⟨W2, hW2⟩ : ∃ W2, w1.alloc (.cells #[.int .i64 0, .slice none 0 0, .int .i64 60] 50) = W2 := ⟨_, rfl⟩
    obtain ⟨B, hB⟩ : ∃ B, w1.heap.size = B := ⟨_, rfl⟩
    have b2 : Below B w1 W2 := by rw [← hW2, ← hB]; exact (Below.refl _ _).alloc (Nat.le_refl _) _
    have k2 : Bk W2 B 50 #[.int .i64 0, .slice none 0 0, .int .i64 60] := by rw [← hW2, ← hB]; exact Bk.new _ _ _
    have z2 : B ≤ W2.heap.size := by have := b2.size; omega
    have HRG : Hid (Rdg B B W2 ([], none)) := ⟨.slice none 0 0, [], B, Nat.le_refl _, z2, k2, OwnL.nil _ _, RowsP.nil _ _, by simp⟩
    have HB2 := Lib.hid b2
    have HBE := Lib.hid hB
    have HR0 : Hid (runV 0 ([], none) (m.drop 0) = runV 0 ([], none) m) := by unfold Hid; rw [List.drop_zero]
    have HUP : Hid (∀ W, Below B w1 W → Below w.heap.size w W) := fun W hW => B1.out.trans (hW.mono (by rw [← HBE.out]; exact B1.out.size))
    have HUP1 : Hid (∀ W, Below B w1 W → Below w1.heap.size w1 W) := fun W hW => by rw [HBE.out]; exact hW
    rw [hW2, hB]
    rw [hB] at HC
    clear b2 k2 z2 hW2 hB
    go_wp2_with fail
    go_loopw [23] (fun iv wr => ∃ (k : Nat) (st : RSt), iv = .int .i64 k ∧ k ≤ n ∧ Hid (Rdg B B wr st) ∧ Hid (Below B w1 wr) ∧ Hid (runV k st (m.drop k) = runV 0 ([], none) m)) (fun iv _ => n - (intOf iv).toNat)
    case atStart => exact ⟨0, ([], none), rfl, Nat.zero_le _, HRG, HB2, HR0⟩
    case round =>
      obtain ⟨k, st, rfl, hk, HRD, HBW, HRU⟩ := hrel
      by_cases hlt : k < n
      · obtain ⟨ad, rfl, hlb, hc⟩ := HC.out (by omega)
        obtain ⟨x, hx⟩ : ∃ x, m[k]? = some x := ⟨_, List.getElem?_eq_getElem (by rw [HN.out]; exact hlt)⟩
        have c0 := hc k (bts x) (by unfold sts; rw [List.getElem?_map, hx]; rfl)
        rw [← HBW.out.cell (p := ad.add k) (by rw [addBlock]; exact hlb)] at c0
        have hxl : x.length ≤ l.length := HLE2.out x (List.mem_of_getElem? hx)
        have hdr : m.drop k = x :: m.drop (k + 1) := by
          obtain ⟨h1, h2⟩ := List.getElem?_eq_some_iff.1 hx
          rw [List.drop_eq_getElem_cons h1, h2]
        have HT1 := Lib.hid (take_any B B (bts x) wr st (HT.out.below (HUP.out wr HBW.out)) (HF.out.below (HUP.out wr HBW.out)) (HM.out.below (HUP.out wr HBW.out)) (by rw [bts_size]; omega) HRD.out (Nat.le_refl _))
        obtain ⟨xb, hxb⟩ : ∃ xb, bts x = xb := ⟨_, rfl⟩
        have HXB : Hid (xb.data.toList = x) := by rw [← hxb]; rfl
        obtain ⟨ez, hez⟩ : ∃ ez : Int, ((stepV st x).1 : Int) = ez := ⟨_, rfl⟩
        have HEZ := Lib.hid hez
        have HT2 : Hid (Calls Tryz.prog 16 #[.pointer (some ⟨B, 0, none⟩), .string xb] wr fun e w' => e = .returned (.int .i64 ez) ∧ Below B wr w' ∧ ((stepV st x).1 = 0 → Rdg B B w' (stepV st x).2)) := by
          have := HT1.out
          rw [hxb, HXB.out] at this
          rw [← hez]
          exact this
        have HDR := Lib.hid hdr
        rw [hxb] at c0
        by_cases he : (stepV st x).1 = 0
        · have he0 : ez = 0 := by rw [← hez, he]; rfl
          have HRU2 : Hid (runV (k + 1) (stepV st x).2 (m.drop (k + 1)) = runV 0 ([], none) m) := by
            unfold Hid
            rw [← HRU.out, HDR.out]
            exact (run_ok (st' := (stepV st x).2) (Prod.ext he rfl) _).symm
          have HE := Lib.hid he
          subst he0
          clear hx hdr hxl hc HT1 hxb hez he
          go_wp2_with fail
          refine HT2.out.mono ?_
          rintro e w3 ⟨rfl, b3, r3⟩
          have B3 : Hid (Below B w1 w3) := HBW.out.trans b3
          have R3 := Lib.hid (r3 HE.out)
          clear b3 r3
          go_wp2_with fail
          go_roundw
          case rel => exact ⟨k + 1, _, by go_num, by omega, R3, B3, HRU2⟩
          case measure => simp [intOf]; omega
        · have gz : (ez != 0) = true := bne_iff_ne.2 (by omega)
          have hres : Hid (readV l = ([], k + 1, (stepV st x).1)) := by
            unfold Hid
            rw [HRV0.out, ← HRU.out, HDR.out]
            exact run_no (st' := (stepV st x).2) rfl he _
          clear hx hdr hxl hc HT1 hxb hez he
          go_wp2_with fail
          refine HT2.out.mono ?_
          rintro e w3 ⟨rfl, b3, r3⟩
          have B3 : Hid (Below B w1 w3) := HBW.out.trans b3
          clear b3 r3
          go_wp2_with fail
          go_ret3
          exact ReadsV.of hres.out (ReadV.nil _) (by simp) HEZ.out (HUP.out _ B3.out)
      · have hke : k = n := by omega
        have hre : Hid (runV n st [] = readV l) := by
          unfold Hid
          rw [HRV0.out, ← HRU.out, List.drop_eq_nil_of_le (by rw [HN.out]; omega), hke]
        subst hke
        obtain ⟨a, op⟩ := st
        match op, HRD, hre with
        | none, HRD, hre =>
          have HTO := Lib.hid (told_any B B wr a HRD.out)
          obtain ⟨v5, us5, C5, -, -, hk5, -⟩ := HRD.out
          have c0 : wr.cell? ⟨B, 0, none⟩ = some (.int .i64 0) := hk5.cell 0
          have hres : Hid (readV l = (a, 0, 0)) := by unfold Hid; rw [← hre.out]; rfl
          clear hk5
          go_wp2_with fail
          refine HTO.out.mono ?_
          rintro e w3 ⟨v3, rfl, h3, b3⟩
          have H3 := Lib.hid h3
          have B3 : Hid (Below B w1 w3) := HBW.out.trans (b3.mono (by rw [← HBE.out]; exact (HUP1.out _ HBW.out).size))
          obtain ⟨A3, cap3, rfl⟩ := h3.slice
          clear h3 b3
          go_wp2_with fail
          go_ret3
          exact ReadsV.of hres.out H3.out rfl rfl (HUP.out _ B3.out)
        | some (f, c), HRD, hre =>
          obtain ⟨v5, us5, C5, -, -, hk5, -⟩ := HRD.out
          have hres : Hid (readV l = ([], k, 20)) := by unfold Hid; rw [← hre.out]; rfl
          cases f
          · have c0 : wr.cell? ⟨B, 0, none⟩ = some (.int .i64 2) := hk5.cell 0
            clear hk5
            go_wp2_with fail
            go_ret3
            exact ReadsV.of hres.out (ReadV.nil _) rfl rfl (HUP.out _ HBW.out)
          · have c0 : wr.cell? ⟨B, 0, none⟩ = some (.int .i64 1) := hk5.cell 0
            clear hk5
            go_wp2_with fail
            go_ret3
            exact ReadsV.of hres.out (ReadV.nil _) rfl rfl (HUP.out _ HBW.out)
  · have hr : Hid (readV l = ([], 0, z.toNat)) := by unfold Hid; rw [HRV.out, if_neg h0]
    have gz : (z != 0) = true := bne_iff_ne.2 h0
    have htz : Hid (((z.toNat : Nat) : Int) = z) := Int.toNat_of_nonneg hz0
    obtain ⟨A, cap, rfl, -⟩ := HV.out
    clear h0 hz1 hz2 hle1
    go_wp2_with fail
    go_ret3
    exact ReadsV.of hr.out (ReadV.nil _) rfl htz.out B1.out
end Go.Proofs.YtphopnfnjnieaaaGreatDoor
