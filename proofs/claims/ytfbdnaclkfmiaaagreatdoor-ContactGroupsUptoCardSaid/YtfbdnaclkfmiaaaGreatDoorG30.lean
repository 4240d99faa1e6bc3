import Derived.Test.YtfbdnaclkfmiaaaGreatDoorG29
import Derived.Deep.Cut
import Derived.Deep.DeepCutAuto
/- what is reached of it -/
namespace Go.Proofs.YtfbdnaclkfmiaaaGreatDoor
open Go.RowKit Vc
theorem quote_set (l : List UInt8) : l.any (([59, 58, 44] : List UInt8).contains ·) = l.any (fun c => c == 59 || c == 58 || c == 44) := by
  congr 1
  funext c
  simp only [List.contains_cons, List.contains_nil, Bool.or_false, Bool.or_assoc]
theorem cat_b (a b : ByteArray) : (a ++ b).data.toList = a.data.toList ++ b.data.toList := cat_list a b
theorem cat_size (a b : ByteArray) : (a ++ b).size = a.size + b.size := by rw [Lib.size_eq, cat_b, List.length_append, ← Lib.size_eq, ← Lib.size_eq]
theorem par_bytes (nb : ByteArray) (a : Par) (v : ByteArray) (hn : nb.data.toList = a.1) (hv : v.data.toList = pvalT a.2) : ((((⟨#[59]⟩ : ByteArray) ++ nb) ++ (⟨#[61]⟩ : ByteArray)) ++ v).data.toList = parT a := by
  rw [cat_b, cat_b, cat_b, hn, hv]
  unfold parT
  simp
theorem flat_takeV {ps : List Par} {k : Nat} {a : Par} (h : ps[k]? = some a) : (ps.take (k + 1)).flatMap parT = (ps.take k).flatMap parT ++ parT a := by
  rw [List.take_add_one, h]
  simp
theorem flat_take_le (ps : List Par) (k : Nat) : ((ps.take k).flatMap parT).length ≤ (ps.flatMap parT).length := by
  conv => rhs; rw [← List.take_append_drop k ps]
  rw [List.flatMap_append, List.length_append]
  omega
theorem flat_mem {ps : List Par} {a : Par} (h : a ∈ ps) : (parT a).length ≤ (ps.flatMap parT).length := by
  induction ps with
  | nil => cases h
  | cons b ps ih =>
    rw [List.flatMap_cons, List.length_append]
    rcases List.mem_cons.1 h with rfl | h
    · omega
    · have := ih h; omega
theorem line_parts (p : Pr) : (groupT p.1).length ≤ (lineT p).length ∧ p.2.1.length ≤ (lineT p).length ∧ p.2.2.2.length + 1 ≤ (lineT p).length ∧ (p.2.2.1.flatMap parT).length ≤ (lineT p).length ∧ p.1.length ≤ (groupT p.1).length := by
  unfold lineT
  simp only [List.length_append, List.length_cons]
  refine ⟨by omega, by omega, by omega, by omega, ?_⟩
  unfold groupT
  split
  · rename_i h; rw [h]; simp
  · simp
theorem pval_len (v : List UInt8) : v.length ≤ (pvalT v).length ∧ (pvalT v).length ≤ v.length + 2 := by
  unfold pvalT
  split
  · simp only [List.length_cons, List.length_append, List.length_nil]; omega
  · exact ⟨Nat.le_refl _, by omega⟩
set_option maxHeartbeats 4000000 in
set_option maxRecDepth 100000 in
/-- vcard.lineOf -/
theorem lineOf_any (p : Pr) (u : Value) (w : World) (hu : ReadA w u p.2.2.1) (hL : (lineT p).length ≤ 1000000000) :
    Calls Tryz.prog 152 #[agP p u] w fun e w' => e = .returned (.string (bts (lineT p))) ∧ Below w.heap.size w w' := by
  obtain ⟨lp1, lp2, lp3, lp4, lp5⟩ := line_parts p
  have HL : Hid (lineT p = groupT p.1 ++ (p.2.1 ++ (p.2.2.1.flatMap parT ++ 58 :: p.2.2.2))) := rfl
  have HLL := Lib.hid hL
  obtain ⟨A, cap, rfl, hc⟩ := hu
  obtain ⟨n, hn⟩ : ∃ n, p.2.2.1.length = n := ⟨_, rfl⟩
  obtain ⟨x0, e0⟩ : ∃ a, bts p.1 = a := ⟨_, rfl⟩
  obtain ⟨x1, e1⟩ : ∃ a, bts p.2.1 = a := ⟨_, rfl⟩
  obtain ⟨x3, e3⟩ : ∃ a, bts p.2.2.2 = a := ⟨_, rfl⟩
  have E0 : Hid (x0.data.toList = p.1) := by rw [← e0]; rfl
  have E1 : Hid (x1.data.toList = p.2.1) := by rw [← e1]; rfl
  have E3 : Hid (x3.data.toList = p.2.2.2) := by rw [← e3]; rfl
  have s0 : x0.size ≤ 1000000000 := by rw [Lib.size_eq, E0.out]; omega
  have s1 : x1.size ≤ 1000000000 := by rw [Lib.size_eq, E1.out]; omega
  have s3 : x3.size ≤ 1000000000 := by rw [Lib.size_eq, E3.out]; omega
  have hnl : n ≤ 1000000000 := by have := Vc.flat_len p.2.2.1; omega
  unfold agP
  rw [e0, e1, e3, hn]
  rw [hn] at hc
  have HC := Lib.hid hc
  have HN := Lib.hid hn
  have hge : (x0.toList.isEmpty) = decide (p.1 = []) := by
    rw [← e0, ByteArray.toList_mk]
    cases p.1 <;> rfl
  have HGE := Lib.hid hge
  obtain ⟨ge, hgee⟩ : ∃ ge, x0.toList.isEmpty = ge := ⟨_, rfl⟩
  have HGG : Hid (ge = decide (p.1 = [])) := by rw [← hgee]; exact hge
  clear hc hn e0 e1 e3 hge
  go_enter Tryz.func152, Tryz.ntmps152
  go_upto_region 2 with fail
  obtain ⟨W1, hW1⟩ : ∃ W1, w.alloc (.cells #[.string x0, .string x1, .slice A n cap, .string x3] 41) = W1 := ⟨_, rfl⟩
  obtain ⟨P, hP⟩ : ∃ P, w.heap.size = P := ⟨_, rfl⟩
  have b1 : Below P w W1 := by rw [← hW1, ← hP]; exact (Below.refl _ _).alloc (Nat.le_refl _) _
  have k1 : Bk W1 P 41 #[.string x0, .string x1, .slice A n cap, .string x3] := by rw [← hW1, ← hP]; exact Bk.new _ _ _
  have z1 : W1.heap.size = P + 1 := by rw [← hW1, World.size_alloc, hP]
  obtain ⟨b, hb⟩ : ∃ b, P + 1 = b := ⟨_, rfl⟩
  have bl2 := Bld.start W1
  rw [z1, hb] at bl2
  rw [hW1, hP, hb]
  obtain ⟨W2, hW2⟩ : ∃ W2, W1.alloc (.cells #[.pointer none, .slice none 0 0] 113) = W2 := ⟨_, rfl⟩
  rw [hW2] at bl2 ⊢
  have b2 : Below b W1 W2 := by rw [← hW2, ← hb, ← z1]; exact (Below.refl _ _).alloc (Nat.le_refl _) _
  have k2 : Bk W2 P 41 #[.string x0, .string x1, .slice A n cap, .string x3] := k1.below b2 (by omega)
  have B2 : Hid (Below P w W2) := b1.trans (b2.mono (by omega))
  have BL2 := Lib.hid bl2
  have hPb : P < b := by omega
  have HKP : Hid (∀ W, Below b W2 W → Bk W P 41 #[.string x0, .string x1, .slice A n cap, .string x3]) := fun W h => k2.below h hPb
  have HWS := Lib.hid (fun (out : List UInt8) (S : ByteArray) (W : World) h hl => bld_string b (b + 1) out S W h hl)
  have HPE := Lib.hid hP
  have y0 : W2.cell? ⟨P, 0, none⟩ = some (.string x0) := k2.cell 0
  have HY : Hid (∀ W, Below b W2 W → W.cell? ⟨P, 1, none⟩ = some (.string x1) ∧ W.cell? ⟨P, 2, none⟩ = some (.slice A n cap) ∧ W.cell? ⟨P, 3, none⟩ = some (.string x3)) := fun W h => ⟨(HKP.out W h).cell 1, (HKP.out W h).cell 2, (HKP.out W h).cell 3⟩
  clear hW1 b1 k1 z1 hb bl2 hW2 b2 k2 hP
  go_upto_if 9 with fail
  go_cut [10] from 10 to 13 (fun _ wx => Hid (Bld b (b + 1) (groupT p.1) wx) ∧ Hid (Below b W2 wx))
  case first =>
    cases ge
    · have hg0 : Hid (groupT p.1 = x0.data.toList ++ [46]) := by
        unfold Hid groupT
        rw [if_neg (fun e => by have := HGG.out; rw [decide_eq_true e] at this; cases this), E0.out]
      go_wp2_with fail
      refine (HWS.out [] (x0 ++ (⟨#[46]⟩ : ByteArray)) _ BL2.out (by rw [cat_size, show (⟨#[46]⟩ : ByteArray).size = 1 from rfl, List.length_nil]; omega)).mono ?_
      rintro e w3 ⟨rfl, bl3, t3⟩
      have BL3 : Hid (Bld b (b + 1) (groupT p.1) w3) := by
        unfold Hid
        rw [hg0.out]
        rw [cat_b, List.nil_append] at bl3
        exact bl3
      have B3 : Hid (Below b W2 w3) := t3.below
      clear bl3 t3
      go_wp2_with fail
      go_meet
      exact ⟨BL3, B3⟩
    · have hg0 : Hid (groupT p.1 = []) := by
        unfold Hid groupT
        rw [if_pos (by have := HGG.out; exact of_decide_eq_true this.symm)]
      go_wp2_with fail
      go_meet
      exact ⟨by unfold Hid; rw [hg0.out]; exact BL2.out, Below.refl _ _⟩
  case rest =>
    obtain ⟨BL3, B3⟩ := hcut
    obtain ⟨y1, -, -⟩ := HY.out _ B3.out
    go_wp2_with fail
    refine (HWS.out (groupT p.1) x1 _ BL3.out (by omega)).mono ?_
    rintro e w4 ⟨rfl, bl4, t4⟩
    have BL4 : Hid (Bld b (b + 1) (groupT p.1 ++ p.2.1 ++ (p.2.2.1.take 0).flatMap parT) w4) := by
      unfold Hid
      rw [E1.out] at bl4
      simpa using bl4
    have B4 : Hid (Below b W2 w4) := B3.out.trans t4.below
    obtain ⟨-, y2, y3⟩ := HY.out _ B4.out
    clear bl4 t4 y1
    go_wp2_with fail
    go_loopw [20] (fun iv wr => ∃ (k : Nat), iv = .int .i64 k ∧ k ≤ n ∧ Hid (Bld b (b + 1) (groupT p.1 ++ p.2.1 ++ (p.2.2.1.take k).flatMap parT) wr) ∧ Hid (Below b W2 wr)) (fun iv _ => n - (intOf iv).toNat)
    case atStart => exact ⟨0, rfl, Nat.zero_le _, BL4, B4⟩
    case round =>
      obtain ⟨k, rfl, hk, HBL, HBW⟩ := hrel
      by_cases hlt : k < n
      · obtain ⟨ad, rfl, hlb, hcell⟩ := HC.out (by omega)
        obtain ⟨q, hq⟩ : ∃ q, p.2.2.1[k]? = some q := ⟨_, List.getElem?_eq_getElem (by rw [HN.out]; exact hlt)⟩
        obtain ⟨c0, c1⟩ := hcell k q hq
        have hbW : Below P w wr := B2.out.trans (HBW.out.mono (by omega))
        rw [HPE.out] at hlb
        rw [← hbW.cell (p := ad.add (k * 2)) (by rw [addBlock]; exact hlb)] at c0
        rw [← hbW.cell (p := ⟨(ad.add (k * 2)).block, (ad.add (k * 2)).off + 1, none⟩) (by show (ad.add (k * 2)).block < _; rw [addBlock]; exact hlb)] at c1
        have HQK := Lib.hid (flat_takeV hq)
        have hql := flat_mem (List.mem_of_getElem? hq)
        have hpt : (parT q).length = 2 + q.1.length + (pvalT q.2).length := by unfold parT; simp only [List.length_cons, List.length_append]; omega
        have hpv := pval_len q.2
        have HQL : Hid ((parT q).length ≤ 1000000000) := by unfold Hid; omega
        have hout := flat_take_le p.2.2.1 k
        obtain ⟨out, ho⟩ : ∃ out, groupT p.1 ++ p.2.1 ++ (p.2.2.1.take k).flatMap parT = out := ⟨_, rfl⟩
        have HOUT := Lib.hid ho
        have hol : out.length ≤ 3000000000 := by rw [← ho]; simp only [List.length_append]; omega
        rw [ho] at HBL
        obtain ⟨nb, hnb⟩ : ∃ nb, bts q.1 = nb := ⟨_, rfl⟩
        obtain ⟨vb, hvb⟩ : ∃ vb, bts q.2 = vb := ⟨_, rfl⟩
        have HNB : Hid (nb.data.toList = q.1) := by rw [← hnb]; rfl
        have HVB : Hid (vb.data.toList = q.2) := by rw [← hvb]; rfl
        have sn : nb.size ≤ 1000000000 := by rw [Lib.size_eq, HNB.out]; omega
        have sv : vb.size ≤ 1000000000 := by rw [Lib.size_eq, HVB.out]; omega
        have hve : vb.toList.isEmpty = decide (q.2 = []) := by
          rw [← hvb, ByteArray.toList_mk]
          cases q.2 <;> rfl
        have HBC : Hid (b ≤ wr.heap.size) := by have := HBL.out.lt; unfold Hid; omega
        rw [hnb] at c0
        rw [hvb] at c1
        clear hq hql hpt hpv hout ho hnb hvb hbW hcell
        go_upto_region 8 with fail
        obtain ⟨W5, hW5⟩ : ∃ W5, wr.alloc (.cells #[.string nb, .string vb] 48) = W5 := ⟨_, rfl⟩
        obtain ⟨Y, hY⟩ : ∃ Y, wr.heap.size = Y := ⟨_, rfl⟩
        have b5 : Below wr.heap.size wr W5 := by rw [← hW5]; exact (Below.refl _ _).alloc (Nat.le_refl _) _
        have k5 : Bk W5 Y 48 #[.string nb, .string vb] := by rw [← hW5, ← hY]; exact Bk.new _ _ _
        have z0 : W5.cell? ⟨Y, 0, none⟩ = some (.string nb) := k5.cell 0
        have z1 : W5.cell? ⟨Y, 1, none⟩ = some (.string vb) := k5.cell 1
        have BL5 := Lib.hid (HBL.out.below b5)
        have B5 : Hid (Below b W2 W5) := HBW.out.trans (b5.mono HBC.out)
        have Z5 : Hid (b ≤ W5.heap.size) := Nat.le_trans HBC.out b5.size
        have K5 := Lib.hid k5
        have HA := Lib.hid (hasAny_any ⟨#[59, 58, 44]⟩ vb W5 (Asc.of (by decide)) (by decide) (by decide) (by omega))
        rw [hW5, hY]
        clear b5 k5 hW5 hY c0 c1
        by_cases hv0 : q.2 = []
        · rw [decide_eq_true hv0] at hve
          have HQV : Hid ((((⟨#[34]⟩ : ByteArray) ++ vb ++ (⟨#[34]⟩ : ByteArray))).data.toList = pvalT q.2) := by
            unfold Hid pvalT
            rw [if_pos (by unfold quoteB; rw [decide_eq_true hv0]; rfl), cat_b, cat_b, HVB.out]
            rfl
          clear hv0
          go_wp2_with fail
          have HS : Hid ((((((⟨#[59]⟩ : ByteArray) ++ nb) ++ (⟨#[61]⟩ : ByteArray)) ++ ((⟨#[34]⟩ : ByteArray) ++ vb ++ (⟨#[34]⟩ : ByteArray))).data.toList) = parT q) := par_bytes nb q ((⟨#[34]⟩ : ByteArray) ++ vb ++ (⟨#[34]⟩ : ByteArray)) HNB.out HQV.out
          have hsz : (((((⟨#[59]⟩ : ByteArray) ++ nb) ++ (⟨#[61]⟩ : ByteArray)) ++ ((⟨#[34]⟩ : ByteArray) ++ vb ++ (⟨#[34]⟩ : ByteArray))).size) ≤ 1000000000 := by rw [Lib.size_eq, HS.out]; exact HQL.out
          refine (HWS.out out ((((⟨#[59]⟩ : ByteArray) ++ nb) ++ (⟨#[61]⟩ : ByteArray)) ++ ((⟨#[34]⟩ : ByteArray) ++ vb ++ (⟨#[34]⟩ : ByteArray))) _ BL5.out (by omega)).mono ?_
          rintro e w7 ⟨rfl, bl7, t7⟩
          have BL7 : Hid (Bld b (b + 1) (groupT p.1 ++ p.2.1 ++ (p.2.2.1.take (k + 1)).flatMap parT) w7) := by
            unfold Hid
            rw [HQK.out, ← List.append_assoc, HOUT.out, ← HS.out]
            exact bl7
          have B7 : Hid (Below b W2 w7) := B5.out.trans t7.below
          clear bl7 t7 HS hsz
          go_wp2_with fail
          go_roundw
          case rel => exact ⟨k + 1, by go_num, by omega, BL7, B7⟩
          case measure => simp [intOf]; omega
        · rw [decide_eq_false hv0] at hve
          obtain ⟨qb, hqb⟩ : ∃ qb, vb.data.toList.any ((⟨#[59, 58, 44]⟩ : ByteArray).data.toList.contains ·) = qb := ⟨_, rfl⟩
          have hqq : quoteB q.2 = qb := by
            unfold quoteB
            rw [decide_eq_false hv0, Bool.false_or, ← quote_set, ← HVB.out]
            exact hqb
          rw [hqb] at HA
          have HQQ := Lib.hid hqq
          clear hv0 hqb hqq
          go_wp2_with fail
          refine HA.out.mono ?_
          rintro e w6 ⟨rfl, b6⟩
          have BL6 := Lib.hid (BL5.out.below b6)
          have B6 : Hid (Below b W2 w6) := B5.out.trans (b6.mono Z5.out)
          have k6 := K5.out.below b6 K5.out.lt
          have z0' : w6.cell? ⟨Y, 0, none⟩ = some (.string nb) := k6.cell 0
          clear b6 k6
          cases qb
          · have HQV : Hid (vb.data.toList = pvalT q.2) := by
              unfold Hid pvalT
              rw [if_neg (by rw [HQQ.out]; decide), HVB.out]
            go_wp2_with fail
            have HS : Hid ((((((⟨#[59]⟩ : ByteArray) ++ nb) ++ (⟨#[61]⟩ : ByteArray)) ++ vb).data.toList) = parT q) := par_bytes nb q vb HNB.out HQV.out
            have hsz : (((((⟨#[59]⟩ : ByteArray) ++ nb) ++ (⟨#[61]⟩ : ByteArray)) ++ vb).size) ≤ 1000000000 := by rw [Lib.size_eq, HS.out]; exact HQL.out
            refine (HWS.out out ((((⟨#[59]⟩ : ByteArray) ++ nb) ++ (⟨#[61]⟩ : ByteArray)) ++ vb) _ BL6.out (by omega)).mono ?_
            rintro e w7 ⟨rfl, bl7, t7⟩
            have BL7 : Hid (Bld b (b + 1) (groupT p.1 ++ p.2.1 ++ (p.2.2.1.take (k + 1)).flatMap parT) w7) := by
              unfold Hid
              rw [HQK.out, ← List.append_assoc, HOUT.out, ← HS.out]
              exact bl7
            have B7 : Hid (Below b W2 w7) := B6.out.trans t7.below
            clear bl7 t7 HS hsz
            go_wp2_with fail
            go_roundw
            case rel => exact ⟨k + 1, by go_num, by omega, BL7, B7⟩
            case measure => simp [intOf]; omega
          · have HQV : Hid ((((⟨#[34]⟩ : ByteArray) ++ vb ++ (⟨#[34]⟩ : ByteArray))).data.toList = pvalT q.2) := by
              unfold Hid pvalT
              rw [if_pos HQQ.out, cat_b, cat_b, HVB.out]
              rfl
            go_wp2_with fail
            have HS : Hid ((((((⟨#[59]⟩ : ByteArray) ++ nb) ++ (⟨#[61]⟩ : ByteArray)) ++ ((⟨#[34]⟩ : ByteArray) ++ vb ++ (⟨#[34]⟩ : ByteArray))).data.toList) = parT q) := par_bytes nb q ((⟨#[34]⟩ : ByteArray) ++ vb ++ (⟨#[34]⟩ : ByteArray)) HNB.out HQV.out
            have hsz : (((((⟨#[59]⟩ : ByteArray) ++ nb) ++ (⟨#[61]⟩ : ByteArray)) ++ ((⟨#[34]⟩ : ByteArray) ++ vb ++ (⟨#[34]⟩ : ByteArray))).size) ≤ 1000000000 := by rw [Lib.size_eq, HS.out]; exact HQL.out
            refine (HWS.out out ((((⟨#[59]⟩ : ByteArray) ++ nb) ++ (⟨#[61]⟩ : ByteArray)) ++ ((⟨#[34]⟩ : ByteArray) ++ vb ++ (⟨#[34]⟩ : ByteArray))) _ BL6.out (by omega)).mono ?_
            rintro e w7 ⟨rfl, bl7, t7⟩
            have BL7 : Hid (Bld b (b + 1) (groupT p.1 ++ p.2.1 ++ (p.2.2.1.take (k + 1)).flatMap parT) w7) := by
              unfold Hid
              rw [HQK.out, ← List.append_assoc, HOUT.out, ← HS.out]
              exact bl7
            have B7 : Hid (Below b W2 w7) := B6.out.trans t7.below
            clear bl7 t7 HS hsz
            go_wp2_with fail
            go_roundw
            case rel => exact ⟨k + 1, by go_num, by omega, BL7, B7⟩
            case measure => simp [intOf]; omega
      · have hke : k = n := by omega
        have BLE : Hid (Bld b (b + 1) (groupT p.1 ++ p.2.1 ++ p.2.2.1.flatMap parT) wr) := by
          have := HBL.out
          rw [hke, List.take_of_length_le (by rw [HN.out]; exact Nat.le_refl _)] at this
          exact this
        obtain ⟨-, -, y3'⟩ := HY.out _ HBW.out
        clear hke
        go_wp2_with fail
        refine (HWS.out (groupT p.1 ++ p.2.1 ++ p.2.2.1.flatMap parT) ((⟨#[58]⟩ : ByteArray) ++ x3) _ BLE.out (by rw [cat_size, show (⟨#[58]⟩ : ByteArray).size = 1 from rfl]; simp only [List.length_append]; have := HLL.out; omega)).mono ?_
        rintro e w8 ⟨rfl, bl8, t8⟩
        have BL8 : Hid (Bld b (b + 1) (lineT p) w8) := by
          unfold Hid
          rw [HL.out]
          rw [cat_b, E3.out] at bl8
          simpa using bl8
        have B8 : Hid (Below b W2 w8) := HBW.out.trans t8.below
        have HSR := Lib.hid (bld_String b (b + 1) (lineT p) w8 BL8.out)
        clear bl8 t8
        go_wp2_with fail
        refine HSR.out.mono ?_
        rintro e w9 ⟨rfl, b9⟩
        go_wp2_with fail
        go_ret
        exact ⟨rfl, by rw [HPE.out]; exact B2.out.trans ((B8.out.trans b9).mono (by omega))⟩
end Go.Proofs.YtfbdnaclkfmiaaaGreatDoor
