/- Texts laid together: VRl VRy VRk -/
import Derived.Test.YtphopnfnjnieaaaGreatDoorVRm
import Derived.Test.YtphopnfnjnieaaaGreatDoorVLin
import Derived.Test.YtphopnfnjnieaaaGreatDoorVRe
import Derived.Test.YtphopnfnjnieaaaGreatDoorVRq
import Derived.Test.YtphopnfnjnieaaaGreatDoorRefV
import Derived.Test.YtphopnfnjnieaaaGreatDoorRefFo
/-
  The document's side of package vcard: cardexref08.line.
-/
namespace Go.Proofs.YtphopnfnjnieaaaGreatDoor
open Go.RowKit Vc

/-- What wants quotes. -/
def qb (c : UInt8) : Bool := c == 59 || c == 58 || c == 44
theorem qb_cases (c : UInt8) {z : Int} (h : ((c.toNat : Nat) : Int) = z) : (qb c = true ∧ (z == 59) = true) ∨ (qb c = true ∧ (z == 59) = false ∧ (z == 58) = true) ∨ (qb c = true ∧ (z == 59) = false ∧ (z == 58) = false ∧ (z == 44) = true) ∨ (qb c = false ∧ (z == 59) = false ∧ (z == 58) = false ∧ (z == 44) = false) := by
  have H : ∀ k : Fin 256, (qb (UInt8.ofNat k.val) = true ∧ (((k.val : Nat) : Int) == 59) = true) ∨ (qb (UInt8.ofNat k.val) = true ∧ (((k.val : Nat) : Int) == 59) = false ∧ (((k.val : Nat) : Int) == 58) = true) ∨ (qb (UInt8.ofNat k.val) = true ∧ (((k.val : Nat) : Int) == 59) = false ∧ (((k.val : Nat) : Int) == 58) = false ∧ (((k.val : Nat) : Int) == 44) = true) ∨ (qb (UInt8.ofNat k.val) = false ∧ (((k.val : Nat) : Int) == 59) = false ∧ (((k.val : Nat) : Int) == 58) = false ∧ (((k.val : Nat) : Int) == 44) = false) := by decide +kernel
  have := H ⟨c.toNat, c.toNat_lt⟩
  rw [← h]
  simpa only [UInt8.ofNat_toNat] using this
theorem quote_qb (v : List UInt8) : quoteB v = (decide (v = []) || v.any qb) := rfl
theorem any_take {v : List UInt8} {k : Nat} {c : UInt8} (h : v[k]? = some c) : (v.take (k + 1)).any qb = ((v.take k).any qb || qb c) := by
  rw [List.take_add_one, h, List.any_append]
  simp
set_option maxHeartbeats 8000000 in
set_option maxRecDepth 100000 in
theorem rline_any (p : Pr) (u : Value) (w : World) (hu : ReadA w u p.2.2.1) (hL : (lineT p).length ≤ 1000000) :
    Calls Tryz.prog 24 #[agP p u] w fun e w' => e = .returned (.string (bts (lineT p))) ∧ Below w.heap.size w w' := by
  obtain ⟨lp1, lp2, lp3, lp4, lp5⟩ := line_parts p
  have HL : Hid (lineT p = groupT p.1 ++ (p.2.1 ++ (p.2.2.1.flatMap parT ++ 58 :: p.2.2.2))) := rfl
  have HLL := Lib.hid hL
  obtain ⟨A, cap, rfl, hc⟩ := hu
  obtain ⟨n, hn⟩ : ∃ n, p.2.2.1.length = n := ⟨_, rfl⟩
  obtain ⟨x0, e0⟩ : ∃ a, bts p.1 = a := ⟨_, rfl⟩
  obtain ⟨x1, e1⟩ : ∃ a, bts p.2.1 = a := ⟨_, rfl⟩
  obtain ⟨x3, e3⟩ : ∃ a, bts p.2.2.2 = a := ⟨_, rfl⟩
  have E0 : Hid (x0.data.toList = p.1) := by rw [← e0]; rfl
  have E1 : Hid (x1.data.toList = p.2.1) := by rw [← e1]; rfl
  have E3 : Hid (x3.data.toList = p.2.2.2) := by rw [← e3]; rfl
  have s0 : x0.size ≤ 1000000 := by rw [Lib.size_eq, E0.out]; omega
  have s1 : x1.size ≤ 1000000 := by rw [Lib.size_eq, E1.out]; omega
  have s3 : x3.size ≤ 1000000 := by rw [Lib.size_eq, E3.out]; omega
  have hnl : n ≤ 1000000000 := by have := flat_len p.2.2.1; omega
  unfold agP
  rw [e0, e1, e3, hn]
  rw [hn] at hc
  have HN := Lib.hid hn
  have hge : (x0.toList.isEmpty) = decide (p.1 = []) := by
    rw [← e0, ByteArray.toList_mk]
    cases p.1 <;> rfl
  obtain ⟨ge, hgee⟩ : ∃ ge, x0.toList.isEmpty = ge := ⟨_, rfl⟩
  have HGG : Hid (ge = decide (p.1 = [])) := by rw [← hgee]; exact hge
  have HLP : Hid ((groupT p.1).length ≤ (lineT p).length ∧ p.2.1.length ≤ (lineT p).length ∧ (p.2.2.1.flatMap parT).length ≤ (lineT p).length) := ⟨lp1, lp2, lp4⟩
  have HC := Lib.hid hc
  clear hn e0 e1 e3 hge lp1 lp2 lp3 lp4 lp5 hL hc
  go_enter Tryz.func24, Tryz.ntmps24
  go_upto_region 1 with fail
  obtain ⟨W1, hW1⟩ : ∃ W1, w.alloc (.cells #[.string x0, .string x1, .slice A n cap, .string x3] 41) = W1 := ⟨_, rfl⟩
  obtain ⟨P, hP⟩ : ∃ P, w.heap.size = P := ⟨_, rfl⟩
  have b1 : Below w.heap.size w W1 := by rw [← hW1]; exact (Below.refl _ _).alloc (Nat.le_refl _) _
  have k1 : Bk W1 P 41 #[.string x0, .string x1, .slice A n cap, .string x3] := by rw [← hW1, ← hP]; exact Bk.new _ _ _
  rw [hW1, hP]
  have HCW : Hid (0 < n → ∃ ad : Addr, A = some ad ∧ ∀ (i : Nat) (a : Att), p.2.2.1[i]? = some a → W1.cell? (ad.add (i * 2)) = some (.string (bts a.1)) ∧ W1.cell? ⟨(ad.add (i * 2)).block, (ad.add (i * 2)).off + 1, none⟩ = some (.string (bts a.2))) := fun h => by
    obtain ⟨ad, e, hlb, hcell⟩ := HC.out h
    refine ⟨ad, e, fun i a hi => ?_⟩
    rw [b1.cell (by rw [addBlock]; exact hlb), b1.cell (by show (ad.add (i * 2)).block < _; rw [addBlock]; exact hlb)]
    exact hcell i a hi
  have HB1 := Lib.hid b1
  have y0 : W1.cell? ⟨P, 0, none⟩ = some (.string x0) := k1.cell 0
  have y1 : W1.cell? ⟨P, 1, none⟩ = some (.string x1) := k1.cell 1
  have y2 : W1.cell? ⟨P, 2, none⟩ = some (.slice A n cap) := k1.cell 2
  have y3 : W1.cell? ⟨P, 3, none⟩ = some (.string x3) := k1.cell 3
  clear hW1 b1 k1 hP HC
  cases ge
  · have HS0 : Hid ((x0 ++ (⟨#[46]⟩ : ByteArray) ++ x1).data.toList = groupT p.1 ++ p.2.1 ++ (p.2.2.1.take 0).flatMap parT) := by
      unfold Hid groupT
      rw [if_neg (fun e => by have := HGG.out; rw [decide_eq_true e] at this; cases this), cat_b, cat_b, E0.out, E1.out]
      simp
    go_upto_region 4 with fail
    obtain ⟨sb0, hsb0⟩ : ∃ sb, x0 ++ (⟨#[46]⟩ : ByteArray) ++ x1 = sb := ⟨_, rfl⟩
    rw [hsb0] at HS0 ⊢
    clear hsb0
    have HSZ : Hid (∀ (i : Nat) (sb : ByteArray), sb.data.toList = groupT p.1 ++ p.2.1 ++ (p.2.2.1.take i).flatMap parT → sb.size ≤ 3000000) := fun i sb h => by
      have h1 := flat_take_le p.2.2.1 i
      have h2 := HLP.out
      have h3 := HLL.out
      rw [Lib.size_eq, h]
      simp only [List.length_append]
      omega
    go_wp2_with fail
    go_loopw [3, 4] (fun sv iv wr => ∃ (i : Nat) (sb : ByteArray), sv = .string sb ∧ iv = .int .i64 i ∧ i ≤ n ∧ Hid (sb.data.toList = groupT p.1 ++ p.2.1 ++ (p.2.2.1.take i).flatMap parT) ∧ wr = W1) (fun _ iv _ => n - (intOf iv).toNat)
    case atStart => exact ⟨0, sb0, rfl, rfl, Nat.zero_le _, HS0, rfl⟩
    case round =>
      obtain ⟨i, sb, rfl, rfl, hi, HS, hwr⟩ := hrel
      subst hwr
      obtain ⟨W2, rfl⟩ : ∃ x, x = wr := ⟨_, rfl⟩
      have hsb : sb.size ≤ 3000000 := HSZ.out i sb HS.out
      by_cases hlt : i < n
      · obtain ⟨ad, rfl, hcell⟩ := HCW.out (by omega)
        obtain ⟨q, hq⟩ : ∃ q, p.2.2.1[i]? = some q := ⟨_, List.getElem?_eq_getElem (by rw [HN.out]; exact hlt)⟩
        obtain ⟨c0, c1⟩ := hcell i q hq
        have HQK := Lib.hid (flat_take hq)
        have hql := flat_mem (List.mem_of_getElem? hq)
        have hpt : (parT q).length = 2 + q.1.length + (pvalT q.2).length := by unfold parT; simp only [List.length_cons, List.length_append]; omega
        have hpv := pval_len q.2
        have hlp := HLP.out
        have hll := HLL.out
        obtain ⟨nb, hnb⟩ : ∃ nb, bts q.1 = nb := ⟨_, rfl⟩
        obtain ⟨vb, hvb⟩ : ∃ vb, bts q.2 = vb := ⟨_, rfl⟩
        have HNB : Hid (nb.data.toList = q.1) := by rw [← hnb]; rfl
        have HVB : Hid (vb.data.toList = q.2) := by rw [← hvb]; rfl
        have sn : nb.size ≤ 1000000 := by rw [Lib.size_eq, HNB.out]; omega
        have sv : vb.size ≤ 1000000 := by rw [Lib.size_eq, HVB.out]; omega
        have hve : vb.toList.isEmpty = decide (q.2 = []) := by
          rw [← hvb, ByteArray.toList_mk]
          cases q.2 <;> rfl
        obtain ⟨b0, hb0⟩ : ∃ b, decide (q.2 = []) = b := ⟨_, rfl⟩
        rw [hb0] at hve
        have HB0 : Hid (b0 = (decide (q.2 = []) || (q.2.take 0).any qb)) := by unfold Hid; rw [hb0]; simp
        rw [hnb] at c0
        rw [hvb] at c1
        have HGS := Lib.hid (fun k (h : k < vb.size) => get_sign vb k h)
        clear hq hql hpt hpv hnb hvb hcell hb0 hlp hll
        go_wp2_with fail
        go_loopw [6, 7] (fun bv kv wr2 => ∃ (k : Nat) (b : Bool), bv = .bool b ∧ kv = .int .i64 k ∧ k ≤ vb.size ∧ Hid (b = (decide (q.2 = []) || (q.2.take k).any qb)) ∧ wr2 = W2) (fun _ kv _ => vb.size - (intOf kv).toNat)
        case atStart => exact ⟨0, b0, rfl, rfl, Nat.zero_le _, HB0, rfl⟩
        case round =>
          obtain ⟨k, b, rfl, rfl, hk, HB, hwr⟩ := hrel
          subst hwr
          clear HB0 hve
          by_cases hkl : k < vb.size
          · have hg := HGS.out k hkl
            obtain ⟨c, hc⟩ : ∃ c : UInt8, vb[k]'hkl = c := ⟨_, rfl⟩
            rw [hc, HVB.out] at hg
            obtain ⟨z, hz⟩ : ∃ z : Int, ((c.toNat : Nat) : Int) = z := ⟨_, rfl⟩
            have hcz : ((((vb[k]'hkl).toNat : Nat)) : Int) = z := by rw [hc]; exact hz
            have HT := Lib.hid (any_take hg)
            cases b
            · have hcs := qb_cases c hz
              clear hg hc hz
              rcases hcs with ⟨hq1, z1⟩ | ⟨hq1, z1, z2⟩ | ⟨hq1, z1, z2, z3⟩ | ⟨hq1, z1, z2, z3⟩
              case' inr.inr.inr =>
                have HB2 : Hid (false = (decide (q.2 = []) || (q.2.take (k + 1)).any qb)) := by
                  unfold Hid
                  rw [HT.out, hq1, Bool.or_false]
                  exact HB.out
              case' inl | inr.inl | inr.inr.inl =>
                have HB2 : Hid (true = (decide (q.2 = []) || (q.2.take (k + 1)).any qb)) := by
                  unfold Hid
                  rw [HT.out, hq1, Bool.or_true, Bool.or_true]
              all_goals
                clear hq1 HT HB
                go_wp2_with fail
                go_roundw
                case rel => exact ⟨k + 1, _, rfl, by go_num, by omega, HB2, trivial⟩
                case measure => simp [intOf]; omega
            · have HB2 : Hid (true = (decide (q.2 = []) || (q.2.take (k + 1)).any qb)) := by
                unfold Hid
                rw [HT.out, ← Bool.or_assoc, ← HB.out]
                rfl
              clear hg hc hz HT HB
              go_wp2_with fail
              go_roundw
              case rel => exact ⟨k + 1, _, rfl, by go_num, by omega, HB2, trivial⟩
              case measure => simp [intOf]; omega
          · have HQB : Hid (b = quoteB q.2) := by
              have := HB.out
              rw [List.take_of_length_le (by rw [← HVB.out, ← Lib.size_eq]; omega)] at this
              exact this
            clear HB
            have HPUT : Hid (∀ v : ByteArray, v.data.toList = pvalT q.2 → (sb ++ (⟨#[59]⟩ : ByteArray) ++ nb ++ (⟨#[61]⟩ : ByteArray) ++ v).data.toList = groupT p.1 ++ p.2.1 ++ (p.2.2.1.take (i + 1)).flatMap parT) := fun v hv => by
              rw [cat_b, cat_b, cat_b, cat_b, HS.out, HNB.out, hv, HQK.out]
              unfold parT
              simp [List.append_assoc]
            cases b
            · have HPV : Hid (vb.data.toList = pvalT q.2) := by unfold Hid pvalT; rw [← HQB.out, HVB.out]; rfl
              have HX := Lib.hid (HPUT.out _ HPV.out)
              clear HPUT HPV
              go_wp2_with fail
              go_roundw
              case rel => exact ⟨i + 1, _, rfl, by go_num, by omega, HX, trivial⟩
              case measure => simp [intOf]; omega
            · have HPV : Hid (((⟨#[34]⟩ : ByteArray) ++ vb ++ (⟨#[34]⟩ : ByteArray)).data.toList = pvalT q.2) := by unfold Hid pvalT; rw [← HQB.out, cat_b, cat_b, HVB.out]; rfl
              have HX := Lib.hid (HPUT.out _ HPV.out)
              clear HPUT HPV
              go_wp2_with fail
              go_roundw
              case rel => exact ⟨i + 1, _, rfl, by go_num, by omega, HX, trivial⟩
              case measure => simp [intOf]; omega
      · have HE : Hid ((sb ++ (⟨#[58]⟩ : ByteArray) ++ x3).data.toList = lineT p) := by
          have := HS.out
          rw [List.take_of_length_le (by rw [HN.out]; omega)] at this
          unfold Hid
          rw [cat_b, cat_b, this, E3.out, HL.out]
          simp [List.append_assoc]
        go_wp2_with fail
        go_ret
        exact ⟨by rw [bts_of HE.out]; rfl, HB1.out⟩
  · have HS0 : Hid (x1.data.toList = groupT p.1 ++ p.2.1 ++ (p.2.2.1.take 0).flatMap parT) := by
      unfold Hid groupT
      rw [if_pos (by have := HGG.out; exact of_decide_eq_true this.symm), E1.out]
      simp
    go_upto_region 4 with fail
    obtain ⟨sb0, hsb0⟩ : ∃ sb, x1 = sb := ⟨_, rfl⟩
    rw [hsb0] at HS0
    rw [hsb0]
    have HSZ : Hid (∀ (i : Nat) (sb : ByteArray), sb.data.toList = groupT p.1 ++ p.2.1 ++ (p.2.2.1.take i).flatMap parT → sb.size ≤ 3000000) := fun i sb h => by
      have h1 := flat_take_le p.2.2.1 i
      have h2 := HLP.out
      have h3 := HLL.out
      rw [Lib.size_eq, h]
      simp only [List.length_append]
      omega
    go_wp2_with fail
    go_loopw [3, 4] (fun sv iv wr => ∃ (i : Nat) (sb : ByteArray), sv = .string sb ∧ iv = .int .i64 i ∧ i ≤ n ∧ Hid (sb.data.toList = groupT p.1 ++ p.2.1 ++ (p.2.2.1.take i).flatMap parT) ∧ wr = W1) (fun _ iv _ => n - (intOf iv).toNat)
    case atStart => exact ⟨0, sb0, rfl, rfl, Nat.zero_le _, HS0, rfl⟩
    case round =>
      obtain ⟨i, sb, rfl, rfl, hi, HS, hwr⟩ := hrel
      subst hwr
      obtain ⟨W2, rfl⟩ : ∃ x, x = wr := ⟨_, rfl⟩
      have hsb : sb.size ≤ 3000000 := HSZ.out i sb HS.out
      by_cases hlt : i < n
      · obtain ⟨ad, rfl, hcell⟩ := HCW.out (by omega)
        obtain ⟨q, hq⟩ : ∃ q, p.2.2.1[i]? = some q := ⟨_, List.getElem?_eq_getElem (by rw [HN.out]; exact hlt)⟩
        obtain ⟨c0, c1⟩ := hcell i q hq
        have HQK := Lib.hid (flat_take hq)
        have hql := flat_mem (List.mem_of_getElem? hq)
        have hpt : (parT q).length = 2 + q.1.length + (pvalT q.2).length := by unfold parT; simp only [List.length_cons, List.length_append]; omega
        have hpv := pval_len q.2
        have hlp := HLP.out
        have hll := HLL.out
        obtain ⟨nb, hnb⟩ : ∃ nb, bts q.1 = nb := ⟨_, rfl⟩
        obtain ⟨vb, hvb⟩ : ∃ vb, bts q.2 = vb := ⟨_, rfl⟩
        have HNB : Hid (nb.data.toList = q.1) := by rw [← hnb]; rfl
        have HVB : Hid (vb.data.toList = q.2) := by rw [← hvb]; rfl
        have sn : nb.size ≤ 1000000 := by rw [Lib.size_eq, HNB.out]; omega
        have sv : vb.size ≤ 1000000 := by rw [Lib.size_eq, HVB.out]; omega
        have hve : vb.toList.isEmpty = decide (q.2 = []) := by
          rw [← hvb, ByteArray.toList_mk]
          cases q.2 <;> rfl
        obtain ⟨b0, hb0⟩ : ∃ b, decide (q.2 = []) = b := ⟨_, rfl⟩
        rw [hb0] at hve
        have HB0 : Hid (b0 = (decide (q.2 = []) || (q.2.take 0).any qb)) := by unfold Hid; rw [hb0]; simp
        rw [hnb] at c0
        rw [hvb] at c1
        have HGS := Lib.hid (fun k (h : k < vb.size) => get_sign vb k h)
        clear hq hql hpt hpv hnb hvb hcell hb0 hlp hll
        go_wp2_with fail
        go_loopw [6, 7] (fun bv kv wr2 => ∃ (k : Nat) (b : Bool), bv = .bool b ∧ kv = .int .i64 k ∧ k ≤ vb.size ∧ Hid (b = (decide (q.2 = []) || (q.2.take k).any qb)) ∧ wr2 = W2) (fun _ kv _ => vb.size - (intOf kv).toNat)
        case atStart => exact ⟨0, b0, rfl, rfl, Nat.zero_le _, HB0, rfl⟩
        case round =>
          obtain ⟨k, b, rfl, rfl, hk, HB, hwr⟩ := hrel
          subst hwr
          clear HB0 hve
          by_cases hkl : k < vb.size
          · have hg := HGS.out k hkl
            obtain ⟨c, hc⟩ : ∃ c : UInt8, vb[k]'hkl = c := ⟨_, rfl⟩
            rw [hc, HVB.out] at hg
            obtain ⟨z, hz⟩ : ∃ z : Int, ((c.toNat : Nat) : Int) = z := ⟨_, rfl⟩
            have hcz : ((((vb[k]'hkl).toNat : Nat)) : Int) = z := by rw [hc]; exact hz
            have HT := Lib.hid (any_take hg)
            cases b
            · have hcs := qb_cases c hz
              clear hg hc hz
              rcases hcs with ⟨hq1, z1⟩ | ⟨hq1, z1, z2⟩ | ⟨hq1, z1, z2, z3⟩ | ⟨hq1, z1, z2, z3⟩
              case' inr.inr.inr =>
                have HB2 : Hid (false = (decide (q.2 = []) || (q.2.take (k + 1)).any qb)) := by
                  unfold Hid
                  rw [HT.out, hq1, Bool.or_false]
                  exact HB.out
              case' inl | inr.inl | inr.inr.inl =>
                have HB2 : Hid (true = (decide (q.2 = []) || (q.2.take (k + 1)).any qb)) := by
                  unfold Hid
                  rw [HT.out, hq1, Bool.or_true, Bool.or_true]
              all_goals
                clear hq1 HT HB
                go_wp2_with fail
                go_roundw
                case rel => exact ⟨k + 1, _, rfl, by go_num, by omega, HB2, trivial⟩
                case measure => simp [intOf]; omega
            · have HB2 : Hid (true = (decide (q.2 = []) || (q.2.take (k + 1)).any qb)) := by
                unfold Hid
                rw [HT.out, ← Bool.or_assoc, ← HB.out]
                rfl
              clear hg hc hz HT HB
              go_wp2_with fail
              go_roundw
              case rel => exact ⟨k + 1, _, rfl, by go_num, by omega, HB2, trivial⟩
              case measure => simp [intOf]; omega
          · have HQB : Hid (b = quoteB q.2) := by
              have := HB.out
              rw [List.take_of_length_le (by rw [← HVB.out, ← Lib.size_eq]; omega)] at this
              exact this
            clear HB
            have HPUT : Hid (∀ v : ByteArray, v.data.toList = pvalT q.2 → (sb ++ (⟨#[59]⟩ : ByteArray) ++ nb ++ (⟨#[61]⟩ : ByteArray) ++ v).data.toList = groupT p.1 ++ p.2.1 ++ (p.2.2.1.take (i + 1)).flatMap parT) := fun v hv => by
              rw [cat_b, cat_b, cat_b, cat_b, HS.out, HNB.out, hv, HQK.out]
              unfold parT
              simp [List.append_assoc]
            cases b
            · have HPV : Hid (vb.data.toList = pvalT q.2) := by unfold Hid pvalT; rw [← HQB.out, HVB.out]; rfl
              have HX := Lib.hid (HPUT.out _ HPV.out)
              clear HPUT HPV
              go_wp2_with fail
              go_roundw
              case rel => exact ⟨i + 1, _, rfl, by go_num, by omega, HX, trivial⟩
              case measure => simp [intOf]; omega
            · have HPV : Hid (((⟨#[34]⟩ : ByteArray) ++ vb ++ (⟨#[34]⟩ : ByteArray)).data.toList = pvalT q.2) := by unfold Hid pvalT; rw [← HQB.out, cat_b, cat_b, HVB.out]; rfl
              have HX := Lib.hid (HPUT.out _ HPV.out)
              clear HPUT HPV
              go_wp2_with fail
              go_roundw
              case rel => exact ⟨i + 1, _, rfl, by go_num, by omega, HX, trivial⟩
              case measure => simp [intOf]; omega
      · have HE : Hid ((sb ++ (⟨#[58]⟩ : ByteArray) ++ x3).data.toList = lineT p) := by
          have := HS.out
          rw [List.take_of_length_le (by rw [HN.out]; omega)] at this
          unfold Hid
          rw [cat_b, cat_b, this, E3.out, HL.out]
          simp [List.append_assoc]
        go_wp2_with fail
        go_ret
        exact ⟨by rw [bts_of HE.out]; rfl, HB1.out⟩
end Go.Proofs.YtphopnfnjnieaaaGreatDoor
/-
  The document's side of package vcard: cardexref08.mayProp.
-/
namespace Go.Proofs.YtphopnfnjnieaaaGreatDoor
open Go.RowKit Vc

theorem may_parts (p : Pr) : mayB p = (decide (propL (lineT p) = some p) && Tx.valid (lineT p) && (lineT p).all (fun c => c != 10 && c != 13) && decide (p.2.1 ≠ beginN) && decide (p.2.1 ≠ versN) && decide (up (lineT p) ≠ endT)) := rfl
theorem all_clean (l : List UInt8) : l.all (fun c => c != 10 && c != 13) = true ↔ Tx.clean l := by
  unfold Tx.clean
  simp [List.all_eq_true]
theorem bts_toL (l : List UInt8) : (bts l).toList = l := by rw [ByteArray.toList_mk]
set_option maxHeartbeats 8000000 in
set_option maxRecDepth 100000 in
theorem may_any (p : Pr) (u : Value) (w : World) (hu : ReadA w u p.2.2.1) (hL : (lineT p).length ≤ 1000000) :
    Calls Tryz.prog 23 #[agP p u] w fun e w' => e = .returned (.bool (mayB p)) ∧ Below w.heap.size w w' := by
  have hM := may_parts p
  have HLN := Lib.hid (fun (W : World) (h : Below w.heap.size w W) => rline_any p u W (hu.below h) hL)
  obtain ⟨L, hLL⟩ : ∃ L, lineT p = L := ⟨_, rfl⟩
  rw [hLL] at HLN hM hL
  obtain ⟨sb, hsb⟩ : ∃ b, bts L = b := ⟨_, rfl⟩
  have HSB : Hid (sb.data.toList = L) := by rw [← hsb]; rfl
  have hss : sb.size ≤ 1000000 := by rw [Lib.size_eq, HSB.out]; exact hL
  rw [hsb] at HLN
  have HPP := Lib.hid (fun (W : World) => parseProp_any sb W (by omega))
  have HVA := Lib.hid (fun (W : World) => rvalid_any sb W (by omega))
  have HON := Lib.hid (fun (W : World) => oneRow_any sb W (by omega))
  have HUP := Lib.hid (fun (W : World) => rupper_any sb W (by omega))
  rw [HSB.out] at HPP HVA HON HUP
  have hfew : p.2.2.1.length ≤ 1000000000 := Mild.few (by rw [hLL]; omega)
  have hql : ∀ q : Pr, propL L = some q → q.2.2.1.length ≤ 1000000000 := fun q hq => Mild.few (by have := prop_len hq; omega)
  have HEQ := Lib.hid (fun (q : Pr) (u' : Value) (W : World) (h : Below w.heap.size w W) (h2 : ReadA W u' q.2.2.1) (hq : propL L = some q) => propEq_any p q u u' W (hu.below h) h2 hfew (hql q hq))
  have HMM := Lib.hid hM
  obtain ⟨A, cap, rfl⟩ : ∃ A cap, u = .slice A p.2.2.1.length cap := by obtain ⟨A, cap, rfl, _⟩ := hu; exact ⟨A, cap, rfl⟩
  obtain ⟨n, hn⟩ : ∃ n, p.2.2.1.length = n := ⟨_, rfl⟩
  obtain ⟨x0, e0⟩ : ∃ a, bts p.1 = a := ⟨_, rfl⟩
  obtain ⟨x1, e1⟩ : ∃ a, bts p.2.1 = a := ⟨_, rfl⟩
  obtain ⟨x3, e3⟩ : ∃ a, bts p.2.2.2 = a := ⟨_, rfl⟩
  have hbg : x1.toList = [66, 69, 71, 73, 78] ↔ p.2.1 = beginN := by rw [← e1, bts_toL]; exact Iff.rfl
  have hvn : x1.toList = [86, 69, 82, 83, 73, 79, 78] ↔ p.2.1 = versN := by rw [← e1, bts_toL]; exact Iff.rfl
  have HBG := Lib.hid hbg
  have HVN := Lib.hid hvn
  clear hbg hvn
  obtain ⟨eb, heb⟩ : ∃ b, bts (up L) = b := ⟨_, rfl⟩
  have HEN : Hid (eb.toList = [69, 78, 68, 58, 86, 67, 65, 82, 68] ↔ up L = endT) := by unfold Hid; rw [← heb, bts_toL]; exact Iff.rfl
  rw [heb] at HUP
  clear heb
  unfold agP
  rw [e0, e1, e3, hn]
  have HAG : Hid (agP p (.slice A n cap) = .agg #[.string x0, .string x1, .slice A n cap, .string x3]) := by unfold Hid agP; rw [e0, e1, e3]
  rw [hn] at HLN HEQ
  unfold agP at HLN
  rw [e0, e1, e3] at HLN
  clear hM hu hL hLL hsb hfew hql hn
  go_enter Tryz.func23, Tryz.ntmps23
  go_upto_region 1 with fail
  obtain ⟨W1, hW1⟩ : ∃ W1, w.alloc (.cells #[.string x0, .string x1, .slice A n cap, .string x3] 41) = W1 := ⟨_, rfl⟩
  obtain ⟨P, hP⟩ : ∃ P, w.heap.size = P := ⟨_, rfl⟩
  have B1 : Hid (Below w.heap.size w W1) := by rw [← hW1]; exact (Below.refl _ _).alloc (Nat.le_refl _) _
  have P1 : Hid (Bk W1 P 41 #[.string x0, .string x1, .slice A n cap, .string x3]) := by rw [← hW1, ← hP]; exact Bk.new _ _ _
  rw [hW1, hP]
  have y0 : W1.cell? ⟨P, 0, none⟩ = some (.string x0) := P1.out.cell 0
  have y1 : W1.cell? ⟨P, 1, none⟩ = some (.string x1) := P1.out.cell 1
  have y2 : W1.cell? ⟨P, 2, none⟩ = some (.slice A n cap) := P1.out.cell 2
  have y3 : W1.cell? ⟨P, 3, none⟩ = some (.string x3) := P1.out.cell 3
  clear hW1 hP e0 e1 e3
  go_wp2_with fail
  refine (HLN.out _ B1.out).mono ?_
  rintro e w2 ⟨rfl, b2⟩
  have B2 : Hid (Below w.heap.size w w2) := B1.out.trans (b2.mono B1.out.size)
  have P2 := Lib.hid (P1.out.below b2 P1.out.lt)
  clear b2 y0 y1 y2 y3
  go_wp2_with fail
  refine (HPP.out _).mono ?_
  rintro e w3 ⟨hv, b3⟩
  have B3 : Hid (Below w.heap.size w w3) := B2.out.trans (b3.mono B2.out.size)
  have Z2 : Hid (w.heap.size ≤ w2.heap.size) := B2.out.size
  have P3 := Lib.hid (P2.out.below b3 P2.out.lt)
  have HV := Lib.hid hv
  clear hv b3
  rcases HV.out with ⟨q, uq, rfl, hq, hoq⟩ | ⟨hq, rfl⟩
  · obtain ⟨A', cap', rfl⟩ := hoq.slice
    have HQ := Lib.hid hq
    have OQ := Lib.hid hoq
    obtain ⟨n', hn'⟩ : ∃ n, q.2.2.1.length = n := ⟨_, rfl⟩
    obtain ⟨z0, f0⟩ : ∃ a, bts q.1 = a := ⟨_, rfl⟩
    obtain ⟨z1, f1⟩ : ∃ a, bts q.2.1 = a := ⟨_, rfl⟩
    obtain ⟨z3, f3⟩ : ∃ a, bts q.2.2.2 = a := ⟨_, rfl⟩
    have HAQ : Hid (agP q (.slice A' n' cap') = .agg #[.string z0, .string z1, .slice A' n' cap', .string z3]) := by unfold Hid agP; rw [f0, f1, f3]
    unfold agP
    rw [f0, f1, f3, hn']
    rw [hn'] at OQ
    clear hq hoq HV f0 f1 f3 hn'
    go_upto_region 3 with fail
    obtain ⟨W4, hW4⟩ : ∃ W4, w3.alloc (.cells #[.string z0, .string z1, .slice A' n' cap', .string z3] 41) = W4 := ⟨_, rfl⟩
    obtain ⟨Q, hQ⟩ : ∃ Q, w3.heap.size = Q := ⟨_, rfl⟩
    have b4 : Below w3.heap.size w3 W4 := by rw [← hW4]; exact (Below.refl _ _).alloc (Nat.le_refl _) _
    have k4 : Bk W4 Q 41 #[.string z0, .string z1, .slice A' n' cap', .string z3] := by rw [← hW4, ← hQ]; exact Bk.new _ _ _
    have B4 : Hid (Below w.heap.size w W4) := B3.out.trans (b4.mono B3.out.size)
    have P4 := Lib.hid (P3.out.below b4 P3.out.lt)
    have OQ4 := Lib.hid (OQ.out.below b4)
    have y0 : W4.cell? ⟨P, 0, none⟩ = some (.string x0) := P4.out.cell 0
    have y1 : W4.cell? ⟨P, 1, none⟩ = some (.string x1) := P4.out.cell 1
    have y2 : W4.cell? ⟨P, 2, none⟩ = some (.slice A n cap) := P4.out.cell 2
    have y3 : W4.cell? ⟨P, 3, none⟩ = some (.string x3) := P4.out.cell 3
    have t0 : W4.cell? ⟨Q, 0, none⟩ = some (.string z0) := k4.cell 0
    have t1 : W4.cell? ⟨Q, 1, none⟩ = some (.string z1) := k4.cell 1
    have t2 : W4.cell? ⟨Q, 2, none⟩ = some (.slice A' n' cap') := k4.cell 2
    have t3 : W4.cell? ⟨Q, 3, none⟩ = some (.string z3) := k4.cell 3
    have HE4 := HEQ.out q (.slice A' n' cap') W4 B4.out OQ4.out.row.reads HQ.out
    rw [HAG.out, HAQ.out] at HE4
    have HE := Lib.hid HE4
    rw [hW4, hQ]
    clear hW4 hQ b4 k4 HE4
    go_wp2_with fail
    refine HE.out.mono ?_
    rintro e w5 ⟨rfl, b5⟩
    have B5 : Hid (Below w.heap.size w w5) := B4.out.trans (b5.mono B4.out.size)
    have P5 := Lib.hid (P4.out.below b5 P4.out.lt)
    clear b5 y0 y1 y2 y3 t0 t1 t2 t3
    have y1 : w5.cell? ⟨P, 1, none⟩ = some (.string x1) := P5.out.cell 1
    by_cases hpq : p = q
    · have hpd : decide (propL L = some p) = true := decide_eq_true (by rw [hpq]; exact HQ.out)
      have HPD := Lib.hid hpd
      rw [decide_eq_true hpq]
      clear hpq hpd
      go_wp2_with fail
      refine (HVA.out _).mono ?_
      rintro e w6 ⟨rfl, rfl⟩
      obtain ⟨bv, hbv⟩ : ∃ b, Tx.valid L = b := ⟨_, rfl⟩
      have HBV := Lib.hid hbv
      rw [hbv]
      clear hbv
      cases bv
      · have HR : Hid (mayB p = false) := by unfold Hid; rw [HMM.out, HBV.out, Bool.and_false]; rfl
        go_wp2_with fail
        go_ret
        exact ⟨by rw [HR.out]; rfl, B5.out⟩
      · go_wp2_with fail
        refine (HON.out _).mono ?_
        rintro e w7 ⟨⟨bo, rfl, hbo⟩, rfl⟩
        have HBO : Hid (L.all (fun c => c != 10 && c != 13) = bo) := by
          unfold Hid
          rw [Bool.eq_iff_iff, all_clean, hbo]
        clear hbo
        cases bo
        · have HR : Hid (mayB p = false) := by unfold Hid; rw [HMM.out, HBO.out, Bool.and_false]; rfl
          go_wp2_with fail
          go_ret
          exact ⟨by rw [HR.out]; rfl, B5.out⟩
        · have HR0 : Hid (mayB p = (decide (p.2.1 ≠ beginN) && decide (p.2.1 ≠ versN) && decide (up L ≠ endT))) := by unfold Hid; rw [HMM.out, HPD.out, HBV.out, HBO.out]; rfl
          by_cases h1 : p.2.1 = beginN
          · have HR : Hid (mayB p = false) := by unfold Hid; rw [HR0.out, decide_eq_false (fun h => h h1)]; rfl
            have g1 := HBG.out.2 h1
            clear h1
            go_wp2_with fail
            go_ret
            exact ⟨by rw [HR.out]; rfl, B5.out⟩
          · have g1 := fun h => h1 (HBG.out.1 h)
            have HN1 := Lib.hid h1
            clear h1
            by_cases h2 : p.2.1 = versN
            · have HR : Hid (mayB p = false) := by unfold Hid; rw [HR0.out, decide_eq_false (fun h : p.2.1 ≠ versN => h h2), Bool.and_false]; rfl
              have g2 := HVN.out.2 h2
              clear h2
              go_wp2_with fail
              go_ret
              exact ⟨by rw [HR.out]; rfl, B5.out⟩
            · have g2 := fun h => h2 (HVN.out.1 h)
              have HN2 := Lib.hid h2
              clear h2
              have HR1 : Hid (mayB p = decide (up L ≠ endT)) := by unfold Hid; rw [HR0.out, decide_eq_true HN1.out, decide_eq_true HN2.out]; rfl
              go_wp2_with fail
              refine (HUP.out _).mono ?_
              rintro e w8 ⟨rfl, b8⟩
              have B8 : Hid (Below w.heap.size w w8) := B5.out.trans (b8.mono B5.out.size)
              have G1 : Hid ((x1.toList == [66, 69, 71, 73, 78]) = false) := beq_false_of_ne g1
              have G2 : Hid ((x1.toList == [86, 69, 82, 83, 73, 79, 78]) = false) := beq_false_of_ne g2
              clear b8 g1 g2
              by_cases h3 : up L = endT
              · have HR : Hid (mayB p = false) := by unfold Hid; rw [HR1.out, decide_eq_false (fun h => h h3)]
                have g3 := HEN.out.2 h3
                clear h3
                go_wp2_with fail
                go_ret
                exact ⟨by rw [HR.out]; rfl, B8.out⟩
              · have HR : Hid (mayB p = true) := by unfold Hid; rw [HR1.out, decide_eq_true h3]
                have g3 := fun h => h3 (HEN.out.1 h)
                have G3 : Hid ((eb.toList == [69, 78, 68, 58, 86, 67, 65, 82, 68]) = false) := beq_false_of_ne g3
                clear h3
                go_wp2_with fail
                go_ret
                exact ⟨by rw [HR.out]; show Ending.returned (.bool (!(x1.toList == [66, 69, 71, 73, 78]) && !(x1.toList == [86, 69, 82, 83, 73, 79, 78]) && !(eb.toList == [69, 78, 68, 58, 86, 67, 65, 82, 68]))) = _; rw [G1.out, G2.out, G3.out]; rfl, B8.out⟩
    · have HR : Hid (mayB p = false) := by
        unfold Hid
        rw [HMM.out, HQ.out, decide_eq_false (fun e => hpq (Option.some.inj e).symm)]
        rfl
      rw [decide_eq_false hpq]
      clear hpq
      go_wp2_with fail
      go_ret
      exact ⟨by rw [HR.out]; rfl, B5.out⟩
  · have HR : Hid (mayB p = false) := by unfold Hid; rw [HMM.out, hq]; rfl
    clear hq HV
    go_wp2_with fail
    go_ret
    exact ⟨by rw [HR.out]; rfl, B3.out.alloc B3.out.size _⟩
end Go.Proofs.YtphopnfnjnieaaaGreatDoor
/-
  The document's side of package vcard: cardexref08.WriteCards.
-/
namespace Go.Proofs.YtphopnfnjnieaaaGreatDoor
open Go.RowKit Vc

theorem line_take {c : List Pr} {j : Nat} {p : Pr} (h : c[j]? = some p) : sts ((c.take (j + 1)).map lineT) = sts ((c.take j).map lineT) ++ [bts (lineT p)] := by
  rw [List.take_add_one, h, List.map_append, sts_append]
  rfl
set_option maxHeartbeats 8000000 in
set_option maxRecDepth 100000 in
theorem rwrite_any (v : Value) (l : List (List Pr)) (w : World) (hR : ReadV w v l) (hbk : bulkV l < 1000000) :
    Calls Tryz.prog 11 #[v] w (WritesV w.heap.size w l) := by
  obtain ⟨A, cap, rfl, hcell⟩ := hR
  obtain ⟨n, hn⟩ : ∃ n, l.length = n := ⟨_, rfl⟩
  have HN := Lib.hid hn
  have hll := bulkV_many hbk
  rw [hn] at hcell hll ⊢
  by_cases h60 : 60 < n
  · have hw : Hid (writeV l = ([], 12)) := right_many (by omega)
    clear hcell hn hbk
    go_enter Tryz.func11, Tryz.ntmps11
    go_wp2_with fail
    go_ret2
    unfold WritesV
    rw [hw.out]
    exact ⟨rfl, Below.refl _ _⟩
  have HC := Lib.hid hcell
  have HBK := Lib.hid hbk
  have HMI := Lib.hid (bulkV_mild hbk)
  have HLM : Hid (∀ c ∈ l, ∀ p ∈ c, (lineT p).length ≤ 1000000) := fun c hc p hp => by
    have h1 := bulkV_mem hc
    have h2 := costL_mem hp
    omega
  have HMY := Lib.hid (fun (p : Pr) (u : Value) (W : World) (hu : ReadA W u p.2.2.1) (h : (lineT p).length ≤ 1000000) => may_any p u W hu h)
  have HLI := Lib.hid (fun (p : Pr) (u : Value) (W : World) (hu : ReadA W u p.2.2.1) (h : (lineT p).length ≤ 1000000) => rline_any p u W hu h)
  have HFO := Lib.hid (fun (u : Value) (xs : List ByteArray) (W : World) (hu : ReadT W.heap.size W u xs) (hb : bulk xs < 100000000000) => rfold_any W.heap.size u xs W hu hb)
  obtain ⟨D, hD⟩ : ∃ D, w.heap.size = D := ⟨_, rfl⟩
  have HDE := Lib.hid hD
  have HO0 : Hid (OwnT D w (.slice none 0 0) (sts ((l.take 0).flatMap cardT))) := OwnT.nil _ _
  have HB0 : Hid (Below D w w) := Below.refl _ _
  have HA0 : Hid (∀ c ∈ l.take 0, c.length ≤ 40 ∧ ∀ p ∈ c, mayB p = true) := fun p hp => by cases hp
  have HUP : Hid (∀ W, Below D w W → Below w.heap.size w W) := fun W h => by rw [hD]; exact h
  clear hcell hn hD hbk
  go_enter Tryz.func11, Tryz.ntmps11
  go_wp2_with fail
  go_loopw [4, 5] (fun lv iv wr => ∃ (k : Nat) (lx : Value), lv = lx ∧ iv = .int .i64 k ∧ k ≤ n ∧ Hid (OwnT D wr lx (sts ((l.take k).flatMap cardT))) ∧ Hid (Below D w wr) ∧ Hid (∀ c ∈ l.take k, c.length ≤ 40 ∧ ∀ p ∈ c, mayB p = true)) (fun _ iv _ => n - (intOf iv).toNat)
  case atStart => exact ⟨0, _, rfl, rfl, Nat.zero_le _, HO0, HB0, HA0⟩
  case round =>
    obtain ⟨k, lx, hlx, rfl, hkn, HO, HBW, HALL⟩ := hrel
    have hlx2 := hlx.symm
    subst hlx2
    by_cases hlt : k < n
    · obtain ⟨w0, rfl⟩ : ∃ x, x = wr := ⟨_, rfl⟩
      obtain ⟨ad, rfl, hlb, hcl⟩ := HC.out (by omega)
      obtain ⟨c, hcc⟩ : ∃ c, l[k]? = some c := ⟨_, List.getElem?_eq_getElem (by rw [HN.out]; exact hlt)⟩
      obtain ⟨u, c00, hru⟩ := hcl k c hcc
      have HCC : Hid (∀ W, Below D w W → W.cell? (ad.add k) = some u) := fun W h => by
        rw [(HUP.out W h).cell (p := ad.add k) (by rw [addBlock]; exact hlb)]
        exact c00
      have HRU : Hid (∀ W, Below D w W → ReadP W u c) := fun W h => hru.below (HUP.out W h)
      have HTK := Lib.hid (cards_take hcc)
      have HMEM : Hid (c ∈ l) := List.mem_of_getElem? hcc
      have htk : Hid (l.take (k + 1) = l.take k ++ [c]) := by unfold Hid; rw [List.take_add_one, hcc]; rfl
      have hbt := bulkV_take l (k + 1)
      have HTB : Hid (bulk (sts ((l.take (k + 1)).flatMap cardT)) < 1000000) := by have := HBK.out; unfold Hid; unfold bulkV at hbt this; omega
      obtain ⟨UA, ucap, rfl⟩ := hru.slice
      obtain ⟨un, hun⟩ : ∃ un, c.length = un := ⟨_, rfl⟩
      have hunl : un ≤ 1000000000 := by rw [← hun]; exact (HMI.out c HMEM.out).2
      have HUN := Lib.hid hun
      rw [hun] at HCC HRU
      have c0 := HCC.out w0 HBW.out
      have HZ : Hid (D ≤ w0.heap.size) := by have := (HUP.out _ HBW.out).size; have := HDE.out; unfold Hid; omega
      clear hcl hcc hru hbt hun hlx c00 hlb
      by_cases h40 : 40 < un
      · have hw : Hid (writeV l = ([], 12)) := right_bad HMEM.out (fun h => by have := h.1; have := HUN.out; omega)
        go_wp2_with fail
        go_ret2
        unfold WritesV
        rw [hw.out]
        exact ⟨rfl, HUP.out _ HBW.out⟩
      obtain ⟨XS, hXS⟩ : ∃ XS, sts ((l.take k).flatMap cardT) = XS := ⟨_, rfl⟩
      obtain ⟨YS, hYS⟩ : ∃ YS, sts (c.map lineT) = YS := ⟨_, rfl⟩
      have htk2 := HTK.out
      rw [hXS, hYS] at htk2
      have HT2 := Lib.hid htk2
      have hlens := bulk_len (sts ((l.take (k + 1)).flatMap cardT))
      rw [htk2] at hlens
      have hbb := HTB.out
      rw [htk2] at hbb
      simp only [List.length_append, List.length_cons, List.length_nil] at hlens
      rw [hXS] at HO
      have HLN : Hid (XS.length ≤ 1000000) := by unfold Hid; omega
      have HYS := Lib.hid hYS
      obtain ⟨LA, ln, lcap, rfl⟩ : ∃ A n cap, lx = .slice A n cap := by obtain ⟨A, cap, e⟩ := HO.out.slice; exact ⟨A, _, cap, e⟩
      have b2 : Below w0.heap.size w0 (w0.alloc (.cells #[.string ⟨#[66, 69, 71, 73, 78, 58, 86, 67, 65, 82, 68]⟩, .string ⟨#[86, 69, 82, 83, 73, 79, 78, 58, 52, 46, 48]⟩] 9)) := (Below.refl _ _).alloc (Nat.le_refl _) _
      have O2 := Lib.hid (HO.out.below b2)
      have Z2 : Hid (D ≤ (w0.alloc (.cells #[.string ⟨#[66, 69, 71, 73, 78, 58, 86, 67, 65, 82, 68]⟩, .string ⟨#[86, 69, 82, 83, 73, 79, 78, 58, 52, 46, 48]⟩] 9)).heap.size) := Nat.le_trans HZ.out b2.size
      have HC2 : Hid (∀ i b, [bts beginT, bts versT][i]? = some b → (w0.alloc (.cells #[.string ⟨#[66, 69, 71, 73, 78, 58, 86, 67, 65, 82, 68]⟩, .string ⟨#[86, 69, 82, 83, 73, 79, 78, 58, 52, 46, 48]⟩] 9)).cell? ((⟨w0.heap.size, 0, none⟩ : Addr).add i) = some (.string b)) := fun i b hb => by
        rw [add_at, Nat.zero_add, (Bk.new w0 9 #[_, _]).cell]
        match i, hb with
        | 0, hb => cases hb; rfl
        | 1, hb => cases hb; rfl
        | i + 2, hb => simp at hb
      have B2 := Lib.hid b2
      have HL2 : Hid (XS.length + [bts beginT, bts versT].length ≤ 1000000000000) := by unfold Hid; simp only [List.length_cons, List.length_nil]; have := HLN.out; omega
      clear b2 hXS hYS htk2 hlens hbb
      go_wp2_with (at_builtin; refine push_row rfl _ _ rfl D (.slice LA ln lcap) XS [bts beginT, bts versT] (w0.alloc (.cells #[.string ⟨#[66, 69, 71, 73, 78, 58, 86, 67, 65, 82, 68]⟩, .string ⟨#[86, 69, 82, 83, 73, 79, 78, 58, 52, 46, 48]⟩] 9)) rfl O2.out ⟨w0.heap.size, 0, none⟩ 2 rfl HC2.out HL2.out Z2.out ?_)
      intro v3 w3 o3 b3 k3
      have O3 : Hid (OwnT D w3 v3 (XS ++ [bts beginT, bts versT] ++ sts ((c.take 0).map lineT))) := by
        unfold Hid
        rw [List.take_zero]
        show OwnT D w3 v3 (XS ++ [bts beginT, bts versT] ++ [])
        rw [List.append_nil]
        exact o3
      have B3 : Hid (Below D w w3) := (HBW.out.trans (B2.out.mono HZ.out)).trans b3
      have A3 : Hid (∀ p ∈ c.take 0, mayB p = true) := fun p hp => by cases hp
      clear o3 b3 k3 c0
      go_wp2_with fail
      go_loopw [4, 6] (fun lv jv wr2 => ∃ (j : Nat) (lx : Value), lv = lx ∧ jv = .int .i64 j ∧ j ≤ un ∧ Hid (OwnT D wr2 lx (XS ++ [bts beginT, bts versT] ++ sts ((c.take j).map lineT))) ∧ Hid (Below D w wr2) ∧ Hid (∀ p ∈ c.take j, mayB p = true)) (fun _ jv _ => un - (intOf jv).toNat)
      case atStart => exact ⟨0, _, rfl, rfl, Nat.zero_le _, O3, B3, A3⟩
      case round =>
        obtain ⟨j, ly, hly, rfl, hju, OJ, BJ, AJ⟩ := hrel
        have hly2 := hly.symm
        subst hly2
        have ZJ : Hid (D ≤ wr.heap.size) := by have := (HUP.out _ BJ.out).size; have := HDE.out; unfold Hid; omega
        have c0 := HCC.out wr BJ.out
        obtain ⟨TA, tn, tcap, rfl⟩ : ∃ A n cap, ly = .slice A n cap := by obtain ⟨A, cap, e⟩ := OJ.out.slice; exact ⟨A, _, cap, e⟩
        clear hly
        by_cases hjl : j < un
        · obtain ⟨A', cap', hsl, hread⟩ := HRU.out wr BJ.out
          have hl0 := HUN.out
          obtain ⟨ad2, rfl, hlb2, hcl2⟩ : ∃ ad2 : Addr, UA = some ad2 ∧ ad2.block < wr.heap.size ∧ ∀ i x, c[i]? = some x → ∃ u, AtP wr (ad2.add (i * 4)) x u ∧ ReadA wr u x.2.2.1 := by
            injection hsl with e1 e2 e3
            subst e1
            exact hread (by omega)
          obtain ⟨p, hp⟩ : ∃ p, c[j]? = some p := ⟨_, List.getElem?_eq_getElem (by omega)⟩
          obtain ⟨up_, ⟨p0, p1, p2, p3⟩, hra⟩ := hcl2 j p hp
          have HLP := Lib.hid (line_take hp)
          have hpm := List.mem_of_getElem? hp
          have hlp := HLM.out c HMEM.out p hpm
          have HMC := Lib.hid (HMY.out p up_ wr hra hlp)
          have HLC : Hid (∀ W, Below wr.heap.size wr W → Calls Tryz.prog 24 #[agP p up_] W fun e w' => e = .returned (.string (bts (lineT p))) ∧ Below W.heap.size W w') := fun W h => HLI.out p up_ W (hra.below h) hlp
          have HPM := Lib.hid hpm
          have HTJ : Hid (c.take (j + 1) = c.take j ++ [p]) := by unfold Hid; rw [List.take_add_one, hp]; rfl
          obtain ⟨x0, e0⟩ : ∃ a, bts p.1 = a := ⟨_, rfl⟩
          obtain ⟨x1, e1⟩ : ∃ a, bts p.2.1 = a := ⟨_, rfl⟩
          obtain ⟨x3, e3⟩ : ∃ a, bts p.2.2.2 = a := ⟨_, rfl⟩
          unfold agP at HMC HLC
          rw [e0, e1, e3] at HMC HLC
          rw [e0] at p0
          rw [e1] at p1
          rw [e3] at p3
          have HKP : Hid (∀ W, Below wr.heap.size wr W → W.cell? (ad.add k) = some (.slice (some ad2) un ucap) ∧ W.cell? (ad2.add (j * 4)) = some (.string x0) ∧ W.cell? ⟨(ad2.add (j * 4)).block, (ad2.add (j * 4)).off + 1, none⟩ = some (.string x1) ∧ W.cell? ⟨(ad2.add (j * 4)).block, (ad2.add (j * 4)).off + 2, none⟩ = some up_ ∧ W.cell? ⟨(ad2.add (j * 4)).block, (ad2.add (j * 4)).off + 3, none⟩ = some (.string x3)) := fun W h => by
            refine ⟨HCC.out W (BJ.out.trans (h.mono ZJ.out)), ?_, ?_, ?_, ?_⟩
            · rw [h.cell (by rw [addBlock]; exact hlb2)]; exact p0
            · rw [h.cell (by show (ad2.add (j * 4)).block < _; rw [addBlock]; exact hlb2)]; exact p1
            · rw [h.cell (by show (ad2.add (j * 4)).block < _; rw [addBlock]; exact hlb2)]; exact p2
            · rw [h.cell (by show (ad2.add (j * 4)).block < _; rw [addBlock]; exact hlb2)]; exact p3
          obtain ⟨QA, qn, qcap, rfl⟩ : ∃ A n cap, up_ = .slice A n cap := by obtain ⟨A, cap, e, _⟩ := hra; exact ⟨A, _, cap, e⟩
          obtain ⟨mb, hmb⟩ : ∃ b, mayB p = b := ⟨_, rfl⟩
          have HMB := Lib.hid hmb
          rw [hmb] at HMC
          obtain ⟨lb, hlb3⟩ : ∃ b, bts (lineT p) = b := ⟨_, rfl⟩
          have HLB := Lib.hid hlb3
          rw [hlb3] at HLC HLP
          clear hsl hread hl0 hcl2 hp hra hpm hlp e0 e1 e3 hmb hlb3 hlb2
          go_wp2_with fail
          refine HMC.out.mono ?_
          rintro e w4 ⟨rfl, b4⟩
          have HB4 := Lib.hid b4
          have B4 : Hid (Below D w w4) := BJ.out.trans (b4.mono ZJ.out)
          clear b4 c0 p0 p1 p2 p3
          obtain ⟨c0, p0, p1, p2, p3⟩ := HKP.out w4 HB4.out
          cases mb
          · have hw : Hid (writeV l = ([], 12)) := right_bad HMEM.out (fun h => by have := h.2 p HPM.out; rw [HMB.out] at this; cases this)
            go_wp2_with fail
            go_ret2
            unfold WritesV
            rw [hw.out]
            exact ⟨rfl, HUP.out _ B4.out⟩
          · go_wp2_with fail
            refine (HLC.out _ HB4.out).mono ?_
            rintro e w5 ⟨rfl, b5⟩
            have O5 := Lib.hid ((OJ.out.below HB4.out).below b5)
            have B5 : Hid (Below D w w5) := B4.out.trans (b5.mono (Nat.le_trans ZJ.out HB4.out.size))
            have Z5 : Hid (D ≤ w5.heap.size) := Nat.le_trans (Nat.le_trans ZJ.out HB4.out.size) b5.size
            have HLJ : Hid ((XS ++ [bts beginT, bts versT] ++ sts ((c.take j).map lineT)).length ≤ 1000000000000) := by
              unfold Hid
              rw [List.length_append, List.length_append, sts_len, List.length_map, List.length_take]
              simp only [List.length_cons, List.length_nil]
              have := HLN.out
              omega
            clear b5 c0 p0 p1 p2 p3
            go_wp2_with (at_builtin; refine push_str rfl _ _ rfl D (.slice TA tn tcap) (XS ++ [bts beginT, bts versT] ++ sts ((c.take j).map lineT)) lb w5 rfl O5.out rfl HLJ.out Z5.out ?_)
            intro v6 w6 o6 b6
            have O6 : Hid (OwnT D w6 v6 (XS ++ [bts beginT, bts versT] ++ sts ((c.take (j + 1)).map lineT))) := by
              unfold Hid
              rw [HLP.out, ← List.append_assoc]
              simpa [List.map_take] using o6
            have B6 : Hid (Below D w w6) := B5.out.trans b6
            have A6 : Hid (∀ p ∈ c.take (j + 1), mayB p = true) := fun q hq => by
              rw [HTJ.out] at hq
              rcases List.mem_append.1 hq with hq | hq
              · exact AJ.out q hq
              · rw [List.mem_singleton] at hq; subst hq; exact HMB.out
            clear o6 b6
            go_wp2_with fail
            go_roundw
            case rel => exact ⟨j + 1, _, rfl, by go_num, by omega, O6, B6, A6⟩
            case measure => simp [intOf]; omega
        · have htc : c.take j = c := List.take_of_length_le (by rw [HUN.out]; omega)
          have ao := AJ.out
          have oo := OJ.out
          rw [htc] at ao oo
          rw [HYS.out] at oo
          have OE := Lib.hid oo
          have A2 : Hid (∀ c ∈ l.take (k + 1), c.length ≤ 40 ∧ ∀ p ∈ c, mayB p = true) := fun d hd => by
            rw [htk.out] at hd
            rcases List.mem_append.1 hd with hd | hd
            · exact HALL.out d hd
            · rw [List.mem_singleton] at hd; subst hd; exact ⟨by rw [HUN.out]; omega, ao⟩
          have HLJ : Hid ((XS ++ [bts beginT, bts versT] ++ YS).length ≤ 1000000000000) := by
            unfold Hid
            rw [List.length_append, List.length_append, ← HYS.out, sts_len, List.length_map]
            simp only [List.length_cons, List.length_nil]
            have := HLN.out
            have := HUN.out
            omega
          clear htc ao oo
          go_wp2_with (at_builtin; refine push_str rfl _ _ rfl D (.slice TA tn tcap) (XS ++ [bts beginT, bts versT] ++ YS) ⟨#[69, 78, 68, 58, 86, 67, 65, 82, 68]⟩ wr rfl OE.out rfl HLJ.out ZJ.out ?_)
          intro v5 w5 o5 b5
          have O5 : Hid (OwnT D w5 v5 (sts ((l.take (k + 1)).flatMap cardT))) := by unfold Hid; rw [HT2.out]; show OwnT D w5 v5 (XS ++ [bts beginT, bts versT] ++ YS ++ [(⟨#[69, 78, 68, 58, 86, 67, 65, 82, 68]⟩ : ByteArray)]); simpa using o5
          have B5 : Hid (Below D w w5) := BJ.out.trans b5
          clear o5 b5
          go_wp2_with fail
          go_roundw
          case rel => exact ⟨k + 1, _, rfl, by go_num, by omega, O5, B5, A2⟩
          case measure => simp [intOf]; omega
    · have hcn : Hid (l.take k = l) := List.take_of_length_le (by rw [HN.out]; omega)
      have hoe := HO.out
      have hae := HALL.out
      rw [hcn.out] at hoe hae
      have HR : Hid (rightV l = true) := right_all (by rw [HN.out]; omega) hae
      have HFF := HFO.out lx (sts (l.flatMap cardT)) wr hoe.reads (by have := HBK.out; unfold bulkV at this; omega)
      rw [btl_sts2] at HFF
      obtain ⟨F, hF⟩ : ∃ F, Tx.foldL (l.flatMap cardT) = F := ⟨_, rfl⟩
      have hwr := write_right HR.out
      rw [hF] at HFF hwr
      obtain ⟨fb, hfb⟩ : ∃ fb : ByteArray, ⟨F.toArray⟩ = fb := ⟨_, rfl⟩
      have HFS : Hid (fb.size = F.length) := by rw [← hfb]; exact Lib.size_eq _
      have HFB : Hid (fb = bts F) := hfb.symm
      rw [hfb] at HFF
      have HFH := Lib.hid HFF
      have HWR := Lib.hid hwr
      obtain ⟨LA, ln, lcap, rfl⟩ : ∃ A n cap, lx = .slice A n cap := by obtain ⟨A, cap, e⟩ := HO.out.slice; exact ⟨A, _, cap, e⟩
      clear hlx hoe hae hF hfb hwr HFF
      go_wp2_with fail
      refine HFH.out.mono ?_
      rintro e w1 ⟨rfl, rfl⟩
      by_cases hbig : 20000 < F.length
      · have hbz : 20000 < fb.size := by rw [HFS.out]; exact hbig
        have hw : Hid (writeV l = ([], 4)) := by unfold Hid; rw [HWR.out, if_pos hbig]
        clear hbig
        go_wp2_with fail
        go_ret2
        unfold WritesV
        rw [hw.out]
        exact ⟨rfl, HUP.out _ HBW.out⟩
      · have hbz : ¬ 20000 < fb.size := by rw [HFS.out]; exact hbig
        have hw : Hid (writeV l = (F, 0)) := by unfold Hid; rw [HWR.out, if_neg hbig]
        clear hbig
        go_wp2_with fail
        go_ret2
        unfold WritesV
        rw [hw.out, HFB.out]
        exact ⟨rfl, HUP.out _ HBW.out⟩
end Go.Proofs.YtphopnfnjnieaaaGreatDoor
