/- Texts laid together: Num Ent EntW RefBack -/
import Derived.Test.YtpomcamkkcggmaaGreatDoorEntP
import Derived.Laws.Cover4
import Derived.Lib.SlicesS
import Derived.Lib.IndexBytes
/-
  THE DOCUMENT's OWN NUMERALS: cardexref01.numeral.
-/
namespace Go.Proofs.YtpomcamkkcggmaaGreatDoor
open Go.RowKit Tx

set_option maxHeartbeats 2000000 in
theorem numeral_any (s : ByteArray) (base most : Nat) (w : World) (hs : s.size < 10000000000000) (hb : base = 10 ∨ base = 16) (hm : most ≤ 7) :
    Calls Tryz.prog 114 #[.string s, .int .i64 base, .int .i64 most] w fun e w' => e = .returned (.int .i64 (numI (num base most s.data.toList))) ∧ w = w' := by
  have hsz := Lib.hid (Lib.size_eq s)
  by_cases h0 : s.size = 0
  · have hn : Hid (num base most s.data.toList = none) := by
      unfold Hid num
      rw [if_pos (.inl (List.eq_nil_of_length_eq_zero (by rw [← hsz.out]; exact h0)))]
    rw [hn.out]
    go_enter Tryz.func114, Tryz.ntmps114
    go_wp2_with fail
    go_ret
    exact ⟨rfl, rfl⟩
  by_cases h1 : most < s.size
  · have hn : Hid (num base most s.data.toList = none) := by
      unfold Hid num
      rw [if_pos (.inr (by rw [← hsz.out]; exact h1))]
    rw [hn.out]
    go_enter Tryz.func114, Tryz.ntmps114
    go_wp2_with fail
    go_ret
    exact ⟨rfl, rfl⟩
  have hn : Hid (num base most s.data.toList = numF base 0 s.data.toList) := by
    unfold Hid num
    rw [if_neg]
    rintro (h | h)
    · apply h0; rw [hsz.out, h]; rfl
    · rw [← hsz.out] at h; exact h1 h
  rw [hn.out]
  obtain ⟨r, hr⟩ : ∃ r, numF base 0 s.data.toList = r := ⟨_, rfl⟩
  rw [hr]
  have HR := Lib.hid hr
  clear hr hn
  go_enter Tryz.func114, Tryz.ntmps114
  go_wp2_with fail
  go_loop [7, 8] (fun acc at_ => ∃ (k v : Nat), k ≤ s.size ∧ acc = .int .i64 v ∧ at_ = .int .i64 k ∧ Hid (v < 16 ^ k ∧ numF base v (s.data.toList.drop k) = r)) (fun _ at_ => s.size - (intOf at_).toNat)
  case atStart => exact ⟨0, 0, Nat.zero_le _, rfl, rfl, by omega, by rw [List.drop_zero]; exact HR.out⟩
  case round =>
    obtain ⟨k, v, hk, rfl, rfl, hv⟩ := hrel
    have hvb : v < 268435456 := by
      have h2 : 16 ^ k ≤ 16 ^ 7 := Nat.pow_le_pow_right (by omega) (by omega)
      have := hv.out.1
      omega
    by_cases hlt : k < s.size
    · have hlt' : k < s.data.toList.length := by rw [← hsz.out]; exact hlt
      have hst : Hid (numF base v (s.data.toList.drop k) = if base ≤ dg (s[k]'hlt).toNat then none else numF base (v * base + dg (s[k]'hlt).toNat) (s.data.toList.drop (k + 1))) := by
        unfold Hid
        rw [List.drop_eq_getElem_cons hlt']
        rfl
      obtain ⟨c, hc⟩ : ∃ c : Nat, (s[k]'hlt).toNat = c := ⟨_, rfl⟩
      have hc256 : c < 256 := by rw [← hc]; exact UInt8.toNat_lt _
      rw [hc] at hst
      have hdg := dg_cases c hc256
      obtain ⟨d, hd⟩ : ∃ d, dg c = d := ⟨_, rfl⟩
      rw [hd] at hst hdg
      have hres : Hid ((base ≤ d → r = none) ∧ (d < base → v * base + d < 16 ^ (k + 1) ∧ numF base (v * base + d) (s.data.toList.drop (k + 1)) = r)) := by
        refine ⟨fun h => ?_, fun h => ⟨?_, ?_⟩⟩
        · rw [← hv.out.2, hst.out, if_pos h]
        · have h3 : v * base ≤ v * 16 := Nat.mul_le_mul_left _ (by omega)
          have := hv.out.1
          rw [Nat.pow_succ]
          omega
        · rw [← hv.out.2, hst.out, if_neg (by omega)]
      obtain ⟨z, hz⟩ : ∃ z : Int, (c : Int) = z := ⟨_, rfl⟩
      have hzc : ((s[k]'hlt).toNat : Int) = z := by rw [hc]; exact hz
      clear hst hc hd
      rcases hb with rfl | rfl <;> rcases hdg with ⟨g1, g2, rfl⟩ | ⟨g1, g2, rfl⟩ | ⟨g1, g2, rfl⟩ | ⟨g1, g2, g3, rfl⟩
      · have G2 := Lib.hid (hres.out.2 (by omega))
        clear hres
        go_wp2_with fail
        go_round
        case rel => exact ⟨_, _, _, ⟨k + 1, by omega, v * 10 + (c - 48), rfl, rfl, G2.out⟩, rfl, congrArg (Value.int .i64) (by omega), by go_num⟩
        case measure => simp [intOf]; omega
      · have G2 : Hid (r = none) := hres.out.1 (by omega)
        clear hres
        go_wp2_with fail
        all_goals (go_ret; exact ⟨by rw [G2.out]; rfl, rfl⟩)
      · have G2 : Hid (r = none) := hres.out.1 (by omega)
        clear hres
        go_wp2_with fail
        all_goals (go_ret; exact ⟨by rw [G2.out]; rfl, rfl⟩)
      · have G2 : Hid (r = none) := hres.out.1 (by omega)
        clear hres
        go_wp2_with fail
        all_goals (go_ret; exact ⟨by rw [G2.out]; rfl, rfl⟩)
      · have G2 := Lib.hid (hres.out.2 (by omega))
        clear hres
        go_wp2_with fail
        go_round
        case rel => exact ⟨_, _, _, ⟨k + 1, by omega, v * 16 + (c - 48), rfl, rfl, G2.out⟩, rfl, congrArg (Value.int .i64) (by omega), by go_num⟩
        case measure => simp [intOf]; omega
      · have G2 := Lib.hid (hres.out.2 (by omega))
        clear hres
        go_wp2_with fail
        go_round
        case rel => exact ⟨_, _, _, ⟨k + 1, by omega, v * 16 + (c - 87), rfl, rfl, G2.out⟩, rfl, congrArg (Value.int .i64) (by omega), by go_num⟩
        case measure => simp [intOf]; omega
      · have G2 := Lib.hid (hres.out.2 (by omega))
        clear hres
        go_wp2_with fail
        go_round
        case rel => exact ⟨_, _, _, ⟨k + 1, by omega, v * 16 + (c - 55), rfl, rfl, G2.out⟩, rfl, congrArg (Value.int .i64) (by omega), by go_num⟩
        case measure => simp [intOf]; omega
      · have G2 : Hid (r = none) := hres.out.1 (by omega)
        clear hres
        go_wp2_with fail
        all_goals (go_ret; exact ⟨by rw [G2.out]; rfl, rfl⟩)
    · have hke : k = s.data.toList.length := by rw [← hsz.out]; omega
      have hv2 := hv.out.2
      rw [hke, List.drop_length] at hv2
      have G2 : Hid (r = some v) := hv2.symm
      clear hke hv2
      go_wp2_with fail
      go_ret
      exact ⟨by rw [G2.out]; rfl, rfl⟩
end Go.Proofs.YtpomcamkkcggmaaGreatDoor
/-
  THE DOCUMENT's OWN ENTITIES: cardexref01.utf and cardexref01.entity.
-/
namespace Go.Proofs.YtpomcamkkcggmaaGreatDoor
open Go.RowKit Tx

set_option maxHeartbeats 400000 in
set_option maxRecDepth 100000 in
theorem utf_any (c : Nat) (w : World) (hc : c ≤ 1114111) :
    Calls Tryz.prog 115 #[.int .i64 c] w fun e w' => e = .returned (.string ⟨(enc c).toArray⟩) ∧ Below w.heap.size w w' := by
  have hcv := oneRune (P := Tryz.prog) Tryz.underlying174 Tryz.underlying21 Tryz.underlying9 c w
  obtain ⟨z, hz⟩ : ∃ z : Int, (c : Int) = z := ⟨_, rfl⟩
  have z0 : 0 ≤ z := by omega
  have z1 : z ≤ 1114111 := by omega
  rw [hz] at hcv ⊢
  clear hz hc
  obtain ⟨x, hx⟩ : ∃ x, (enc c).toArray = x := ⟨_, rfl⟩
  rw [hx] at hcv ⊢
  clear hx
  go_enter Tryz.func115, Tryz.ntmps115
  go_wp2
  go_ret
  exact ⟨rfl, (Below.refl _ _).alloc (Nat.le_refl _) _⟩

end Go.Proofs.YtpomcamkkcggmaaGreatDoor
/-
  THE DOCUMENT's OWN ENTITIES: what cardexref01.entity answers.
-/
namespace Go.Proofs.YtpomcamkkcggmaaGreatDoor
open Go.RowKit Tx

set_option maxHeartbeats 2000000 in
set_option maxRecDepth 100000 in
theorem entity_any (s : ByteArray) (w : World) (hs : s.size < 10000000000000) :
    Calls Tryz.prog 93 #[.string s] w fun e w' => e = .returned (.string ⟨(entB s.data.toList).toArray⟩) ∧ Below w.heap.size w w' := by
  have hsz := Lib.hid (Lib.size_eq s)
  have HHit := Lib.hid (fun (k : Nat) (b : ByteArray) (h : nmL[k]? = some b) => ent_hit k b h)
  have HMiss := Lib.hid (fun (h : ∀ (j : Nat) (b : ByteArray), nmL[j]? = some b → b ≠ s) => ent_miss h)
  have HC := Lib.hid (fun (c : Int) (W : World) => char_any c W)
  have HU := Lib.hid (fun (c : Nat) (W : World) h => utf_any c W h)
  go_enter Tryz.func93, Tryz.ntmps93
  go_wp2_with fail
  obtain ⟨W2, hW2⟩ : ∃ W2, W2 = (w.alloc (.cells #[.string ⟨#[97, 109, 112]⟩, .string ⟨#[108, 116]⟩, .string ⟨#[103, 116]⟩, .string ⟨#[113, 117, 111, 116]⟩, .string ⟨#[97, 112, 111, 115]⟩] 9)).alloc (.cells #[.string ⟨#[38]⟩, .string ⟨#[60]⟩, .string ⟨#[62]⟩, .string ⟨#[34]⟩, .string ⟨#[39]⟩] 9) := ⟨_, rfl⟩
  rw [← hW2]
  have hN : Hid (∀ (j : Nat) (b : ByteArray), nmL[j]? = some b → W2.cell? ⟨w.heap.size, j, none⟩ = some (.string b)) := by
    intro j b hb
    rw [hW2, ((Bk.new w _ _).alloc _).cell]
    match j, hb with
    | 0, hb => cases hb; rfl
    | 1, hb => cases hb; rfl
    | 2, hb => cases hb; rfl
    | 3, hb => cases hb; rfl
    | 4, hb => cases hb; rfl
    | j + 5, hb => simp [nmL] at hb
  have hS : Hid (∀ (j : Nat) (b : ByteArray), sgL[j]? = some b → W2.cell? ⟨w.heap.size + 1, j, none⟩ = some (.string b)) := by
    intro j b hb
    rw [hW2, (Bk.new1 w _ _ _).cell]
    match j, hb with
    | 0, hb => cases hb; rfl
    | 1, hb => cases hb; rfl
    | 2, hb => cases hb; rfl
    | 3, hb => cases hb; rfl
    | 4, hb => cases hb; rfl
    | j + 5, hb => simp [sgL] at hb
  have hB : Below w.heap.size w W2 := by rw [hW2]; exact ((Below.refl _ _).alloc (Nat.le_refl _) _).alloc (by simp) _
  have HB := Lib.hid hB
  clear hW2 hB
  go_loop [5] (fun at_ => ∃ (k : Nat), k ≤ 5 ∧ at_ = .int .i64 k ∧ Hid (∀ (j : Nat) (b : ByteArray), j < k → nmL[j]? = some b → b ≠ s)) (fun at_ => 5 - (intOf at_).toNat)
  case atStart => exact ⟨0, Nat.zero_le _, rfl, Lib.hid (fun j b h => absurd h (Nat.not_lt_zero _))⟩
  case round =>
    obtain ⟨k, hk, rfl, hno⟩ := hrel
    by_cases hlt : k < 5
    · obtain ⟨b, hb⟩ : ∃ b, nmL[k]? = some b := ⟨_, List.getElem?_eq_getElem (show k < nmL.length from hlt)⟩
      have hc := hN.out k b hb
      by_cases he : b = s
      · obtain ⟨g, hg, hg2⟩ := HHit.out k b hb
        have hc2 := hS.out k g hg
        rw [he] at hg2
        have HF : Hid (Value.string ⟨(entB s.data.toList).toArray⟩ = .string g) := by unfold Hid; rw [hg2]
        have heq : (b.toList == s.toList) = true := (Lib.bytes_beq_iff b s).2 he
        clear hg2 he
        go_wp2_with fail
        go_ret
        exact ⟨by rw [HF.out]; rfl, HB.out⟩
      · have heq : (b.toList == s.toList) = false := (Lib.bytes_beq_false_iff b s).2 he
        have hno' : Hid (∀ (j : Nat) (b : ByteArray), j < k + 1 → nmL[j]? = some b → b ≠ s) := Lib.hid (fun j b' hj hej => by
          rcases Nat.lt_or_ge j k with h | h
          · exact hno.out j b' h hej
          · obtain rfl : j = k := by omega
            rw [hb] at hej; cases hej; exact he)
        clear he
        go_wp2_with fail
        go_round
        case rel => exact ⟨k + 1, by omega, by go_num, hno'⟩
        case measure => simp [intOf]; omega
    · obtain rfl : k = 5 := by omega
      have HM := Lib.hid (HMiss.out (fun j b h => by
        have hj : j < 5 := (List.getElem?_eq_some_iff.1 h).1
        exact hno.out j b hj h))
      clear hno
      by_cases pA : 2 < s.size ∧ s.extract 0 2 = ⟨#[35, 120]⟩
      · have hE : Hid (entT s.data.toList = Tx.keep (num 16 6 (s.data.toList.drop 2))) := entT_x (by rw [← take2_of, pA.2])
        have hn := fun (W : World) => numeral_any (s.extract 2 s.size) 16 6 W (by simp; omega) (.inr rfl) (by omega)
        rw [Lib.extract_to_end] at hn
        have p1 := pA.1
        have p2 : ((s.extract 0 2).toList == [35, 120]) = true := by rw [← lit2]; exact (Lib.bytes_beq_iff _ _).2 pA.2
        clear pA
        rcases keep_cases (num 16 6 (s.data.toList.drop 2)) with ⟨ho, hk2⟩ | ⟨v, ho, hg, hk2⟩ | ⟨v, ho, hg, hk2⟩
        · have HF : Hid (entB s.data.toList = []) := entB_none (by rw [HM.out, hE.out, hk2])
          rw [ho] at hn
          have HN := Lib.hid hn
          clear hn ho hk2
          go_wp2_with (go_at_call 114; refine (HN.out _).mono ?_; rintro e w1 ⟨rfl, rfl⟩; rw [numI_none])
          go_ret
          exact ⟨by rw [HF.out]; rfl, HB.out⟩
        · have HF : Hid (entB s.data.toList = []) := entB_none (by rw [HM.out, hE.out, hk2])
          rw [ho] at hn
          have hvb := num_lt (by omega) (by omega) (by omega) ho
          have hch := HC.out (v : Int)
          rw [charI_good, hg] at hch
          obtain ⟨z, hz⟩ : ∃ z : Int, (v : Int) = z := ⟨_, rfl⟩
          rw [numI_some, hz] at hn
          rw [hz] at hch
          have z0 : 0 ≤ z := by omega
          have HN := Lib.hid hn
          have HCH := Lib.hid hch
          clear hn ho hk2 hch hz hg hvb
          go_wp2_with (first | (go_at_call 114; refine (HN.out _).mono ?_; rintro e w1 ⟨rfl, rfl⟩) | (go_at_call 89; refine (HCH.out _).mono ?_; rintro e w1 ⟨rfl, rfl⟩))
          go_ret
          exact ⟨by rw [HF.out]; rfl, HB.out⟩
        · have HF : Hid (entB s.data.toList = enc v) := entB_some (by rw [HM.out, hE.out, hk2])
          rw [ho] at hn
          have hvb := num_lt (by omega) (by omega) (by omega) ho
          have hch := HC.out (v : Int)
          have hu := fun W => HU.out v W (good_le hg).2
          rw [charI_good, hg] at hch
          obtain ⟨z, hz⟩ : ∃ z : Int, (v : Int) = z := ⟨_, rfl⟩
          rw [numI_some, hz] at hn
          rw [hz] at hch hu
          have z0 : 0 ≤ z := by omega
          have HN := Lib.hid hn
          have HCH := Lib.hid hch
          have HUU := Lib.hid hu
          clear hn ho hk2 hch hz hg hvb hu
          go_wp2_with (first | (go_at_call 114; refine (HN.out _).mono ?_; rintro e w1 ⟨rfl, rfl⟩) | (go_at_call 89; refine (HCH.out _).mono ?_; rintro e w1 ⟨rfl, rfl⟩) | (go_at_call 115; refine (HUU.out _).mono ?_; rintro e w1 ⟨rfl, b1⟩))
          go_ret
          exact ⟨by rw [HF.out]; rfl, HB.out.trans (b1.mono HB.out.size)⟩
      · have hA2 : ¬ (2 < s.data.toList.length ∧ s.data.toList.take 2 = [35, 120]) := fun ⟨h1, h2⟩ => pA ⟨by rw [hsz.out]; exact h1, ByteArray.ext (Array.toList_inj.1 (by rw [take2_of, h2]))⟩
        have pn : 2 < s.size → ((s.extract 0 2).toList == [35, 120]) = false := fun h => by rw [← lit2]; exact (Lib.bytes_beq_false_iff _ _).2 (fun h2 => pA ⟨h, h2⟩)
        clear pA
        by_cases pB : 1 < s.size
        · have h0 : 0 < s.size := by omega
          have hf := first_of h0
          obtain ⟨c, hc⟩ : ∃ c : Nat, (s[0]'h0).toNat = c := ⟨_, rfl⟩
          obtain ⟨z9, hz9⟩ : ∃ z : Int, ((s[0]'h0).toNat : Int) = z := ⟨_, rfl⟩
          by_cases pc : c = 35
          · have hE : Hid (entT s.data.toList = Tx.keep (num 10 7 (s.data.toList.drop 1))) := entT_d2 hA2 (by rw [hf]; congr 1; exact UInt8.toNat_inj.1 (by rw [hc, pc]; rfl))
            have hn := fun (W : World) => numeral_any (s.extract 1 s.size) 10 7 W (by simp; omega) (.inl rfl) (by omega)
            rw [Lib.extract_to_end] at hn
            obtain rfl : z9 = 35 := by rw [← hz9, hc, pc]; rfl
            clear hf hA2 hc
            by_cases p1 : 2 < s.size
            · have p2 := pn p1
              clear pn
              rcases keep_cases (num 10 7 (s.data.toList.drop 1)) with ⟨ho, hk2⟩ | ⟨v, ho, hg, hk2⟩ | ⟨v, ho, hg, hk2⟩
              · have HF : Hid (entB s.data.toList = []) := entB_none (by rw [HM.out, hE.out, hk2])
                rw [ho] at hn
                have HN := Lib.hid hn
                clear hn ho hk2
                go_wp2_with (go_at_call 114; refine (HN.out _).mono ?_; rintro e w1 ⟨rfl, rfl⟩; rw [numI_none])
                go_ret
                exact ⟨by rw [HF.out]; rfl, HB.out⟩
              · have HF : Hid (entB s.data.toList = []) := entB_none (by rw [HM.out, hE.out, hk2])
                rw [ho] at hn
                have hvb := num_lt (by omega) (by omega) (by omega) ho
                have hch := HC.out (v : Int)
                rw [charI_good, hg] at hch
                obtain ⟨z, hz⟩ : ∃ z : Int, (v : Int) = z := ⟨_, rfl⟩
                rw [numI_some, hz] at hn
                rw [hz] at hch
                have z0 : 0 ≤ z := by omega
                have HN := Lib.hid hn
                have HCH := Lib.hid hch
                clear hn ho hk2 hch hz hg hvb
                go_wp2_with (first | (go_at_call 114; refine (HN.out _).mono ?_; rintro e w1 ⟨rfl, rfl⟩) | (go_at_call 89; refine (HCH.out _).mono ?_; rintro e w1 ⟨rfl, rfl⟩))
                go_ret
                exact ⟨by rw [HF.out]; rfl, HB.out⟩
              · have HF : Hid (entB s.data.toList = enc v) := entB_some (by rw [HM.out, hE.out, hk2])
                rw [ho] at hn
                have hvb := num_lt (by omega) (by omega) (by omega) ho
                have hch := HC.out (v : Int)
                have hu := fun W => HU.out v W (good_le hg).2
                rw [charI_good, hg] at hch
                obtain ⟨z, hz⟩ : ∃ z : Int, (v : Int) = z := ⟨_, rfl⟩
                rw [numI_some, hz] at hn
                rw [hz] at hch hu
                have z0 : 0 ≤ z := by omega
                have HN := Lib.hid hn
                have HCH := Lib.hid hch
                have HUU := Lib.hid hu
                clear hn ho hk2 hch hz hg hvb hu
                go_wp2_with (first | (go_at_call 114; refine (HN.out _).mono ?_; rintro e w1 ⟨rfl, rfl⟩) | (go_at_call 89; refine (HCH.out _).mono ?_; rintro e w1 ⟨rfl, rfl⟩) | (go_at_call 115; refine (HUU.out _).mono ?_; rintro e w1 ⟨rfl, b1⟩))
                go_ret
                exact ⟨by rw [HF.out]; rfl, HB.out.trans (b1.mono HB.out.size)⟩
            · clear pn
              rcases keep_cases (num 10 7 (s.data.toList.drop 1)) with ⟨ho, hk2⟩ | ⟨v, ho, hg, hk2⟩ | ⟨v, ho, hg, hk2⟩
              · have HF : Hid (entB s.data.toList = []) := entB_none (by rw [HM.out, hE.out, hk2])
                rw [ho] at hn
                have HN := Lib.hid hn
                clear hn ho hk2
                go_wp2_with (go_at_call 114; refine (HN.out _).mono ?_; rintro e w1 ⟨rfl, rfl⟩; rw [numI_none])
                go_ret
                exact ⟨by rw [HF.out]; rfl, HB.out⟩
              · have HF : Hid (entB s.data.toList = []) := entB_none (by rw [HM.out, hE.out, hk2])
                rw [ho] at hn
                have hvb := num_lt (by omega) (by omega) (by omega) ho
                have hch := HC.out (v : Int)
                rw [charI_good, hg] at hch
                obtain ⟨z, hz⟩ : ∃ z : Int, (v : Int) = z := ⟨_, rfl⟩
                rw [numI_some, hz] at hn
                rw [hz] at hch
                have z0 : 0 ≤ z := by omega
                have HN := Lib.hid hn
                have HCH := Lib.hid hch
                clear hn ho hk2 hch hz hg hvb
                go_wp2_with (first | (go_at_call 114; refine (HN.out _).mono ?_; rintro e w1 ⟨rfl, rfl⟩) | (go_at_call 89; refine (HCH.out _).mono ?_; rintro e w1 ⟨rfl, rfl⟩))
                go_ret
                exact ⟨by rw [HF.out]; rfl, HB.out⟩
              · have HF : Hid (entB s.data.toList = enc v) := entB_some (by rw [HM.out, hE.out, hk2])
                rw [ho] at hn
                have hvb := num_lt (by omega) (by omega) (by omega) ho
                have hch := HC.out (v : Int)
                have hu := fun W => HU.out v W (good_le hg).2
                rw [charI_good, hg] at hch
                obtain ⟨z, hz⟩ : ∃ z : Int, (v : Int) = z := ⟨_, rfl⟩
                rw [numI_some, hz] at hn
                rw [hz] at hch hu
                have z0 : 0 ≤ z := by omega
                have HN := Lib.hid hn
                have HCH := Lib.hid hch
                have HUU := Lib.hid hu
                clear hn ho hk2 hch hz hg hvb hu
                go_wp2_with (first | (go_at_call 114; refine (HN.out _).mono ?_; rintro e w1 ⟨rfl, rfl⟩) | (go_at_call 89; refine (HCH.out _).mono ?_; rintro e w1 ⟨rfl, rfl⟩) | (go_at_call 115; refine (HUU.out _).mono ?_; rintro e w1 ⟨rfl, b1⟩))
                go_ret
                exact ⟨by rw [HF.out]; rfl, HB.out.trans (b1.mono HB.out.size)⟩
          · have hT : entT s.data.toList = none := entT_n (by rw [hf]; intro h; apply pc; rw [← hc, Option.some.inj h]; rfl)
            have g9 : (z9 == 35) = false := by simp; omega
            clear hf hA2 hc
            by_cases p1 : 2 < s.size
            · have p2 := pn p1
              clear pn
              have hnone : Hid (entB s.data.toList = []) := entB_none (by rw [HM.out, hT])
              clear hT
              go_wp2_with fail
              go_ret
              exact ⟨by rw [hnone.out]; rfl, HB.out⟩
            · clear pn
              have hnone : Hid (entB s.data.toList = []) := entB_none (by rw [HM.out, hT])
              clear hT
              go_wp2_with fail
              go_ret
              exact ⟨by rw [hnone.out]; rfl, HB.out⟩
        · have hT : entT s.data.toList = none := entT_s (by rw [← hsz.out]; omega)
          clear hA2 pn
          have hnone : Hid (entB s.data.toList = []) := entB_none (by rw [HM.out, hT])
          clear hT
          go_wp2_with fail
          go_ret
          exact ⟨by rw [hnone.out]; rfl, HB.out⟩
end Go.Proofs.YtpomcamkkcggmaaGreatDoor
/-
  THE DOCUMENT's OWN ANSWER for escape.Back: cardexref01.Back.
-/
namespace Go.Proofs.YtpomcamkkcggmaaGreatDoor
open Go.RowKit Tx

/-- how the document's loop stands: o ahead, the rest from k on -/
def Stand (l : List UInt8) (k : Nat) (o : List UInt8) : Prop := back l = (back (l.drop k)).map (o ++ ·)
theorem Stand.start (l : List UInt8) : Stand l 0 [] := by unfold Stand; rw [List.drop_zero]; cases back l <;> rfl
theorem Stand.done {l o : List UInt8} {k : Nat} (h : Stand l k o) (hk : l.length ≤ k) : back l = some o := by
  unfold Stand at h
  rw [List.drop_eq_nil_of_le hk, back_nil] at h
  simpa using h
section
variable {s : ByteArray} {k : Nat} {o : List UInt8}
theorem Stand.lt (h : Stand s.data.toList k o) (hk : k < s.size) (hc : (s[k]'hk) = 60) : back s.data.toList = none := by
  unfold Stand at h
  rw [h, drop_step hk, hc, back_lt]
  rfl
theorem Stand.plain (h : Stand s.data.toList k o) (hk : k < s.size) (h1 : (s[k]'hk) ≠ 60) (h2 : (s[k]'hk) ≠ 38) : Stand s.data.toList (k + 1) (o ++ [s[k]'hk]) := by
  unfold Stand at h ⊢
  rw [h, drop_step hk, back_plain _ h1 h2]
  cases back (List.drop (k + 1) s.data.toList) <;> simp
/-- no ";" between -/
def NoSemi (s : ByteArray) (k e : Nat) : Prop := ∀ j, k ≤ j → j < e → s.data.toList.getD j 0 ≠ 59
theorem getD_drop (l : List UInt8) (i j : Nat) : (l.drop i).getD j 0 = l.getD (i + j) 0 := by simp [List.getD_eq_getElem?_getD, List.getElem?_drop]
theorem Stand.open (h : Stand s.data.toList k o) (hk : k < s.size) (hc : (s[k]'hk) = 38) (hn : NoSemi s k s.size) : back s.data.toList = none := by
  unfold Stand at h
  rw [h, drop_step hk, hc, back_amp_none]
  · rfl
  · refine cutS_not _ (fun j hj => ?_)
    rw [List.length_drop, ← Lib.size_eq] at hj
    rw [getD_drop]
    exact hn _ (by omega) (by omega)
theorem cut_here {e : Nat} (he : e < s.size) (hke : k < e) (hn : NoSemi s k e) (h59 : (s[e]'he) = 59) : cutS (s.data.toList.drop (k + 1)) = some ((s.extract (k + 1) e).data.toList, s.data.toList.drop (e + 1)) := by
  have h' : e < s.data.toList.length := by rw [← Lib.size_eq]; exact he
  rw [cutS_at (s.data.toList.drop (k + 1)) (e - (k + 1)) (fun j hj => by rw [getD_drop]; exact hn _ (by omega) (by omega)) (by
    rw [List.getElem?_drop, show k + 1 + (e - (k + 1)) = e by omega, List.getElem?_eq_getElem h']; exact congrArg some h59)]
  rw [mid_cut, List.drop_drop, show k + 1 + (e - (k + 1) + 1) = e + 1 by omega]
theorem Stand.bad {e : Nat} (h : Stand s.data.toList k o) (hk : k < s.size) (hc : (s[k]'hk) = 38) (he : e < s.size) (hke : k < e) (hn : NoSemi s k e) (h59 : (s[e]'he) = 59) (hx : ent (s.extract (k + 1) e).data.toList = none) : back s.data.toList = none := by
  unfold Stand at h
  rw [h, drop_step hk, hc, back_amp_bad (cut_here he hke hn h59) hx]
  rfl
theorem Stand.ent {e v : Nat} (h : Stand s.data.toList k o) (hk : k < s.size) (hc : (s[k]'hk) = 38) (he : e < s.size) (hke : k < e) (hn : NoSemi s k e) (h59 : (s[e]'he) = 59) (hx : ent (s.extract (k + 1) e).data.toList = some v) : Stand s.data.toList (e + 1) (o ++ entB (s.extract (k + 1) e).data.toList) := by
  unfold Stand at h ⊢
  rw [h, drop_step hk, hc, back_amp_some (cut_here he hke hn h59) hx, entB_some hx]
  cases back (List.drop (e + 1) s.data.toList) <;> simp
end

set_option maxHeartbeats 4000000 in
set_option maxRecDepth 100000 in
theorem rback_any (s : ByteArray) (w : World) (hs : s.size < 10000000000000) :
    Calls Tryz.prog 68 #[.string s] w fun e w' => e = .returned (backV s.data.toList) ∧ Below w.heap.size w w' := by
  have hsz := Lib.hid (Lib.size_eq s)
  have HV := Lib.hid (rvalid_any s w hs)
  cases hv : valid s.data.toList with
  | false =>
    rw [hv] at HV
    have HF := Lib.hid (backV_utf hv)
    clear hv
    go_enter Tryz.func68, Tryz.ntmps68
    go_wp2_with (go_at_call 45; refine HV.out.mono ?_; rintro e w1 ⟨rfl, rfl⟩)
    go_ret2
    exact ⟨by rw [HF.out]; rfl, Below.refl _ _⟩
  | true =>
    rw [hv] at HV
    have HNone := Lib.hid (fun h => backV_none hv h)
    have HSome := Lib.hid (fun x h => backV_some (x := x) hv h)
    have HEnt := Lib.hid (fun (n : ByteArray) (W : World) h => entity_any n W h)
    clear hv
    go_enter Tryz.func68, Tryz.ntmps68
    go_wp2_with (go_at_call 45; refine HV.out.mono ?_; rintro e w1 ⟨rfl, rfl⟩)
    go_loopw [4, 5] (fun out at_ wr => ∃ (k : Nat) (o : ByteArray), k ≤ s.size ∧ out = .string o ∧ at_ = .int .i64 k ∧ o.size ≤ 4 * k ∧ Hid (Stand s.data.toList k o.data.toList) ∧ Below w.heap.size w wr) (fun _ at_ _ => s.size - (intOf at_).toNat)
    case atStart => exact ⟨0, ⟨#[]⟩, Nat.zero_le _, rfl, rfl, Nat.le_refl _, Lib.hid (Stand.start _), Below.refl _ _⟩
    case round =>
      obtain ⟨k, o, hk, rfl, rfl, hosz, hst, hb⟩ := hrel
      have hsw := hb.size
      by_cases hlt : k < s.size
      · have hcut := Lib.hid (one_cut hlt)
        obtain ⟨z, hz⟩ : ∃ z : Int, ((s[k]'hlt).toNat : Int) = z := ⟨_, rfl⟩
        have HU : Hid (∀ n : UInt8, z = n.toNat → (s[k]'hlt) = n) := fun n hn => UInt8.toNat_inj.1 (by omega)
        have HN : Hid (∀ n : UInt8, (s[k]'hlt) = n → z = n.toNat) := fun n hn => by rw [← hz, hn]
        by_cases h60 : z = 60
        · have HF := Lib.hid (HNone.out (hst.out.lt hlt (HU.out 60 h60)))
          subst h60
          go_wp2_with fail
          go_ret2
          exact ⟨by rw [HF.out]; rfl, hb⟩
        by_cases h38 : z = 38
        · have hc38 : Hid ((s[k]'hlt) = 38) := HU.out 38 h38
          have f1 : (z == 60) = false := by rw [h38]; rfl
          subst h38
          go_wp2_with fail
          go_loop [6] (fun en => ∃ (m : Nat), k ≤ m ∧ m ≤ s.size ∧ en = .int .i64 m ∧ Hid (NoSemi s k m)) (fun en => s.size - (intOf en).toNat)
          case atStart => exact ⟨k, Nat.le_refl _, hk, rfl, fun j h1 h2 => by omega⟩
          case round =>
            obtain ⟨m, hkm, hms, rfl, hno⟩ := hrel
            by_cases hlm : m < s.size
            · obtain ⟨y, hy⟩ : ∃ y : Int, ((s[m]'hlm).toNat : Int) = y := ⟨_, rfl⟩
              have hgd : Hid (s.data.toList.getD m 0 = s[m]'hlm) := by
                unfold Hid
                rw [List.getD_eq_getElem?_getD, Lib.data_getElem? s m hlm]
                rfl
              by_cases h59 : y = 59
              · have hm59 : Hid ((s[m]'hlm) = 59) := UInt8.toNat_inj.1 (by have : ((59 : UInt8).toNat : Int) = 59 := rfl; omega)
                have hne : k ≠ m := fun e => by
                  subst e
                  have := hc38.out
                  rw [hm59.out] at this
                  exact absurd this (by decide)
                have hkm' : k < m := by omega
                have HE := Lib.hid (fun (W : World) => HEnt.out (s.extract (k + 1) m) W (by rw [ByteArray.size_extract]; omega))
                have hel := entB_le (s.extract (k + 1) m).data.toList
                subst h59
                cases hent : ent (s.extract (k + 1) m).data.toList with
                | none =>
                  have HF := Lib.hid (HNone.out (hst.out.bad hlt hc38.out hlm hkm' hno.out hm59.out hent))
                  rw [entB_none hent] at HE
                  clear hent hel
                  go_wp2_with (go_at_call 93; refine (HE.out _).mono ?_; rintro e w2 ⟨rfl, b2⟩)
                  go_ret2
                  exact ⟨by rw [HF.out]; rfl, hb.trans (b2.mono hsw)⟩
                | some v =>
                  have HS := Lib.hid (hst.out.ent hlt hc38.out hlm hkm' hno.out hm59.out hent)
                  have hxne := entB_ne hent
                  obtain ⟨x, hx⟩ : ∃ x, entB (s.extract (k + 1) m).data.toList = x := ⟨_, rfl⟩
                  rw [hx] at HE HS hel hxne
                  have hxe : (⟨x.toArray⟩ : ByteArray).toList.isEmpty = false := by
                    rw [ByteArray.toList_mk]
                    cases x with
                    | nil => exact absurd rfl hxne
                    | cons a t => rfl
                  have hxs : (⟨x.toArray⟩ : ByteArray).size ≤ 4 := by rw [Lib.size_eq]; exact hel
                  obtain ⟨b, hbx⟩ : ∃ b : ByteArray, ⟨x.toArray⟩ = b := ⟨_, rfl⟩
                  have hbl : Hid (b.data.toList = x) := by unfold Hid; rw [← hbx]
                  rw [hbx] at HE hxe hxs
                  clear hent hx hxne hbx hel
                  go_wp2_with (go_at_call 93; refine (HE.out _).mono ?_; rintro e w2 ⟨rfl, b2⟩)
                  go_roundw
                  case rel => exact ⟨m + 1, _, by omega, rfl, by go_num, by rw [ByteArray.size_append]; omega, by unfold Hid; rw [cat_list, hbl.out]; exact HS.out, hb.trans (b2.mono hsw)⟩
                  case measure => simp [intOf]; omega
              · have hno' : Hid (NoSemi s k (m + 1)) := fun j h1 h2 => by
                  rcases Nat.lt_or_ge j m with h | h
                  · exact hno.out j h1 h
                  · obtain rfl : j = m := by omega
                    rw [hgd.out]
                    intro e
                    apply h59
                    rw [← hy, e]; rfl
                have f3 : (y != 59) = true := by simpa using h59
                clear h59
                go_wp2_with fail
                go_round
                case rel => exact ⟨m + 1, by omega, by omega, by go_num, hno'⟩
                case measure => simp [intOf]; omega
            · obtain rfl : m = s.size := by omega
              have HF := Lib.hid (HNone.out (hst.out.open hlt hc38.out hno.out))
              go_wp2_with fail
              go_ret2
              exact ⟨by rw [HF.out]; rfl, hb⟩
        · have HS := Lib.hid (hst.out.plain hlt (fun h => h60 (HN.out 60 h)) (fun h => h38 (HN.out 38 h)))
          have f1 : (z == 60) = false := by simpa using h60
          have f2 : (z != 38) = true := by simpa using h38
          clear h60 h38
          go_wp2_with fail
          go_roundw
          case rel => exact ⟨k + 1, _, by omega, rfl, by go_num, by rw [ByteArray.size_append, ByteArray.size_extract]; omega, by unfold Hid; rw [cat_list, hcut.out]; exact HS.out, hb⟩
          case measure => simp [intOf]; omega
      · have hke : s.data.toList.length ≤ k := by rw [← hsz.out]; omega
        have HF := Lib.hid (HSome.out _ (hst.out.done hke))
        clear hke
        go_wp2_with fail
        go_ret2
        exact ⟨by rw [HF.out]; rfl, hb⟩
end Go.Proofs.YtpomcamkkcggmaaGreatDoor
