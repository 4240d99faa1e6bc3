/-
  THE DOCUMENT's OWN ENTITIES: what cardexref01.entity answers.
-/
import Derived.Test.YtlpjealcmnnbnaaGreatDoorEnt
namespace Go.Proofs.YtlpjealcmnnbnaaGreatDoor
open Go.RowKit Tx

set_option maxHeartbeats 2000000 in
set_option maxRecDepth 100000 in
theorem entity_any (s : ByteArray) (w : World) (hs : s.size < 10000000000000) :
    Calls Tryz.prog 47 #[.string s] w fun e w' => e = .returned (.string ⟨(entB s.data.toList).toArray⟩) ∧ Below w.heap.size w w' := by
  have hsz := Lib.hid (Lib.size_eq s)
  have HHit := Lib.hid (fun (k : Nat) (b : ByteArray) (h : nmL[k]? = some b) => ent_hit k b h)
  have HMiss := Lib.hid (fun (h : ∀ (j : Nat) (b : ByteArray), nmL[j]? = some b → b ≠ s) => ent_miss h)
  have HC := Lib.hid (fun (c : Int) (W : World) => char_any c W)
  have HU := Lib.hid (fun (c : Nat) (W : World) h => utf_any c W h)
  go_enter Tryz.func47, Tryz.ntmps47
  go_wp2_with fail
  obtain ⟨W2, hW2⟩ : ∃ W2, W2 = (w.alloc (.cells #[.string ⟨#[97, 109, 112]⟩, .string ⟨#[108, 116]⟩, .string ⟨#[103, 116]⟩, .string ⟨#[113, 117, 111, 116]⟩, .string ⟨#[97, 112, 111, 115]⟩] 9)).alloc (.cells #[.string ⟨#[38]⟩, .string ⟨#[60]⟩, .string ⟨#[62]⟩, .string ⟨#[34]⟩, .string ⟨#[39]⟩] 9) := ⟨_, rfl⟩
  rw [← hW2]
  have hN : Hid (∀ (j : Nat) (b : ByteArray), nmL[j]? = some b → W2.cell? ⟨w.heap.size, j, none⟩ = some (.string b)) := by
    intro j b hb
    rw [hW2, ((Bk.new w _ _).alloc _).cell]
    match j, hb with
    | 0, hb => cases hb; rfl
    | 1, hb => cases hb; rfl
    | 2, hb => cases hb; rfl
    | 3, hb => cases hb; rfl
    | 4, hb => cases hb; rfl
    | j + 5, hb => simp [nmL] at hb
  have hS : Hid (∀ (j : Nat) (b : ByteArray), sgL[j]? = some b → W2.cell? ⟨w.heap.size + 1, j, none⟩ = some (.string b)) := by
    intro j b hb
    rw [hW2, (Bk.new1 w _ _ _).cell]
    match j, hb with
    | 0, hb => cases hb; rfl
    | 1, hb => cases hb; rfl
    | 2, hb => cases hb; rfl
    | 3, hb => cases hb; rfl
    | 4, hb => cases hb; rfl
    | j + 5, hb => simp [sgL] at hb
  have hB : Below w.heap.size w W2 := by rw [hW2]; exact ((Below.refl _ _).alloc (Nat.le_refl _) _).alloc (by simp) _
  have HB := Lib.hid hB
  clear hW2 hB
  go_loop [5] (fun at_ => ∃ (k : Nat), k ≤ 5 ∧ at_ = .int .i64 k ∧ Hid (∀ (j : Nat) (b : ByteArray), j < k → nmL[j]? = some b → b ≠ s)) (fun at_ => 5 - (intOf at_).toNat)
  case atStart => exact ⟨0, Nat.zero_le _, rfl, Lib.hid (fun j b h => absurd h (Nat.not_lt_zero _))⟩
  case round =>
    obtain ⟨k, hk, rfl, hno⟩ := hrel
    by_cases hlt : k < 5
    · obtain ⟨b, hb⟩ : ∃ b, nmL[k]? = some b := ⟨_, List.getElem?_eq_getElem (show k < nmL.length from hlt)⟩
      have hc := hN.out k b hb
      by_cases he : b = s
      · obtain ⟨g, hg, hg2⟩ := HHit.out k b hb
        have hc2 := hS.out k g hg
        rw [he] at hg2
        have HF : Hid (Value.string ⟨(entB s.data.toList).toArray⟩ = .string g) := by unfold Hid; rw [hg2]
        have heq : (b.toList == s.toList) = true := (Lib.bytes_beq_iff b s).2 he
        clear hg2 he
        go_wp2_with fail
        go_ret
        exact ⟨by rw [HF.out]; rfl, HB.out⟩
      · have heq : (b.toList == s.toList) = false := (Lib.bytes_beq_false_iff b s).2 he
        have hno' : Hid (∀ (j : Nat) (b : ByteArray), j < k + 1 → nmL[j]? = some b → b ≠ s) := Lib.hid (fun j b' hj hej => by
          rcases Nat.lt_or_ge j k with h | h
          · exact hno.out j b' h hej
          · obtain rfl : j = k := by omega
            rw [hb] at hej; cases hej; exact he)
        clear he
        go_wp2_with fail
        go_round
        case rel => exact ⟨k + 1, by omega, by go_num, hno'⟩
        case measure => simp [intOf]; omega
    · obtain rfl : k = 5 := by omega
      have HM := Lib.hid (HMiss.out (fun j b h => by
        have hj : j < 5 := (List.getElem?_eq_some_iff.1 h).1
        exact hno.out j b hj h))
      clear hno
      by_cases pA : 2 < s.size ∧ s.extract 0 2 = ⟨#[35, 120]⟩
      · have hE : Hid (entT s.data.toList = Tx.keep (num 16 6 (s.data.toList.drop 2))) := entT_x (by rw [← take2_of, pA.2])
        have hn := fun (W : World) => numeral_any (s.extract 2 s.size) 16 6 W (by simp; omega) (.inr rfl) (by omega)
        rw [Lib.extract_to_end] at hn
        have p1 := pA.1
        have p2 : ((s.extract 0 2).toList == [35, 120]) = true := by rw [← lit2]; exact (Lib.bytes_beq_iff _ _).2 pA.2
        clear pA
        rcases keep_cases (num 16 6 (s.data.toList.drop 2)) with ⟨ho, hk2⟩ | ⟨v, ho, hg, hk2⟩ | ⟨v, ho, hg, hk2⟩
        · have HF : Hid (entB s.data.toList = []) := entB_none (by rw [HM.out, hE.out, hk2])
          rw [ho] at hn
          have HN := Lib.hid hn
          clear hn ho hk2
          go_wp2_with (go_at_call 65; refine (HN.out _).mono ?_; rintro e w1 ⟨rfl, rfl⟩; rw [numI_none])
          go_ret
          exact ⟨by rw [HF.out]; rfl, HB.out⟩
        · have HF : Hid (entB s.data.toList = []) := entB_none (by rw [HM.out, hE.out, hk2])
          rw [ho] at hn
          have hvb := num_lt (by omega) (by omega) (by omega) ho
          have hch := HC.out (v : Int)
          rw [charI_good, hg] at hch
          obtain ⟨z, hz⟩ : ∃ z : Int, (v : Int) = z := ⟨_, rfl⟩
          rw [numI_some, hz] at hn
          rw [hz] at hch
          have z0 : 0 ≤ z := by omega
          have HN := Lib.hid hn
          have HCH := Lib.hid hch
          clear hn ho hk2 hch hz hg hvb
          go_wp2_with (first | (go_at_call 65; refine (HN.out _).mono ?_; rintro e w1 ⟨rfl, rfl⟩) | (go_at_call 42; refine (HCH.out _).mono ?_; rintro e w1 ⟨rfl, rfl⟩))
          go_ret
          exact ⟨by rw [HF.out]; rfl, HB.out⟩
        · have HF : Hid (entB s.data.toList = enc v) := entB_some (by rw [HM.out, hE.out, hk2])
          rw [ho] at hn
          have hvb := num_lt (by omega) (by omega) (by omega) ho
          have hch := HC.out (v : Int)
          have hu := fun W => HU.out v W (good_le hg).2
          rw [charI_good, hg] at hch
          obtain ⟨z, hz⟩ : ∃ z : Int, (v : Int) = z := ⟨_, rfl⟩
          rw [numI_some, hz] at hn
          rw [hz] at hch hu
          have z0 : 0 ≤ z := by omega
          have HN := Lib.hid hn
          have HCH := Lib.hid hch
          have HUU := Lib.hid hu
          clear hn ho hk2 hch hz hg hvb hu
          go_wp2_with (first | (go_at_call 65; refine (HN.out _).mono ?_; rintro e w1 ⟨rfl, rfl⟩) | (go_at_call 42; refine (HCH.out _).mono ?_; rintro e w1 ⟨rfl, rfl⟩) | (go_at_call 66; refine (HUU.out _).mono ?_; rintro e w1 ⟨rfl, b1⟩))
          go_ret
          exact ⟨by rw [HF.out]; rfl, HB.out.trans (b1.mono HB.out.size)⟩
      · have hA2 : ¬ (2 < s.data.toList.length ∧ s.data.toList.take 2 = [35, 120]) := fun ⟨h1, h2⟩ => pA ⟨by rw [hsz.out]; exact h1, ByteArray.ext (Array.toList_inj.1 (by rw [take2_of, h2]))⟩
        have pn : 2 < s.size → ((s.extract 0 2).toList == [35, 120]) = false := fun h => by rw [← lit2]; exact (Lib.bytes_beq_false_iff _ _).2 (fun h2 => pA ⟨h, h2⟩)
        clear pA
        by_cases pB : 1 < s.size
        · have h0 : 0 < s.size := by omega
          have hf := first_of h0
          obtain ⟨c, hc⟩ : ∃ c : Nat, (s[0]'h0).toNat = c := ⟨_, rfl⟩
          obtain ⟨z9, hz9⟩ : ∃ z : Int, ((s[0]'h0).toNat : Int) = z := ⟨_, rfl⟩
          by_cases pc : c = 35
          · have hE : Hid (entT s.data.toList = Tx.keep (num 10 7 (s.data.toList.drop 1))) := entT_d2 hA2 (by rw [hf]; congr 1; exact UInt8.toNat_inj.1 (by rw [hc, pc]; rfl))
            have hn := fun (W : World) => numeral_any (s.extract 1 s.size) 10 7 W (by simp; omega) (.inl rfl) (by omega)
            rw [Lib.extract_to_end] at hn
            obtain rfl : z9 = 35 := by rw [← hz9, hc, pc]; rfl
            clear hf hA2 hc
            by_cases p1 : 2 < s.size
            · have p2 := pn p1
              clear pn
              rcases keep_cases (num 10 7 (s.data.toList.drop 1)) with ⟨ho, hk2⟩ | ⟨v, ho, hg, hk2⟩ | ⟨v, ho, hg, hk2⟩
              · have HF : Hid (entB s.data.toList = []) := entB_none (by rw [HM.out, hE.out, hk2])
                rw [ho] at hn
                have HN := Lib.hid hn
                clear hn ho hk2
                go_wp2_with (go_at_call 65; refine (HN.out _).mono ?_; rintro e w1 ⟨rfl, rfl⟩; rw [numI_none])
                go_ret
                exact ⟨by rw [HF.out]; rfl, HB.out⟩
              · have HF : Hid (entB s.data.toList = []) := entB_none (by rw [HM.out, hE.out, hk2])
                rw [ho] at hn
                have hvb := num_lt (by omega) (by omega) (by omega) ho
                have hch := HC.out (v : Int)
                rw [charI_good, hg] at hch
                obtain ⟨z, hz⟩ : ∃ z : Int, (v : Int) = z := ⟨_, rfl⟩
                rw [numI_some, hz] at hn
                rw [hz] at hch
                have z0 : 0 ≤ z := by omega
                have HN := Lib.hid hn
                have HCH := Lib.hid hch
                clear hn ho hk2 hch hz hg hvb
                go_wp2_with (first | (go_at_call 65; refine (HN.out _).mono ?_; rintro e w1 ⟨rfl, rfl⟩) | (go_at_call 42; refine (HCH.out _).mono ?_; rintro e w1 ⟨rfl, rfl⟩))
                go_ret
                exact ⟨by rw [HF.out]; rfl, HB.out⟩
              · have HF : Hid (entB s.data.toList = enc v) := entB_some (by rw [HM.out, hE.out, hk2])
                rw [ho] at hn
                have hvb := num_lt (by omega) (by omega) (by omega) ho
                have hch := HC.out (v : Int)
                have hu := fun W => HU.out v W (good_le hg).2
                rw [charI_good, hg] at hch
                obtain ⟨z, hz⟩ : ∃ z : Int, (v : Int) = z := ⟨_, rfl⟩
                rw [numI_some, hz] at hn
                rw [hz] at hch hu
                have z0 : 0 ≤ z := by omega
                have HN := Lib.hid hn
                have HCH := Lib.hid hch
                have HUU := Lib.hid hu
                clear hn ho hk2 hch hz hg hvb hu
                go_wp2_with (first | (go_at_call 65; refine (HN.out _).mono ?_; rintro e w1 ⟨rfl, rfl⟩) | (go_at_call 42; refine (HCH.out _).mono ?_; rintro e w1 ⟨rfl, rfl⟩) | (go_at_call 66; refine (HUU.out _).mono ?_; rintro e w1 ⟨rfl, b1⟩))
                go_ret
                exact ⟨by rw [HF.out]; rfl, HB.out.trans (b1.mono HB.out.size)⟩
            · clear pn
              rcases keep_cases (num 10 7 (s.data.toList.drop 1)) with ⟨ho, hk2⟩ | ⟨v, ho, hg, hk2⟩ | ⟨v, ho, hg, hk2⟩
              · have HF : Hid (entB s.data.toList = []) := entB_none (by rw [HM.out, hE.out, hk2])
                rw [ho] at hn
                have HN := Lib.hid hn
                clear hn ho hk2
                go_wp2_with (go_at_call 65; refine (HN.out _).mono ?_; rintro e w1 ⟨rfl, rfl⟩; rw [numI_none])
                go_ret
                exact ⟨by rw [HF.out]; rfl, HB.out⟩
              · have HF : Hid (entB s.data.toList = []) := entB_none (by rw [HM.out, hE.out, hk2])
                rw [ho] at hn
                have hvb := num_lt (by omega) (by omega) (by omega) ho
                have hch := HC.out (v : Int)
                rw [charI_good, hg] at hch
                obtain ⟨z, hz⟩ : ∃ z : Int, (v : Int) = z := ⟨_, rfl⟩
                rw [numI_some, hz] at hn
                rw [hz] at hch
                have z0 : 0 ≤ z := by omega
                have HN := Lib.hid hn
                have HCH := Lib.hid hch
                clear hn ho hk2 hch hz hg hvb
                go_wp2_with (first | (go_at_call 65; refine (HN.out _).mono ?_; rintro e w1 ⟨rfl, rfl⟩) | (go_at_call 42; refine (HCH.out _).mono ?_; rintro e w1 ⟨rfl, rfl⟩))
                go_ret
                exact ⟨by rw [HF.out]; rfl, HB.out⟩
              · have HF : Hid (entB s.data.toList = enc v) := entB_some (by rw [HM.out, hE.out, hk2])
                rw [ho] at hn
                have hvb := num_lt (by omega) (by omega) (by omega) ho
                have hch := HC.out (v : Int)
                have hu := fun W => HU.out v W (good_le hg).2
                rw [charI_good, hg] at hch
                obtain ⟨z, hz⟩ : ∃ z : Int, (v : Int) = z := ⟨_, rfl⟩
                rw [numI_some, hz] at hn
                rw [hz] at hch hu
                have z0 : 0 ≤ z := by omega
                have HN := Lib.hid hn
                have HCH := Lib.hid hch
                have HUU := Lib.hid hu
                clear hn ho hk2 hch hz hg hvb hu
                go_wp2_with (first | (go_at_call 65; refine (HN.out _).mono ?_; rintro e w1 ⟨rfl, rfl⟩) | (go_at_call 42; refine (HCH.out _).mono ?_; rintro e w1 ⟨rfl, rfl⟩) | (go_at_call 66; refine (HUU.out _).mono ?_; rintro e w1 ⟨rfl, b1⟩))
                go_ret
                exact ⟨by rw [HF.out]; rfl, HB.out.trans (b1.mono HB.out.size)⟩
          · have hT : entT s.data.toList = none := entT_n (by rw [hf]; intro h; apply pc; rw [← hc, Option.some.inj h]; rfl)
            have g9 : (z9 == 35) = false := by simp; omega
            clear hf hA2 hc
            by_cases p1 : 2 < s.size
            · have p2 := pn p1
              clear pn
              have hnone : Hid (entB s.data.toList = []) := entB_none (by rw [HM.out, hT])
              clear hT
              go_wp2_with fail
              go_ret
              exact ⟨by rw [hnone.out]; rfl, HB.out⟩
            · clear pn
              have hnone : Hid (entB s.data.toList = []) := entB_none (by rw [HM.out, hT])
              clear hT
              go_wp2_with fail
              go_ret
              exact ⟨by rw [hnone.out]; rfl, HB.out⟩
        · have hT : entT s.data.toList = none := entT_s (by rw [← hsz.out]; omega)
          clear hA2 pn
          have hnone : Hid (entB s.data.toList = []) := entB_none (by rw [HM.out, hT])
          clear hT
          go_wp2_with fail
          go_ret
          exact ⟨by rw [hnone.out]; rfl, HB.out⟩
end Go.Proofs.YtlpjealcmnnbnaaGreatDoor
