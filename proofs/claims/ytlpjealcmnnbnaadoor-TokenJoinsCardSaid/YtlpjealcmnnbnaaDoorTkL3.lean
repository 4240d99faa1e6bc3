/-
  The law TokenPlaces.
-/
import Derived.Test.YtlpjealcmnnbnaaDoorTkW
import Derived.Test.YtlpjealcmnnbnaaDoorTokP
import Derived.Test.YtlpjealcmnnbnaaDoorHolds
namespace Go.Proofs.YtlpjealcmnnbnaaDoor
open Go.RowKit Tk

theorem _root_.Go.RowKit.Below.drewN {B : Nat} {w w' : World} (h : Below B w w') (n : Nat) : Below B w (w'.drewN n) := ⟨h.os, h.tape, h.output, h.size, h.block⟩
theorem toks_count (l : List UInt8) (h : l.length ≤ 100000) : (tokensL l).1.length ≤ 100000 := by
  unfold tokensL
  split
  · simp
  split
  · unfold told
    split
    · simp
    · split
      · have h1 := manyT_count l.length ((over headL l).length + 1) [] (over headL l)
        have h2 : (over headL l).length ≤ l.length := by
          unfold over
          split
          · rw [List.length_drop]; omega
          · exact Nat.le_refl _
        simp only [List.length_nil] at h1
        unfold toksL
        show (manyF _ _ _ _).1.length ≤ _
        omega
      · simp
  · simp
theorem toks_attrs (l : List UInt8) (h : l.length ≤ 100000) : ∀ t ∈ (tokensL l).1, t.2.2.2.2.1.length ≤ 100000 := by
  unfold tokensL
  split
  · simp
  split
  · unfold told
    split
    · simp
    · split
      · have h2 : (over headL l).length ≤ l.length := by
          unfold over
          split
          · rw [List.length_drop]; omega
          · exact Nat.le_refl _
        exact manyT_attrs l.length 100000 _ [] _ (by omega) (fun t h => by cases h)
      · simp
  · simp
set_option maxHeartbeats 8000000 in
set_option maxRecDepth 100000 in
theorem tokenPlaces_any (s : ByteArray) (w : World) (hT : Tabs w) (hE : ErrS w) :
    Calls Tryd.prog 4 #[.string s] w (Holds w) := by
  have HTab := Lib.hid (fun (W : World) (h : Below w.heap.size w W) => And.intro (hT.below h) (hE.below h))
  have HA := Lib.hid (fun (W : World) (h : Below w.heap.size w W) => awake_any W (HTab.out W h).1 (HTab.out W h).2)
  have HTk := Lib.hid (fun (s : ByteArray) (W : World) (h : Below w.heap.size w W) (h2 : s.size < 4000000000) => tokens_any s W (HTab.out W h).1 (HTab.out W h).2 h2)
  clear hT hE
  by_cases hbig : 4000 < s.size
  · go_enter Tryd.func4, Tryd.ntmps4
    go_wp2_with (go_at_call 8; refine (HA.out _ (Below.refl _ _)).mono ?_; rintro e w1 ⟨rfl, b1⟩)
    go_ret
    exact ⟨rfl, b1⟩
  have HSZ := Lib.hid (Lib.size_eq s)
  have hs4 : s.size ≤ 4000 := by omega
  have H1 := Lib.hid (HTk.out s w (Below.refl _ _) (by omega))
  have HPL := Lib.hid (fun (h : (tokensL s.data.toList).2.2 = 0) (i k : Nat) (t : Tok) (hi : (tokensL s.data.toList).1[i]? = some (k, t)) => place_at h hi)
  have HER := Lib.hid (fun (h : (tokensL s.data.toList).2.2 ≠ 0) => toks_err h)
  have HCN := Lib.hid (toks_count s.data.toList (by rw [← HSZ.out]; omega))
  obtain ⟨O, hO⟩ : ∃ O, tokensL s.data.toList = O := ⟨_, rfl⟩
  rw [hO] at H1 HPL HER HCN
  clear hO
  by_cases hok : O.2.2 = 0
  · have HPL2 := Lib.hid (HPL.out hok)
    have HOK := Lib.hid hok
    clear HPL HER hok
    go_enter Tryd.func4, Tryd.ntmps4
    go_wp2_with fail
    refine H1.out.mono ?_
    rintro e w1 ⟨⟨v, rfl, o1⟩, b1⟩
    rw [HOK.out]
    have B1 := Lib.hid b1
    have O1 := Lib.hid o1
    obtain ⟨A, cap, rfl⟩ := o1.len
    clear b1 o1
    go_wp2_with fail
    go_loopw [6] (fun iv wr => ∃ i : Nat, i ≤ O.1.length ∧ iv = .int .i64 i ∧ Hid (Below w1.heap.size w1 wr)) (fun iv _ => O.1.length - (intOf iv).toNat)
    case atStart => exact ⟨0, Nat.zero_le _, rfl, Below.refl _ _⟩
    case round =>
      obtain ⟨i, hi, rfl, hbw⟩ := hrel
      have hsw := hbw.out.size
      have BW : Hid (Below w.heap.size w wr) := B1.out.trans (hbw.out.mono B1.out.size)
      have hcn := HCN.out
      by_cases hlt : i < O.1.length
      · obtain ⟨⟨k, t⟩, hit⟩ : ∃ p, O.1[i]? = some p := ⟨_, List.getElem?_eq_getElem hlt⟩
        obtain ⟨hk, ⟨xs, hxs⟩, hhd, hpr⟩ := HPL2.out i k t hit
        obtain ⟨g, cap', e', _, hgl, _, _, hat⟩ := O1.out.elem (by omega)
        injection e' with e1 e2 e3
        subst e1 e3
        obtain ⟨u, ⟨c0, c1, c2, c3, c4, c5⟩, hu⟩ := hat i (k, t) hit
        rw [← hbw.out.cell (p := ⟨g, i * 6, none⟩) hgl] at c0
        rw [← hbw.out.cell (p := ⟨g, i * 6 + 1, none⟩) hgl] at c1
        rw [← hbw.out.cell (p := ⟨g, i * 6 + 2, none⟩) hgl] at c2
        rw [← hbw.out.cell (p := ⟨g, i * 6 + 3, none⟩) hgl] at c3
        simp only at c0 c1 c2 c3
        have hks : k < s.size := by rw [HSZ.out]; exact hk
        obtain ⟨c, hc⟩ : ∃ c : UInt8, s[k]'hks = c := ⟨_, rfl⟩
        obtain ⟨z, hz⟩ : ∃ z : Int, (c.toNat : Int) = z := ⟨_, rfl⟩
        have hcz : ((s[k]'hks).toNat : Int) = z := by rw [hc]; exact hz
        obtain ⟨kd, hkd⟩ : ∃ kd : Int, (t.1 : Int) = kd := ⟨_, rfl⟩
        have heq : (z == 60) = (kd != 3) := by
          have h1 : (s.data.toList.drop k).head? = some c := by rw [first_drop hks, hc]; rfl
          rw [h1] at hhd
          by_cases h3 : t.1 = 3
          · have h2 : ¬ c = 60 := fun e => (hhd.1 (by rw [e])) h3
            have h4 : z ≠ 60 := fun e => h2 (UInt8.toNat_inj.1 (by have : ((60 : UInt8).toNat : Int) = 60 := rfl; omega))
            have h5 : kd = 3 := by rw [← hkd, h3]; rfl
            rw [h5]
            simpa using h4
          · have h2 : c = 60 := by have := hhd.2 h3; simpa using this
            have h4 : z = 60 := by rw [← hz, h2]; rfl
            have h5 : kd ≠ 3 := by omega
            rw [h4]
            simp [h5]
        obtain ⟨eb, heb⟩ : ∃ eb, (kd != 3) = eb := ⟨_, rfl⟩
        rw [heb] at heq
        rw [hkd] at c0
        have hext := Lib.extract_to_end s k
        obtain ⟨q, hq⟩ : ∃ q, s.extract k s.size = q := ⟨_, rfl⟩
        rw [hq] at hext
        have hqs : q.size ≤ s.size := by rw [← hq, ByteArray.size_extract]; omega
        have H2 := Lib.hid (fun n => HTk.out q (wr.drewN n) (BW.out.drewN n) (by omega))
        rw [hext, hxs] at H2
        obtain ⟨a2, ha2⟩ : ∃ a, bts t.2.1 = a := ⟨_, rfl⟩
        obtain ⟨a3, ha3⟩ : ∃ a, bts t.2.2.1 = a := ⟨_, rfl⟩
        rw [ha2] at c2
        rw [ha3] at c3
        have HA2 := Lib.hid ha2
        have HA3 := Lib.hid ha3
        have HKD := Lib.hid hkd
        have HZ : Hid (∀ (j k' : Nat) (t' : Tok), j < i → O.1[j]? = some (k', t') → k' < k) := hpr
        have n1 : decide ((k : Int) < 0) = false := decide_eq_false (by omega)
        have n2 : decide (s.size ≤ k) = false := decide_eq_false (by omega)
        have hHAT := Lib.hid hat
        have HGL := Lib.hid hgl
        clear hit hk hxs hhd hpr hc hz hkd hext ha2 ha3 c4 c5 hu hgl hat e2
        by_cases hi0 : 0 < i
        · obtain ⟨⟨k', t'⟩, hjt⟩ : ∃ p, O.1[i - 1]? = some p := ⟨_, List.getElem?_eq_getElem (by omega)⟩
          have hkk := HZ.out (i - 1) k' t' (by omega) hjt
          obtain ⟨u', ⟨_, p1, _⟩, _⟩ := hHAT.out (i - 1) (k', t') hjt
          rw [← hbw.out.cell (p := ⟨g, (i - 1) * 6 + 1, none⟩) HGL.out] at p1
          obtain ⟨j, hj⟩ : ∃ j, i - 1 = j := ⟨_, rfl⟩
          rw [hj] at p1
          simp only at p1
          have hji : ((i : Int) - 1) = (j : Int) := by omega
          have n3 : decide (0 < i) = true := decide_eq_true hi0
          have n4 : decide (k ≤ k') = false := decide_eq_false (by omega)
          have hjl : (j : Int) < (O.1.length : Int) := by omega
          clear hjt hkk hj
          go_wp2_with fail
          go_quiet (fail)
          go_wp2_with fail
          refine (H2.out nq).mono ?_
          rintro e w2 ⟨⟨v2, rfl, o2⟩, b2⟩
          have B2 : Hid (Below wr.heap.size wr w2) := Below.trans ((Below.refl _ _).drewN nq) b2
          obtain ⟨g2, cap2, rfl, hB2g, hg2, _, _, hat2⟩ := o2.elem (by simp)
          obtain ⟨u2, ⟨m0, m1, m2, m3, _⟩, _⟩ := hat2 0 (0, t) rfl
          simp only [HKD.out, HA2.out, HA3.out, Nat.zero_mul, Nat.zero_add] at m0 m1 m2 m3
          have k0 : w2.cell? ⟨g, i * 6, none⟩ = some (.int .i64 kd) := (B2.out.cell (p := ⟨g, i * 6, none⟩) (Nat.lt_of_lt_of_le HGL.out hsw)).trans c0
          have k2 : w2.cell? ⟨g, i * 6 + 2, none⟩ = some (.string a2) := (B2.out.cell (p := ⟨g, i * 6 + 2, none⟩) (Nat.lt_of_lt_of_le HGL.out hsw)).trans c2
          have k3 : w2.cell? ⟨g, i * 6 + 3, none⟩ = some (.string a3) := (B2.out.cell (p := ⟨g, i * 6 + 3, none⟩) (Nat.lt_of_lt_of_le HGL.out hsw)).trans c3
          obtain ⟨L, hL⟩ : ∃ L, ((0, t) :: xs).length = L := ⟨_, rfl⟩
          have hL0 : 0 < L := by rw [← hL]; simp
          have hL1 : ((L : Int) == 0) = false := by simp; omega
          have hL2 : (0 : Int) < (L : Int) := by omega
          have hL3 : ((L : Nat) == 0) = false := by simp; omega
          have hL4 : decide (L = 0) = false := decide_eq_false (by omega)
          rw [hL]
          clear hL b2 o2 hat2 c0 c2 c3
          go_wp2_with fail
          go_quiet (fail)
          go_wp2_with fail
          go_roundw
          case rel => exact ⟨i + 1, by omega, by go_num, hbw.out.trans ((B2.out.drewN _).mono hsw)⟩
          case measure => simp [intOf]; omega
        · skip
          have n3 : decide (0 < i) = false := decide_eq_false hi0
          go_wp2_with fail
          go_quiet (fail)
          go_wp2_with fail
          refine (H2.out nq).mono ?_
          rintro e w2 ⟨⟨v2, rfl, o2⟩, b2⟩
          have B2 : Hid (Below wr.heap.size wr w2) := Below.trans ((Below.refl _ _).drewN nq) b2
          obtain ⟨g2, cap2, rfl, hB2g, hg2, _, _, hat2⟩ := o2.elem (by simp)
          obtain ⟨u2, ⟨m0, m1, m2, m3, _⟩, _⟩ := hat2 0 (0, t) rfl
          simp only [HKD.out, HA2.out, HA3.out, Nat.zero_mul, Nat.zero_add] at m0 m1 m2 m3
          have k0 : w2.cell? ⟨g, i * 6, none⟩ = some (.int .i64 kd) := (B2.out.cell (p := ⟨g, i * 6, none⟩) (Nat.lt_of_lt_of_le HGL.out hsw)).trans c0
          have k2 : w2.cell? ⟨g, i * 6 + 2, none⟩ = some (.string a2) := (B2.out.cell (p := ⟨g, i * 6 + 2, none⟩) (Nat.lt_of_lt_of_le HGL.out hsw)).trans c2
          have k3 : w2.cell? ⟨g, i * 6 + 3, none⟩ = some (.string a3) := (B2.out.cell (p := ⟨g, i * 6 + 3, none⟩) (Nat.lt_of_lt_of_le HGL.out hsw)).trans c3
          obtain ⟨L, hL⟩ : ∃ L, ((0, t) :: xs).length = L := ⟨_, rfl⟩
          have hL0 : 0 < L := by rw [← hL]; simp
          have hL1 : ((L : Int) == 0) = false := by simp; omega
          have hL2 : (0 : Int) < (L : Int) := by omega
          have hL3 : ((L : Nat) == 0) = false := by simp; omega
          have hL4 : decide (L = 0) = false := decide_eq_false (by omega)
          rw [hL]
          clear hL b2 o2 hat2 c0 c2 c3
          go_wp2_with fail
          go_quiet (fail)
          go_wp2_with fail
          go_roundw
          case rel => exact ⟨i + 1, by omega, by go_num, hbw.out.trans ((B2.out.drewN _).mono hsw)⟩
          case measure => simp [intOf]; omega
      · have hil : Hid (O.1.length ≤ i) := by unfold Hid; omega
        go_wp2_with (go_at_call 8; refine (HA.out _ BW.out).mono ?_; rintro e w3 ⟨rfl, b3⟩)
        go_ret
        exact ⟨rfl, BW.out.trans (b3.mono BW.out.size)⟩
  · have hne := Lib.hid (HER.out hok)
    have hbn : ((O.2.2 : Int) != 0) = true := by simp; omega
    obtain ⟨er, her⟩ : ∃ er : Int, (O.2.2 : Int) = er := ⟨_, rfl⟩
    rw [her] at hbn
    have HER2 := Lib.hid her
    clear HPL HER hok her
    go_enter Tryd.func4, Tryd.ntmps4
    go_wp2_with fail
    refine H1.out.mono ?_
    rintro e w1 ⟨⟨v, rfl, o1⟩, b1⟩
    rw [HER2.out]
    rw [hne.out] at o1
    have B1 := Lib.hid b1
    obtain ⟨A, cap, rfl⟩ := o1.len
    clear b1 o1
    go_wp2_with (go_at_call 8; refine (HA.out _ B1.out).mono ?_; rintro e w3 ⟨rfl, b3⟩)
    go_ret
    exact ⟨rfl, B1.out.trans (b3.mono B1.out.size)⟩
end Go.Proofs.YtlpjealcmnnbnaaDoor
