/-
  The law VcardMany.
-/
import Derived.Test.YtphopnfnjnieaaaDoorVAw
import Derived.Test.YtphopnfnjnieaaaDoorVWr
import Derived.Test.YtphopnfnjnieaaaDoorUint
namespace Go.Proofs.YtphopnfnjnieaaaDoor
open Go.RowKit Vc

theorem bts_catM (a b : List UInt8) : (bts a ++ bts b : ByteArray) = bts (a ++ b) := by
  apply ByteArray.ext
  apply Array.ext'
  simp
theorem propsL_len : ∀ k : Nat, (propsL k).length = 26 + 4 * k
  | 0 => by decide
  | k + 1 => by
    show (propsL k ++ rowL [88, 58]).length = _
    rw [List.length_append, propsL_len k, show (rowL [88, 58]).length = 4 by decide]
    omega
theorem cardsL_len : ∀ k : Nat, (cardsL k).length = 37 * k
  | 0 => rfl
  | k + 1 => by
    show (cardsL k ++ (openL ++ rowL endT)).length = _
    rw [List.length_append, cardsL_len k, show (openL ++ rowL endT).length = 37 by decide]
    omega
theorem many_one {w : World} {v : Value} {c : List Pr} (h : ReadP w v c) : ReadV (w.alloc (.cells #[v] 32)) (.slice (some ⟨w.heap.size, 0, none⟩) 1 1) [c] := by
  refine ⟨_, 1, rfl, fun _ => ⟨_, rfl, by simp, fun i d hd => ?_⟩⟩
  match i, hd with
  | 0, hd =>
    cases hd
    exact ⟨v, (Bk.new w 32 #[v]).cell 0, h.below ((Below.refl _ _).alloc (Nat.le_refl _) _)⟩
  | i + 1, hd => simp at hd
theorem xP_mild {n : Nat} : ∀ c ∈ [List.replicate n xP], n ≤ 42 → Mild c ∧ c.length ≤ 1000000000 := fun c hc hn => by
  rw [List.mem_singleton] at hc
  subst hc
  refine ⟨fun p hp => ?_, by simp; omega⟩
  rw [List.eq_of_mem_replicate hp, show (lineT xP).length = 2 by decide]
  omega
theorem props_bulk : ∀ i : Nat, i < 5 → bulkV [List.replicate (38 + i) xP] < 1000000 := by decide +kernel
theorem cards_bulk : ∀ i : Nat, i < 5 → bulkV (List.replicate (58 + i) ([] : List Pr)) < 1000000 := by decide +kernel
theorem many_all {w : World} {B : Nat} {v : Value} {n : Nat} (h : OwnG B w v (List.replicate n (.slice none 0 0))) : ReadV w v (List.replicate n ([] : List Pr)) := by
  refine h.reads (by simp) fun i u c hu hc => ?_
  obtain rfl := List.eq_of_mem_replicate (List.mem_of_getElem? hu)
  obtain rfl := List.eq_of_mem_replicate (List.mem_of_getElem? hc)
  exact ReadP.nil w
theorem many_props {w : World} {B : Nat} {v : Value} {n : Nat} (h : OwnG B w v (List.replicate n (.slice none 0 0))) : ∃ A cap, v = .slice A n cap := by
  obtain ⟨A, cap, e⟩ := h.slice
  rw [List.length_replicate] at e
  exact ⟨A, cap, e⟩

set_option maxHeartbeats 8000000 in
set_option maxRecDepth 100000 in
theorem vcardMany_any (props cards : Int) (w : World) (hO : Okw w) : Calls Tryd.prog 4 #[.int .i64 props, .int .i64 cards] w (Holds w) := by
  have HA := Lib.hid (fun (W : World) h => awake_any W h)
  have HOK := Lib.hid (fun (W : World) (h : Below w.heap.size w W) => hO.below h)
  obtain ⟨i, hi, hi2⟩ := uintMod props 5 (by omega) (by omega)
  obtain ⟨j, hj, hj2⟩ := uintMod cards 5 (by omega) (by omega)
  have i5 : (i : Int) < 5 := hi2
  have j5 : (j : Int) < 5 := hj2
  obtain ⟨P, hP⟩ : ∃ P, 38 + i = P := ⟨_, rfl⟩
  obtain ⟨C, hC⟩ : ∃ C, 58 + j = C := ⟨_, rfl⟩
  have hPi : (38 : Int) + (i : Int) = (P : Int) := by omega
  have hCi : (58 : Int) + (j : Int) = (C : Int) := by omega
  obtain ⟨a1, e1, g1, hs1⟩ : ∃ a1 e1 g1 : Nat, (∃ l, readV (propsL P ++ rowL endT) = (l, a1, e1)) ∧ (writeV [List.replicate P xP]).2 = g1 ∧ (i ≤ 2 ∧ a1 = 0 ∧ e1 = 0 ∧ g1 = 0 ∨ ¬ i ≤ 2 ∧ a1 = 43 ∧ e1 = 4 ∧ g1 = 12) := by
    have h1 := props_read i (by omega)
    have h2 := props_write i (by omega)
    rw [hP] at h1 h2
    by_cases h : i ≤ 2
    · rw [if_pos h] at h1 h2
      exact ⟨0, 0, 0, ⟨_, h1⟩, h2, .inl ⟨h, rfl, rfl, rfl⟩⟩
    · rw [if_neg h] at h1 h2
      exact ⟨43, 4, 12, ⟨_, h1⟩, h2, .inr ⟨h, rfl, rfl, rfl⟩⟩
  obtain ⟨a2, e2, g2, hs2⟩ : ∃ a2 e2 g2 : Nat, (∃ l, readV (cardsL C) = (l, a2, e2)) ∧ (writeV (List.replicate C ([] : List Pr))).2 = g2 ∧ (j ≤ 2 ∧ a2 = 0 ∧ e2 = 0 ∧ g2 = 0 ∨ ¬ j ≤ 2 ∧ a2 = 181 ∧ e2 = 4 ∧ g2 = 12) := by
    have h1 := cards_read j (by omega)
    have h2 := cards_write j (by omega)
    rw [hC] at h1 h2
    by_cases h : j ≤ 2
    · rw [if_pos h] at h1 h2
      exact ⟨0, 0, 0, ⟨_, h1⟩, h2, .inl ⟨h, rfl, rfl, rfl⟩⟩
    · rw [if_neg h] at h1 h2
      exact ⟨181, 4, 12, ⟨_, h1⟩, h2, .inr ⟨h, rfl, rfl, rfl⟩⟩
  obtain ⟨⟨l1, hl1⟩, hw1, hz1⟩ := hs1
  obtain ⟨⟨l2, hl2⟩, hw2, hz2⟩ := hs2
  have HZ1 := Lib.hid hz1
  have HZ2 := Lib.hid hz2
  have HR1 : Hid (∀ (s : ByteArray) (W : World), s = bts (propsL P) → Below w.heap.size w W → Calls Tryd.prog 5 #[.string (s ++ ⟨#[69, 78, 68, 58, 86, 67, 65, 82, 68, 13, 10]⟩)] W fun e w' => (∃ A n cap, e = .returned (.tuple #[.slice A n cap, .int .i64 a1, .int .i64 e1])) ∧ Below W.heap.size W w') := by
    intro s W hs hb
    have hO' := HOK.out W hb
    rw [hs, show (⟨#[69, 78, 68, 58, 86, 67, 65, 82, 68, 13, 10]⟩ : ByteArray) = bts (rowL endT) from rfl, bts_catM]
    refine (read_any (bts (propsL P ++ rowL endT)) W hO'.1 hO'.2.1 hO'.2.2 ?_).mono ?_
    · rw [Lib.size_eq]
      show (propsL P ++ rowL endT).length < _
      rw [List.length_append, propsL_len, show (rowL endT).length = 11 by decide]
      omega
    · unfold ReadsV
      rw [show (bts (propsL P ++ rowL endT)).data.toList = propsL P ++ rowL endT from rfl, hl1]
      rintro e w' ⟨⟨v, rfl, A, cap, rfl, -⟩, hb'⟩
      exact ⟨⟨A, _, cap, rfl⟩, hb'⟩
  have HR2 : Hid (∀ (s : ByteArray) (W : World), s = bts (cardsL C) → Below w.heap.size w W → Calls Tryd.prog 5 #[.string s] W fun e w' => (∃ A n cap, e = .returned (.tuple #[.slice A n cap, .int .i64 a2, .int .i64 e2])) ∧ Below W.heap.size W w') := by
    intro s W hs hb
    have hO' := HOK.out W hb
    rw [hs]
    refine (read_any (bts (cardsL C)) W hO'.1 hO'.2.1 hO'.2.2 ?_).mono ?_
    · rw [Lib.size_eq]
      show (cardsL C).length < _
      rw [cardsL_len]
      omega
    · unfold ReadsV
      rw [show (bts (cardsL C)).data.toList = cardsL C from rfl, hl2]
      rintro e w' ⟨⟨v, rfl, A, cap, rfl, -⟩, hb'⟩
      exact ⟨⟨A, _, cap, rfl⟩, hb'⟩
  have HW1 : Hid (∀ (v : Value) (W : World), ReadP W v (List.replicate P xP) → Below w.heap.size w W → Calls Tryd.prog 7 #[.slice (some ⟨W.heap.size, 0, none⟩) 1 1] (W.alloc (.cells #[v] 32)) fun e w' => (∃ s, e = .returned (.tuple #[.string s, .int .i64 g1])) ∧ Below W.heap.size W w') := by
    intro v W hv hb
    have hb1 : Below W.heap.size W (W.alloc (.cells #[v] 32)) := (Below.refl _ _).alloc (Nat.le_refl _) _
    have hO' := HOK.out _ (hb.alloc hb.size (.cells #[v] 32))
    have hbk := props_bulk i (by omega)
    rw [hP] at hbk
    refine (write_any _ [List.replicate P xP] _ hO'.1 hO'.2.2 hO'.2.1 (many_one hv) (fun c hc => xP_mild c hc (by omega)) (by simp) hbk).mono ?_
    unfold WritesV
    rw [hw1]
    rintro e w' ⟨rfl, hb'⟩
    exact ⟨⟨_, rfl⟩, hb1.trans (hb'.mono hb1.size)⟩
  have HW2 : Hid (∀ (B : Nat) (v : Value) (W : World), OwnG B W v (List.replicate C (.slice none 0 0)) → Below w.heap.size w W → Calls Tryd.prog 7 #[v] W fun e w' => (∃ s, e = .returned (.tuple #[.string s, .int .i64 g2])) ∧ Below W.heap.size W w') := by
    intro B v W hv hb
    have hO' := HOK.out W hb
    have hbk := cards_bulk j (by omega)
    rw [hC] at hbk
    refine (write_any _ (List.replicate C ([] : List Pr)) _ hO'.1 hO'.2.2 hO'.2.1 (many_all hv) (fun c hc => ?_) (by simp; omega) hbk).mono ?_
    · rw [List.eq_of_mem_replicate hc]
      exact ⟨fun p hp => absurd hp List.not_mem_nil, by simp⟩
    · unfold WritesV
      rw [hw2]
      rintro e w' ⟨rfl, hb'⟩
      exact ⟨⟨_, rfl⟩, hb'⟩
  have hst1 : Hid (∀ (s : ByteArray) (k : Nat), s = bts (propsL k) → s ++ ⟨#[88, 58, 13, 10]⟩ = bts (propsL (k + 1))) := fun s k hs => by
    rw [hs]
    exact bts_catM _ (rowL [88, 58])
  have hst2 : Hid (∀ (s : ByteArray) (k : Nat), s = bts (cardsL k) → s ++ ⟨#[66, 69, 71, 73, 78, 58, 86, 67, 65, 82, 68, 13, 10, 86, 69, 82, 83, 73, 79, 78, 58, 52, 46, 48, 13, 10, 69, 78, 68, 58, 86, 67, 65, 82, 68, 13, 10]⟩ = bts (cardsL (k + 1))) := fun s k hs => by
    rw [hs]
    exact bts_catM _ (openL ++ rowL endT)
  have hP42 : P ≤ 42 := by omega
  have hC62 : C ≤ 62 := by omega
  have hPe := Lib.hid hP
  have hCe := Lib.hid hC
  obtain ⟨D, hD⟩ : ∃ D, w.heap.size = D := ⟨_, rfl⟩
  have HUP : Hid (∀ W, Below D w W → Below w.heap.size w W) := fun W h => by rw [hD]; exact h
  have HDE := Lib.hid hD
  have HO0 : Hid (OwnP D w (.slice none 0 0) (List.replicate 0 xP)) := OwnP.nil _ _
  have HB0 : Hid (Below D w w) := Below.refl _ _
  have HS0 : Hid ((⟨#[66, 69, 71, 73, 78, 58, 86, 67, 65, 82, 68, 13, 10, 86, 69, 82, 83, 73, 79, 78, 58, 52, 46, 48, 13, 10]⟩ : ByteArray) = bts (propsL 0)) := rfl
  have HT0 : Hid ((⟨#[]⟩ : ByteArray) = bts (cardsL 0)) := rfl
  clear hl1 hl2 hw1 hw2 hz1 hz2 hP hC hO hD hi2 hj2
  go_enter Tryd.func4, Tryd.ntmps4
  go_wp2_with fail
  go_loopw [5, 6, 8] (fun ov sv iv wr => ∃ (k : Nat) (lx : Value) (s : ByteArray), ov = lx ∧ sv = .string s ∧ iv = .int .i64 k ∧ k ≤ P ∧ Hid (OwnP D wr lx (List.replicate k xP)) ∧ Hid (s = bts (propsL k)) ∧ Hid (Below D w wr)) (fun _ _ iv _ => P - (intOf iv).toNat)
  case atStart => exact ⟨0, _, _, rfl, rfl, rfl, Nat.zero_le _, HO0, HS0, HB0⟩
  case round =>
    obtain ⟨k, lx, s, hlx, rfl, rfl, hk, HO, HS, HBW⟩ := hrel
    have hlx2 := hlx.symm
    subst hlx2
    have hsz : s.size ≤ 400 := by
      rw [HS.out, Lib.size_eq]
      show (propsL k).length ≤ _
      rw [propsL_len]
      omega
    by_cases hlt : k < P
    · have hnx := Lib.hid (hst1.out s k HS.out)
      have HZ : Hid (D ≤ wr.heap.size) := by rw [← HDE.out]; exact (HUP.out _ HBW.out).size
      have hk1 : Hid ((List.replicate k xP).length ≤ 1000000000) := by unfold Hid; rw [List.length_replicate]; omega
      have hra : Hid (RowA wr (.slice none 0 0) xP.2.2.1) := ⟨none, 0, rfl, fun h => absurd h (Nat.not_lt_zero _), Nat.le_refl _, Nat.zero_le _, fun _ => rfl⟩
      clear hlx
      go_wp2_with (at_builtin; refine push_prp rfl _ _ rfl D lx (List.replicate k xP) xP (.slice none 0 0) ⟨#[]⟩ ⟨#[88]⟩ ⟨#[]⟩ rfl rfl rfl wr rfl HO.out hra.out rfl hk1.out HZ.out ?_)
      intro v6 w6 o6 b6
      have O6 : Hid (OwnP D w6 v6 (List.replicate (k + 1) xP)) := by
        unfold Hid
        rw [List.replicate_succ']
        exact o6
      have B6 : Hid (Below D w w6) := HBW.out.trans b6.1
      clear o6 b6
      go_wp2_with fail
      go_roundw
      case rel => exact ⟨k + 1, _, _, rfl, rfl, by go_num, by omega, O6, hnx, B6⟩
      case measure => simp [intOf]; omega
    · obtain rfl : k = P := by omega
      clear hlx
      obtain ⟨w1, rfl⟩ : ∃ w1, w1 = wr := ⟨_, rfl⟩
      have HG0 : Hid (OwnG w1.heap.size w1 (.slice none 0 0) (List.replicate 0 (.slice none 0 0))) := OwnG.nil _ _
      have HBB0 : Hid (Below w1.heap.size w1 w1) := Below.refl _ _
      go_wp2_with fail
      go_loopw [9, 7, 10] (fun ov sv iv wr => ∃ (m : Nat) (ly : Value) (t : ByteArray), ov = ly ∧ sv = .string t ∧ iv = .int .i64 m ∧ m ≤ C ∧ Hid (OwnG w1.heap.size wr ly (List.replicate m (.slice none 0 0))) ∧ Hid (t = bts (cardsL m)) ∧ Hid (Below w1.heap.size w1 wr)) (fun _ _ iv _ => C - (intOf iv).toNat)
      case atStart => exact ⟨0, _, _, rfl, rfl, rfl, Nat.zero_le _, HG0, HT0, HBB0⟩
      case round =>
        obtain ⟨m, ly, t, hly, rfl, rfl, hm, HG, HT, HBV⟩ := hrel
        have hly2 := hly.symm
        subst hly2
        have htz : t.size ≤ 4000 := by
          rw [HT.out, Lib.size_eq]
          show (cardsL m).length ≤ _
          rw [cardsL_len]
          omega
        obtain ⟨LA, lcap, rfl⟩ := many_props HG.out
        by_cases hlm : m < C
        · have hnx := Lib.hid (hst2.out t m HT.out)
          have HZ : Hid (w1.heap.size ≤ wr.heap.size) := HBV.out.size
          have HOW : Hid (wr.ownsRow w1.heap.size 32 1 (.slice LA m lcap) m (List.replicate m (.slice none 0 0))) := by
            have := HG.out
            unfold OwnG at this
            rwa [List.length_replicate] at this
          obtain ⟨i0, hi0, hz0, hz1, hz2⟩ := info_parts infoPs
          have HI := Lib.hid hi0
          have HZ0 := Lib.hid hz0
          have HZ1 := Lib.hid hz1
          have HZ2 := Lib.hid hz2
          clear hly hi0 hz0 hz1 hz2
          go_wp2_with (at_builtin; refine push_one Tryd.underlying27 HI.out HZ0.out HZ1.out HZ2.out rfl rfl _ _ rfl w1.heap.size (.slice LA m lcap) m (List.replicate m (.slice none 0 0)) (.slice none 0 0) wr rfl HOW.out rfl rfl (by omega) (by omega) HZ.out ?_)
          intro v7 w7 o7 b7
          have O7 : Hid (OwnG w1.heap.size w7 v7 (List.replicate (m + 1) (.slice none 0 0))) := by
            unfold Hid OwnG
            rw [List.replicate_succ', List.length_append, List.length_replicate]
            exact o7
          have B7 : Hid (Below w1.heap.size w1 w7) := HBV.out.trans b7
          clear o7 b7
          go_wp2_with fail
          go_roundw
          case rel => exact ⟨m + 1, _, _, rfl, rfl, by go_num, by omega, O7, hnx, B7⟩
          case measure => simp [intOf]; omega
        · obtain rfl : m = C := by omega
          clear hly
          have c1 : Hid (Below w.heap.size w wr) := (HUP.out _ HBW.out).trans (HBV.out.mono (HUP.out _ HBW.out).size)
          have hrp : Hid (ReadP wr lx (List.replicate k xP)) := (HO.out.below HBV.out).reads
          have hr1 := Lib.hid (HR1.out s wr HS.out c1.out)
          obtain ⟨XA, xcap, hxe⟩ := hrp.out.slice
          rw [List.length_replicate] at hxe
          subst hxe
          go_wp2_with fail
          refine hr1.out.mono ?_
          rintro e w3 ⟨⟨A3, n3, cap3, rfl⟩, b3⟩
          have c3 : Hid (Below w.heap.size w w3) := c1.out.trans (b3.mono c1.out.size)
          have hrp3 := Lib.hid (hrp.out.below b3)
          have hg3 := Lib.hid (HG.out.below b3)
          have hr2 := Lib.hid (HR2.out t w3 HT.out c3.out)
          clear b3
          go_wp2_with fail
          refine hr2.out.mono ?_
          rintro e w4 ⟨⟨A4, n4, cap4, rfl⟩, b4⟩
          have c4 : Hid (Below w.heap.size w w4) := c3.out.trans (b4.mono c3.out.size)
          have hrp4 := Lib.hid (hrp3.out.below b4)
          have hg4 := Lib.hid (hg3.out.below b4)
          have hw1 := Lib.hid (HW1.out _ w4 hrp4.out c4.out)
          clear b4
          go_wp2_with fail
          refine hw1.out.mono ?_
          rintro e w5 ⟨⟨s5, rfl⟩, b5⟩
          have c5 : Hid (Below w.heap.size w w5) := c4.out.trans (b5.mono c4.out.size)
          have hg5 := Lib.hid (hg4.out.below b5)
          have hw2 := Lib.hid (HW2.out _ _ w5 hg5.out c5.out)
          clear b5
          go_wp2_with fail
          refine hw2.out.mono ?_
          rintro e w6 ⟨⟨s6, rfl⟩, b6⟩
          have c6 : Hid (Below w.heap.size w w6) := c5.out.trans (b6.mono c5.out.size)
          clear b6
          have hpe := hPe.out
          have hce := hCe.out
          rcases HZ1.out with ⟨hi2, rfl, rfl, rfl⟩ | ⟨hi2, rfl, rfl, rfl⟩ <;> rcases HZ2.out with ⟨hj2, rfl, rfl, rfl⟩ | ⟨hj2, rfl, rfl, rfl⟩
          all_goals
            go_wp2_with fail
            refine (HA.out w6 (HOK.out w6 c6.out)).mono ?_
            rintro e w7 ⟨rfl, b7⟩
            go_wp2_with fail
            go_ret
            exact ⟨rfl, c6.out.trans (b7.mono c6.out.size)⟩
end Go.Proofs.YtphopnfnjnieaaaDoor
