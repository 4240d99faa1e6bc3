/-
  cardexref08: a letter, what may be within a name, a name (of any text), attributes that may be.
-/
import Derived.Test.YtbkfmbkamocllaaDoorCnW
import Derived.Test.YtbkfmbkamocllaaDoorRefEsc
namespace Go.Proofs.YtbkfmbkamocllaaDoor
open Go.RowKit Tk Tr Cn

theorem rn_lett_int (c : UInt8) : lett c = ((decide ((c.toNat : Int) ≥ 65) && decide ((c.toNat : Int) ≤ 90)) || (decide ((c.toNat : Int) ≥ 97) && decide ((c.toNat : Int) ≤ 122))) := by
  have H : ∀ k : Fin 256, lett (UInt8.ofNat k.val) = ((decide ((k.val : Int) ≥ 65) && decide ((k.val : Int) ≤ 90)) || (decide ((k.val : Int) ≥ 97) && decide ((k.val : Int) ≤ 122))) := by decide +kernel
  have h := H ⟨c.toNat, c.toNat_lt⟩
  simpa using h
theorem rn_wi_lett (c : UInt8) : wi c = (lett c || ((c.toNat : Int) == 95) || (decide ((c.toNat : Int) ≥ 48) && decide ((c.toNat : Int) ≤ 57)) || ((c.toNat : Int) == 45) || ((c.toNat : Int) == 46)) := by
  have H : ∀ k : Fin 256, wi (UInt8.ofNat k.val) = (lett (UInt8.ofNat k.val) || ((k.val : Int) == 95) || (decide ((k.val : Int) ≥ 48) && decide ((k.val : Int) ≤ 57)) || ((k.val : Int) == 45) || ((k.val : Int) == 46)) := by decide +kernel
  have h := H ⟨c.toNat, c.toNat_lt⟩
  simpa using h
theorem rn_beg_lett (c : UInt8) : beg c = (lett c || ((c.toNat : Int) == 95)) := by
  have H : ∀ k : Fin 256, beg (UInt8.ofNat k.val) = (lett (UInt8.ofNat k.val) || ((k.val : Int) == 95)) := by decide +kernel
  have h := H ⟨c.toNat, c.toNat_lt⟩
  simpa using h
set_option maxHeartbeats 400000 in
theorem rn_letter_any (c : UInt8) (w : World) : Calls Tryd.prog 35 #[.int .u8 c.toNat] w fun e w' => e = .returned (.bool (lett c)) ∧ w' = w := by
  rw [rn_lett_int c]
  obtain ⟨z, hz⟩ : ∃ z : Int, (c.toNat : Int) = z := ⟨_, rfl⟩
  rw [hz]
  clear hz
  go_enter Tryd.func35, Tryd.ntmps35
  go_wp2
  all_goals
    go_ret
    exact ⟨ret_bool (by first | rfl | (rw [Bool.eq_iff_iff]; simp; done) | (rw [Bool.eq_iff_iff]; simp; omega)), rfl⟩
set_option maxHeartbeats 400000 in
theorem rn_within_any (c : UInt8) (w : World) : Calls Tryd.prog 34 #[.int .u8 c.toNat] w fun e w' => e = .returned (.bool (wi c)) ∧ w' = w := by
  have HB := Lib.hid (rn_letter_any c w)
  rw [rn_wi_lett c]
  obtain ⟨q, hq⟩ : ∃ q, lett c = q := ⟨_, rfl⟩
  rw [hq] at HB ⊢
  obtain ⟨z, hz⟩ : ∃ z : Int, (c.toNat : Int) = z := ⟨_, rfl⟩
  rw [hz] at HB ⊢
  clear hz hq
  go_enter Tryd.func34, Tryd.ntmps34
  go_wp2_with (go_at_call 35; refine HB.out.mono ?_; rintro e w1 ⟨rfl, rfl⟩)
  all_goals
    go_ret
    exact ⟨ret_bool (by first | rfl | (rw [Bool.eq_iff_iff]; simp_all; done) | (rw [Bool.eq_iff_iff]; simp_all; omega)), rfl⟩
theorem rn_first {s : ByteArray} (h : 0 < s.size) : ∃ t, s.data.toList = (s[0]'h) :: t := by
  cases hd : s.data.toList with
  | nil => rw [Lib.size_eq, hd] at h; cases h
  | cons a t =>
    refine ⟨t, ?_⟩
    have := Lib.data_getElem? s 0 h
    rw [hd] at this
    simp only [List.getElem?_cons_zero, Option.some.injEq] at this
    rw [← this]
theorem rn_nonempty {s : ByteArray} : s.toList.isEmpty = decide (s.size = 0) := by
  rw [show s = (⟨s.data.toList.toArray⟩ : ByteArray) from rfl, ByteArray.toList_mk, Lib.size_eq]
  cases s.data.toList with
  | nil => rfl
  | cons c t => simp
theorem nameT_miss {s : ByteArray} {k : Nat} (h : k < s.size) (hw : wi (s[k]'h) = false) : nameT s.data.toList = false := by
  unfold nameT
  rw [Bool.and_eq_false_iff]
  left
  rw [List.all_eq_false]
  exact ⟨_, List.mem_of_getElem? (Lib.data_getElem? s k h), by rw [hw]; simp⟩
theorem nameT_all {s : ByteArray} (hall : ∀ k (h : k < s.size), wi (s[k]'h) = true) : nameT s.data.toList = (match s.data.toList with | c :: _ => beg c | [] => false) := by
  unfold nameT
  have : s.data.toList.all wi = true := by
    rw [List.all_eq_true]
    intro x hx
    obtain ⟨i, hi⟩ := List.mem_iff_getElem?.1 hx
    have h2 := (List.getElem?_eq_some_iff.1 hi).1
    have h3 : i < s.size := by rw [Lib.size_eq]; exact h2
    rw [Lib.data_getElem? s i h3] at hi
    injection hi with hi
    rw [← hi]
    exact hall i h3
  rw [this, Bool.true_and]
  cases s.data.toList <;> rfl
set_option maxHeartbeats 2000000 in
theorem rn_Name_any (s : ByteArray) (w : World) (hs : s.size ≤ 140737488355328) :
    Calls Tryd.prog 18 #[.string s] w fun e w' => e = .returned (.bool (nameT s.data.toList)) ∧ w' = w := by
  have HMI := Lib.hid (fun (k : Nat) (h : k < s.size) h2 => nameT_miss h h2)
  have HAL := Lib.hid (fun h => nameT_all (s := s) h)
  have hemp := rn_nonempty (s := s)
  have HSZ := Lib.hid (Lib.size_eq s)
  go_enter Tryd.func18, Tryd.ntmps18
  go_wp2_with fail
  go_loop [3] (fun iv => ∃ k : Nat, k ≤ s.size ∧ iv = .int .i64 k ∧ Hid (∀ j (h : j < s.size), j < k → wi (s[j]'h) = true)) (fun iv => s.size - (intOf iv).toNat)
  case atStart => exact ⟨0, Nat.zero_le _, rfl, Lib.hid (fun j h h2 => absurd h2 (Nat.not_lt_zero _))⟩
  case round =>
    obtain ⟨k, hk, rfl, hall⟩ := hrel
    by_cases hlt : k < s.size
    · have HW := Lib.hid (rn_within_any (s[k]'hlt) w)
      cases hq : wi (s[k]'hlt) with
      | true =>
        rw [hq] at HW
        have hall2 : Hid (∀ j (h : j < s.size), j < k + 1 → wi (s[j]'h) = true) := Lib.hid (fun j h hj => by
          rcases Nat.lt_or_ge j k with h2 | h2
          · exact hall.out j h h2
          · obtain rfl : j = k := by omega
            exact hq)
        obtain ⟨y, hy⟩ : ∃ y : Int, ((s[k]'hlt).toNat : Int) = y := ⟨_, rfl⟩
        rw [hy] at HW
        clear hq hemp
        go_wp2_with (go_at_call 34; refine HW.out.mono ?_; rintro e w1 ⟨rfl, rfl⟩)
        go_round
        case rel => exact ⟨k + 1, by omega, by go_num, hall2⟩
        case measure => simp [intOf]; omega
      | false =>
        rw [hq] at HW
        have HR := Lib.hid (HMI.out k hlt hq)
        obtain ⟨y, hy⟩ : ∃ y : Int, ((s[k]'hlt).toNat : Int) = y := ⟨_, rfl⟩
        rw [hy] at HW
        clear hq hemp
        go_wp2_with (go_at_call 34; refine HW.out.mono ?_; rintro e w1 ⟨rfl, rfl⟩)
        go_ret
        exact ⟨by rw [HR.out]; rfl, rfl⟩
    · have HA := Lib.hid (HAL.out (fun j h => hall.out j h (by omega)))
      by_cases h0 : 0 < s.size
      · obtain ⟨t, ht⟩ := rn_first h0
        obtain ⟨c, hc⟩ : ∃ c : UInt8, s[0]'h0 = c := ⟨_, rfl⟩
        rw [hc] at ht
        have HR : Hid (nameT s.data.toList = beg c) := by unfold Hid; rw [HA.out, ht]
        have hem2 : s.toList.isEmpty = false := by rw [hemp]; exact decide_eq_false (by omega)
        have HLT := Lib.hid (rn_letter_any c)
        have hbl := rn_beg_lett c
        obtain ⟨z, hz⟩ : ∃ z : Int, (c.toNat : Int) = z := ⟨_, rfl⟩
        have hcz : ((s[0]'h0).toNat : Int) = z := by rw [hc]; exact hz
        rw [hz] at hbl HLT
        obtain ⟨l, hl⟩ : ∃ l, lett c = l := ⟨_, rfl⟩
        rw [hl] at hbl HLT
        have HBL := Lib.hid hbl
        clear hemp ht hc hz hl hbl
        cases l with
        | true =>
          have HR2 : Hid (nameT s.data.toList = true) := by unfold Hid; rw [HR.out, HBL.out]; rfl
          go_wp2_with (go_at_call 35; refine (HLT.out _).mono ?_; rintro e w1 ⟨rfl, rfl⟩)
          go_ret
          exact ⟨by rw [HR2.out]; rfl, rfl⟩
        | false =>
          have HR2 : Hid (nameT s.data.toList = (z == 95)) := by unfold Hid; rw [HR.out, HBL.out]; rfl
          go_wp2_with (go_at_call 35; refine (HLT.out _).mono ?_; rintro e w1 ⟨rfl, rfl⟩)
          go_ret
          exact ⟨by rw [HR2.out]; rfl, rfl⟩
      · have ht : s.data.toList = [] := List.eq_nil_of_length_eq_zero (by rw [← HSZ.out]; omega)
        have HR : Hid (nameT s.data.toList = false) := by unfold Hid; rw [HA.out, ht]
        have hem2 : s.toList.isEmpty = true := by rw [hemp]; exact decide_eq_true (by omega)
        clear hemp ht h0
        go_wp2_with fail
        go_ret
        exact ⟨by rw [HR.out]; rfl, rfl⟩
theorem belowN {B : Nat} {w w' : World} (h : Below B w w') (n : Nat) : Below B w (w'.drewN n) := ⟨h.os, h.tape, h.output, h.size, h.block⟩
set_option maxHeartbeats 4000000 in
set_option maxRecDepth 100000 in
theorem rn_rightAttrs_any (v : Value) (l : List Att) (w : World) (hv : ReadA w v l) (hl : l.length ≤ 1000000000) (hsz : ∀ a ∈ l, a.1.length ≤ 1000000000 ∧ a.2.length ≤ 1000000000) :
    Calls Tryd.prog 19 #[v] w fun e w' => e = .returned (.bool (apartB l)) ∧ Below w.heap.size w w' := by
  obtain ⟨A, cap, rfl, hx⟩ := hv
  have HX := Lib.hid hx
  have HSZ := Lib.hid hsz
  have HN10 := Lib.hid (fun (h : l.length < 10) h2 => apart_all h h2)
  have HNO := Lib.hid (fun (k : Nat) (h : k < l.length) h2 => apart_not h h2)
  have HGE : Hid (¬ l.length < 10 → apartB l = false) := fun h => by unfold apartB; rw [decide_eq_false h]; rfl
  obtain ⟨n, hn⟩ : ∃ n, l.length = n := ⟨_, rfl⟩
  have HN := Lib.hid hn
  rw [hn] at hl HX HN10 HNO HGE ⊢
  clear hx hsz hn
  go_enter Tryd.func19, Tryd.ntmps19
  go_wp2_with fail
  go_loopw [3] (fun c wr => ∃ (i : Nat), i ≤ n ∧ c = .int .i64 i ∧ Hid (∀ j, j < i → okA l j = true) ∧ Hid (Below w.heap.size w wr)) (fun c _ => n - (intOf c).toNat)
  case atStart => exact ⟨0, Nat.zero_le _, rfl, Lib.hid (fun j h => absurd h (Nat.not_lt_zero _)), Below.refl _ _⟩
  case round =>
    obtain ⟨i, hi, rfl, hok, hb⟩ := hrel
    by_cases hlt : i < n
    · obtain ⟨ad, rfl, hlb, hc⟩ := HX.out (by omega)
      have HCC := Lib.hid hc
      obtain ⟨a, ha⟩ : ∃ a, l[i]? = some a := ⟨_, List.getElem?_eq_getElem (by have := HN.out; omega)⟩
      obtain ⟨c0, c1⟩ := hc i a ha
      have HA := Lib.hid ha
      have HOK := Lib.hid (okA_eq ha)
      have hx0 := bts_eqL a.1 xmlnsL
      unfold xmlnsL at hx0
      obtain ⟨s0, s1⟩ := HSZ.out a (List.mem_of_getElem? ha)
      have HBE := Lib.hid (fun (b : Att) => bts_eqC b.1 a.1)
      have HNA := Lib.hid (fun W => rn_Name_any (bts a.1) W (by rw [bts_size]; omega))
      have HVA := Lib.hid (fun W => rvalid_any (bts a.2) W (by rw [bts_size]; omega))
      rw [show (bts a.1).data.toList = a.1 from rfl] at HNA
      rw [show (bts a.2).data.toList = a.2 from rfl] at HVA
      obtain ⟨y0, h0⟩ : ∃ y, bts a.1 = y := ⟨_, rfl⟩
      obtain ⟨y1, h1⟩ : ∃ y, bts a.2 = y := ⟨_, rfl⟩
      rw [h0] at c0 hx0 HNA HBE
      rw [h1] at c1 HVA
      have C0 := Lib.hid c0
      have C1 := Lib.hid c1
      clear hc ha s0 s1 h0 h1 c0 c1
      go_wp2_with fail
      go_loopw [4] (fun c wr => ∃ (k : Nat), k ≤ i ∧ c = .int .i64 k ∧ Hid (∀ (j : Nat) (b : Att), j < k → l[j]? = some b → b.1 ≠ a.1) ∧ Hid (Below w.heap.size w wr)) (fun c _ => i - (intOf c).toNat)
      case atStart => exact ⟨0, Nat.zero_le _, rfl, Lib.hid (fun j b h => absurd h (Nat.not_lt_zero _)), hb.out⟩
      case round =>
        obtain ⟨k, hk, rfl, hno, hb2⟩ := hrel
        have d0 : wr.cell? (ad.add (i * 2)) = some (.string y0) := (hb2.out.cell (by rw [addBlock]; exact hlb)).trans C0.out
        have d1 : wr.cell? ⟨(ad.add (i * 2)).block, (ad.add (i * 2)).off + 1, none⟩ = some (.string y1) := (hb2.out.cell (by show (ad.add (i * 2)).block < _; rw [addBlock]; exact hlb)).trans C1.out
        by_cases hki : k < i
        · obtain ⟨b, hbb⟩ : ∃ b, l[k]? = some b := ⟨_, List.getElem?_eq_getElem (by have := HN.out; omega)⟩
          obtain ⟨e0, e1⟩ := HCC.out k b hbb
          rw [← hb2.out.cell (p := ad.add (k * 2)) (by rw [addBlock]; exact hlb)] at e0
          have hbe := HBE.out b
          obtain ⟨z0, hz0⟩ : ∃ y, bts b.1 = y := ⟨_, rfl⟩
          rw [hz0] at e0 hbe
          have HB2 := Lib.hid hbb
          have hin : (i : Int) < (n : Int) := by omega
          have hkn : (k : Int) < (n : Int) := by omega
          have hk0 : (0 : Int) ≤ (k : Int) := by omega
          have hi0 : (0 : Int) ≤ (i : Int) := by omega
          clear hbb hz0 e1 d1 hx0
          by_cases hq : b.1 = a.1
          · have gq : (z0.toList == y0.toList) = true := by rw [hbe]; exact decide_eq_true hq
            have HR : Hid (apartB l = false) := HNO.out i hlt (by
              rw [HOK.out]
              have : (l.take i).any (fun b => decide (b.1 = a.1)) = true := List.any_eq_true.2 ⟨b, List.mem_of_getElem? (i := k) (by rw [List.getElem?_take_of_lt hki]; exact HB2.out), by simpa using hq⟩
              rw [this]
              simp)
            clear hq hbe
            go_wp2_with fail
            go_quiet (fail)
            go_wp2_with fail
            go_ret
            exact ⟨by rw [HR.out]; rfl, belowN hb2.out _⟩
          · have gq : (z0.toList == y0.toList) = false := by rw [hbe]; exact decide_eq_false hq
            have hno2 : Hid (∀ (j : Nat) (b : Att), j < k + 1 → l[j]? = some b → b.1 ≠ a.1) := Lib.hid (fun j b hj hjb => by
              rcases Nat.lt_or_ge j k with h | h
              · exact hno.out j b h hjb
              · obtain rfl : j = k := by omega
                rw [HB2.out] at hjb
                cases hjb
                exact hq)
            clear hq hbe
            go_wp2_with fail
            go_quiet (fail)
            go_wp2_with fail
            go_roundw
            case rel => exact ⟨k + 1, by omega, by go_num, hno2, belowN hb2.out _⟩
            case measure => simp [intOf]; omega
        · have hany : (l.take i).any (fun b => decide (b.1 = a.1)) = false := by
            rw [List.any_eq_false]
            intro b hb
            obtain ⟨j, hj⟩ := List.mem_iff_getElem?.1 hb
            have hji : j < i := by
              have := (List.getElem?_eq_some_iff.1 hj).1
              rw [List.length_take] at this
              omega
            rw [List.getElem?_take_of_lt hji] at hj
            simpa using hno.out j b (by omega) hj
          have HOK2 : Hid (okA l i = (nameT a.1 && !decide (a.1 = xmlnsL) && Tx.valid a.2)) := by unfold Hid; rw [HOK.out, hany]; simp
          clear hany
          cases hna : nameT a.1 with
          | false =>
            rw [hna] at HNA
            have HR : Hid (apartB l = false) := HNO.out i hlt (by rw [HOK2.out, hna]; rfl)
            clear hna hx0
            go_wp2_with (go_at_call 18; refine (HNA.out _).mono ?_; rintro e w6 ⟨rfl, rfl⟩)
            go_ret
            exact ⟨by rw [HR.out]; rfl, hb2.out⟩
          | true =>
            rw [hna] at HNA
            by_cases hxm : a.1 = xmlnsL
            · have HR : Hid (apartB l = false) := HNO.out i hlt (by rw [HOK2.out, decide_eq_true hxm]; simp)
              have gx : (y0.toList == [120, 109, 108, 110, 115]) = true := by rw [hx0]; exact decide_eq_true hxm
              clear hna hxm hx0
              go_wp2_with (go_at_call 18; refine (HNA.out _).mono ?_; rintro e w6 ⟨rfl, rfl⟩)
              go_ret
              exact ⟨by rw [HR.out]; rfl, hb2.out⟩
            · have gx : (y0.toList == [120, 109, 108, 110, 115]) = false := by rw [hx0]; exact decide_eq_false hxm
              have hxd : decide (a.1 = xmlnsL) = false := decide_eq_false hxm
              cases hva : Tx.valid a.2 with
              | false =>
                rw [hva] at HVA
                have HR : Hid (apartB l = false) := HNO.out i hlt (by rw [HOK2.out, hva]; simp)
                clear hna hxm hx0 hva hxd
                go_wp2_with (first | (go_at_call 18; refine (HNA.out _).mono ?_; rintro e w6 ⟨rfl, rfl⟩) | (go_at_call 11; refine (HVA.out _).mono ?_; rintro e w7 ⟨rfl, rfl⟩))
                go_ret
                exact ⟨by rw [HR.out]; rfl, hb2.out⟩
              | true =>
                rw [hva] at HVA
                have hok2 : Hid (∀ j, j < i + 1 → okA l j = true) := Lib.hid (fun j hj => by
                  rcases Nat.lt_or_ge j i with h | h
                  · exact hok.out j h
                  · obtain rfl : j = i := by omega
                    rw [HOK2.out, hna, hxd, hva]
                    rfl)
                clear hna hxm hx0 hva hxd
                go_wp2_with (first | (go_at_call 18; refine (HNA.out _).mono ?_; rintro e w6 ⟨rfl, rfl⟩) | (go_at_call 11; refine (HVA.out _).mono ?_; rintro e w7 ⟨rfl, rfl⟩))
                go_roundw
                case rel => exact ⟨i + 1, by omega, by go_num, hok2, hb2.out⟩
                case measure => simp [intOf]; omega
    · by_cases h10 : n < 10
      · have g10 : decide ((n : Int) ≤ 9) = true := decide_eq_true (by omega)
        have HR : Hid (apartB l = true) := HN10.out h10 (fun j hj => hok.out j (by omega))
        go_wp2_with fail
        go_ret
        exact ⟨by rw [HR.out]; rfl, hb.out⟩
      · have g10 : decide ((n : Int) ≤ 9) = false := decide_eq_false (by omega)
        have HR : Hid (apartB l = false) := HGE.out h10
        go_wp2_with fail
        go_ret
        exact ⟨by rw [HR.out]; rfl, hb.out⟩
end Go.Proofs.YtbkfmbkamocllaaDoor
