/-
  package canon: attributes that an element can have: a question asked of each attribute, apart.
-/
import Derived.Test.YtbkfmbkamocllaaDoorCnM
import Derived.Test.YtbkfmbkamocllaaDoorCnN
import Derived.Test.YtbkfmbkamocllaaDoorVal
namespace Go.Proofs.YtbkfmbkamocllaaDoor
open Go.RowKit Tk Tr Cn

theorem bts_eqC (x y : List UInt8) : ((bts x).toList == (bts y).toList) = decide (x = y) := by
  rw [ByteArray.toList_mk, ByteArray.toList_mk, Bool.eq_iff_iff]
  simp
theorem bts_eqL (x y : List UInt8) : ((bts x).toList == y) = decide (x = y) := by
  rw [ByteArray.toList_mk, Bool.eq_iff_iff]
  simp
theorem bts_size (x : List UInt8) : (bts x).size = x.length := by rw [Lib.size_eq]
/-- A question that may be asked of an attribute. -/
def AskA (w : World) (u : Value) (q : Att → Bool) : Prop := ∃ (F : FuncId) (cb : Array Value), u = .func (.func F) #[] cb ∧ (∀ args W, (callFunc F args).run Tryd.prog W = .ok (.enter F args) W) ∧
  ∀ (a : Att) W, Below w.heap.size w W → Calls Tryd.prog F (#[agA a] ++ cb) W fun e w' => e = .returned (.bool (q a)) ∧ Below W.heap.size W w'
set_option maxHeartbeats 400000 in
theorem apart1_any (bx : Nat) (n : List UInt8) (b : Att) (W : World) (hbx : W.cell? ⟨bx, 0, none⟩ = some (.string (bts n))) (hlt : bx < W.heap.size) :
    Calls Tryd.prog 48 (#[agA b] ++ #[.pointer (some ⟨bx, 0, none⟩)]) W fun e w' => e = .returned (.bool (decide (b.1 = n))) ∧ Below W.heap.size W w' := by
  have hq := bts_eqC b.1 n
  obtain ⟨x, hx⟩ : ∃ x, bts b.1 = x := ⟨_, rfl⟩
  obtain ⟨x2, hx2⟩ : ∃ x, bts b.2 = x := ⟨_, rfl⟩
  obtain ⟨y, hy⟩ : ∃ y, bts n = y := ⟨_, rfl⟩
  obtain ⟨d, hd⟩ : ∃ d, decide (b.1 = n) = d := ⟨_, rfl⟩
  unfold agA
  rw [hx, hx2, hd]
  rw [hy] at hbx
  rw [hx, hy, hd] at hq
  have hb1 : Below W.heap.size W (W.alloc (.cells #[.string x, .string x2] 29)) := (Below.refl _ _).alloc (Nat.le_refl _) _
  have hbx2 : (W.alloc (.cells #[.string x, .string x2] 29)).cell? ⟨bx, 0, none⟩ = some (.string y) := (hb1.cell (p := ⟨bx, 0, none⟩) hlt).trans hbx
  have HB1 := Lib.hid hb1
  clear hx hx2 hy hd hb1 hbx
  go_enter Tryd.func48, Tryd.ntmps48
  go_wp2_with fail
  go_ret
  exact ⟨rfl, HB1.out⟩
theorem anyA_hit {l : List Att} {q : Att → Bool} {k : Nat} {a : Att} (h : l[k]? = some a) (hq : q a = true) : l.any q = true := List.any_eq_true.2 ⟨a, List.mem_of_getElem? h, hq⟩
theorem anyA_miss {l : List Att} {q : Att → Bool} (h : ∀ (j : Nat) (a : Att), l[j]? = some a → q a = false) : l.any q = false := by
  rw [List.any_eq_false]
  intro a ha
  obtain ⟨j, hj⟩ := List.mem_iff_getElem?.1 ha
  rw [h j a hj]
  simp
set_option maxHeartbeats 1000000 in
theorem indexA_any (v u : Value) (l : List Att) (q : Att → Bool) (w : World) (hv : ReadA w v l) (hl : l.length ≤ 1000000) (hp : AskA w u q) :
    Calls Tryd.prog 62 #[v, u] w fun e w' => (∃ z : Int, e = .returned (.int .i64 z) ∧ decide (z ≥ 0) = l.any q) ∧ Below w.heap.size w w' := by
  obtain ⟨F, cb, rfl, eg, hp⟩ := hp
  obtain ⟨A, cap, rfl, hx⟩ := hv
  have HX := Lib.hid hx
  have HP := Lib.hid hp
  have HH := Lib.hid (fun (k : Nat) (a : Att) (h : l[k]? = some a) (h2 : q a = true) => anyA_hit h h2)
  have HM := Lib.hid (fun (h : ∀ (j : Nat) (a : Att), l[j]? = some a → q a = false) => anyA_miss h)
  clear hx hp
  go_enter Tryd.func62, Tryd.ntmps62
  go_wp2_with fail
  go_loopw [8] (fun i wr => ∃ (k : Nat), k ≤ l.length ∧ i = .int .i64 k ∧ Hid (∀ (j : Nat) (a : Att), j < k → l[j]? = some a → q a = false) ∧ Below w.heap.size w wr) (fun i _ => l.length - (intOf i).toNat)
  case atStart => exact ⟨0, Nat.zero_le _, rfl, Lib.hid (fun j a h => absurd h (Nat.not_lt_zero _)), Below.refl _ _⟩
  case round =>
    obtain ⟨k, hk, rfl, hno, hb⟩ := hrel
    have hsw := hb.size
    by_cases hlt : k < l.length
    · obtain ⟨ad, rfl, hlb, hc⟩ := HX.out (by omega)
      obtain ⟨c, hcx⟩ : ∃ c, l[k]? = some c := ⟨_, List.getElem?_eq_getElem hlt⟩
      obtain ⟨c0, c1⟩ := hc k c hcx
      rw [← hb.cell (p := ad.add (k * 2)) (by rw [addBlock]; exact hlb)] at c0
      rw [← hb.cell (p := ⟨(ad.add (k * 2)).block, (ad.add (k * 2)).off + 1, none⟩) (by show (ad.add (k * 2)).block < _; rw [addBlock]; exact hlb)] at c1
      have HC := Lib.hid hcx
      have HQ := Lib.hid (HP.out c wr hb)
      obtain ⟨y0, h0⟩ : ∃ a, bts c.1 = a := ⟨_, rfl⟩
      obtain ⟨y1, h1⟩ : ∃ a, bts c.2 = a := ⟨_, rfl⟩
      unfold agA at HQ
      rw [h0] at c0 HQ
      rw [h1] at c1 HQ
      clear hc hcx h0 h1
      go_wp2_with fail
      refine HQ.out.mono ?_
      rintro e w2 ⟨rfl, b2⟩
      have hb2 : Below w.heap.size w w2 := hb.trans (b2.mono hsw)
      cases hq : q c with
      | true =>
        have hf := Lib.hid (HH.out k c HC.out hq)
        clear hq b2
        go_wp2_with fail
        go_ret
        exact ⟨⟨_, rfl, by rw [hf.out]; simp⟩, hb2⟩
      | false =>
        have hno2 : Hid (∀ (j : Nat) (a : Att), j < k + 1 → l[j]? = some a → q a = false) := Lib.hid (fun j a hj ha => by
          rcases Nat.lt_or_ge j k with h | h
          · exact hno.out j a h ha
          · obtain rfl : j = k := by omega
            rw [HC.out] at ha
            cases ha
            exact hq)
        clear hq b2
        go_wp2_with fail
        go_roundw
        case rel => exact ⟨k + 1, by omega, by go_num, hno2, hb2⟩
        case measure => simp [intOf]; omega
    · have hf := Lib.hid (HM.out (fun j a ha => hno.out j a (by have := (List.getElem?_eq_some_iff.1 ha).1; omega) ha))
      go_wp2_with fail
      go_ret
      exact ⟨⟨_, rfl, by rw [hf.out]; simp⟩, hb⟩
set_option maxHeartbeats 400000 in
theorem containsA_any (v u : Value) (l : List Att) (q : Att → Bool) (w : World) (hv : ReadA w v l) (hl : l.length ≤ 1000000) (hp : AskA w u q) :
    Calls Tryd.prog 49 #[v, u] w fun e w' => e = .returned (.bool (l.any q)) ∧ Below w.heap.size w w' := by
  have HI := Lib.hid (indexA_any v u l q w hv hl hp)
  obtain ⟨A, cap, rfl, hx⟩ := hv
  obtain ⟨F, cb, rfl, eg, hp⟩ := hp
  obtain ⟨r, hr⟩ : ∃ r, l.any q = r := ⟨_, rfl⟩
  rw [hr] at HI ⊢
  clear hx hp hr eg
  go_enter Tryd.func49, Tryd.ntmps49
  go_wp2_with (go_at_call 62; refine HI.out.mono ?_; rintro e w1 ⟨⟨z, rfl, hz⟩, hb⟩)
  go_ret
  exact ⟨rfl, hb⟩
theorem okA_eq {l : List Att} {k : Nat} {a : Att} (h : l[k]? = some a) : okA l k = (nameT a.1 && !decide (a.1 = xmlnsL) && Tx.valid a.2 && !(l.take k).any (fun b => decide (b.1 = a.1))) := by unfold okA; rw [h]
theorem apart_all {l : List Att} (h10 : l.length < 10) (h : ∀ j, j < l.length → okA l j = true) : apartB l = true := by
  unfold apartB
  rw [Bool.and_eq_true, decide_eq_true_eq, List.all_eq_true]
  exact ⟨h10, fun i hi => h i (List.mem_range.1 hi)⟩
theorem apart_not {l : List Att} {k : Nat} (hk : k < l.length) (h : okA l k = false) : apartB l = false := by
  unfold apartB
  rw [Bool.and_eq_false_iff]
  right
  rw [List.all_eq_false]
  exact ⟨k, List.mem_range.2 hk, by rw [h]; simp⟩
theorem ReadC.take {w : World} {A : Option Addr} {n cap : Nat} {l : List Att} (h : ReadC w (.slice A n cap) l) {k : Nat} (hk : k ≤ l.length) : ReadA w (.slice A k cap) (l.take k) := by
  obtain ⟨A', cap', e, h1, h2, h3⟩ := h
  injection e with e1 e2 e3
  subst e1 e3
  have hl : (l.take k).length = k := by rw [List.length_take]; omega
  refine ⟨A, cap, by rw [hl], fun h0 => ?_⟩
  rw [hl] at h0
  obtain ⟨ad, rfl, hb, hc⟩ := h3 (by omega)
  refine ⟨ad, rfl, hb, fun i a hi => hc i a ?_⟩
  have := (List.getElem?_eq_some_iff.1 hi).1
  rwa [List.getElem?_take_of_lt (by omega)] at hi
set_option maxHeartbeats 4000000 in
set_option maxRecDepth 100000 in
theorem apart_any (v : Value) (l : List Att) (w : World) (hT : Tabs w) (hv : ReadC w v l) (hl : l.length ≤ 1000000000) (hsz : ∀ a ∈ l, a.1.length ≤ 140737488355328 ∧ a.2.length ≤ 140737488355328) :
    Calls Tryd.prog 33 #[v] w fun e w' => e = .returned (.bool (apartB l)) ∧ Below w.heap.size w w' := by
  have HV := Lib.hid hv
  obtain ⟨A, cap, rfl, hcap, hmax, hx⟩ := hv
  have HX := Lib.hid hx
  have HTB := Lib.hid hT
  have HSZ := Lib.hid hsz
  have HN10 := Lib.hid (fun (h : l.length < 10) h2 => apart_all h h2)
  have HNOT := Lib.hid (fun (k : Nat) (h : k < l.length) h2 => apart_not h h2)
  obtain ⟨n, hn⟩ : ∃ n, l.length = n := ⟨_, rfl⟩
  have HNL := Lib.hid hn
  rw [hn] at hcap hl HX HV HN10 HNOT ⊢
  clear hx hT hsz hmax
  by_cases h10 : n < 10
  · have g10 : decide ((n : Int) ≥ 10) = false := decide_eq_false (by omega)
    have eg : ∀ args w, (callFunc 48 args).run Tryd.prog w = .ok (.enter 48 args) w := Go.Proofs.enters_of Tryd.func48 (by kernel_rfl) rfl
    have HEG := Lib.hid eg
    clear hn eg
    go_enter Tryd.func33, Tryd.ntmps33
    go_wp2_with fail
    go_loopw [11] (fun c wr => ∃ (k : Nat), k ≤ n ∧ c = .int .i64 k ∧ Hid (∀ j, j < k → okA l j = true) ∧ Hid (Below w.heap.size w wr)) (fun c _ => n - (intOf c).toNat)
    case atStart => exact ⟨0, Nat.zero_le _, rfl, Lib.hid (fun j h => absurd h (Nat.not_lt_zero _)), Below.refl _ _⟩
    case round =>
      obtain ⟨k, hk, rfl, hok, hb⟩ := hrel
      by_cases hlt : k < n
      · obtain ⟨ad, rfl, hlb, hc⟩ := HX.out (by omega)
        obtain ⟨a, ha⟩ : ∃ a, l[k]? = some a := ⟨_, List.getElem?_eq_getElem (by have := HNL.out; omega)⟩
        obtain ⟨c0, c1⟩ := hc k a ha
        rw [← hb.out.cell (p := ad.add (k * 2)) (by rw [addBlock]; exact hlb)] at c0
        rw [← hb.out.cell (p := ⟨(ad.add (k * 2)).block, (ad.add (k * 2)).off + 1, none⟩) (by show (ad.add (k * 2)).block < _; rw [addBlock]; exact hlb)] at c1
        have HOK := Lib.hid (okA_eq ha)
        have hx0 := bts_eqL a.1 xmlnsL
        unfold xmlnsL at hx0
        obtain ⟨s0, s1⟩ := HSZ.out a (List.mem_of_getElem? ha)
        obtain ⟨y0, h0⟩ : ∃ y, bts a.1 = y := ⟨_, rfl⟩
        obtain ⟨y1, h1⟩ : ∃ y, bts a.2 = y := ⟨_, rfl⟩
        have hd0 : y0.data.toList = a.1 := by rw [← h0]
        have hd1 : y1.data.toList = a.2 := by rw [← h1]
        have hz0 : y0.size ≤ 140737488355328 := by rw [← h0, bts_size]; exact s0
        have hz1 : y1.size ≤ 140737488355328 := by rw [← h1, bts_size]; exact s1
        rw [h0] at c0 hx0
        rw [h1] at c1
        obtain ⟨Y5, hY5⟩ : ∃ Y, wr.heap.size = Y := ⟨_, rfl⟩
        obtain ⟨W5, hW5⟩ : ∃ W, wr.alloc (.cells #[.string y0, .string y1] 29) = W := ⟨_, rfl⟩
        have hw5 : Below wr.heap.size wr W5 := by rw [← hW5]; exact (Below.refl _ _).alloc (Nat.le_refl _) _
        have q0 : W5.cell? ⟨Y5, 0, none⟩ = some (.string y0) := by rw [← hW5, ← hY5]; exact (Bk.new _ _ _).cell 0
        have q1 : W5.cell? ⟨Y5, 1, none⟩ = some (.string y1) := by rw [← hW5, ← hY5]; exact (Bk.new _ _ _).cell 1
        have hy5 : Y5 < W5.heap.size := by rw [← hW5, ← hY5]; simp
        have B5 : Hid (Below w.heap.size w W5) := hb.out.trans (hw5.mono hb.out.size)
        have HQ0 := Lib.hid q0
        have HQ1 := Lib.hid q1
        have HY5 := Lib.hid hy5
        have HNA := Lib.hid (name_any y0 W5 hz0)
        rw [hd0] at HNA
        have HVA := Lib.hid (fun (W : World) (h : Below W5.heap.size W5 W) => valid_any y1 W (HTB.out.below ((B5.out.trans (h.mono B5.out.size)))) hz1)
        rw [hd1] at HVA
        have HCA := Lib.hid (fun (W : World) (h : Below W5.heap.size W5 W) => containsA_any (.slice (some ad) k cap) (.func (.func 48) #[] #[.pointer (some ⟨Y5, 0, none⟩)]) (l.take k) (fun b => decide (b.1 = a.1)) W
          ((HV.out.below (B5.out.trans (h.mono B5.out.size))).take (by have := HNL.out; omega)) (by rw [List.length_take]; omega)
          ⟨_, _, rfl, HEG.out, fun b W2 hW2 => apart1_any Y5 a.1 b W2 (by rw [hW2.cell (p := ⟨Y5, 0, none⟩) (Nat.lt_of_lt_of_le HY5.out h.size), h.cell (p := ⟨Y5, 0, none⟩) HY5.out, h0]; exact HQ0.out) (Nat.lt_of_lt_of_le (Nat.lt_of_lt_of_le HY5.out h.size) hW2.size)⟩)
        have HW5 := Lib.hid hW5
        have HYE5 := Lib.hid hY5
        have hkc : k ≤ cap := by omega
        clear hc ha s0 s1 h0 h1 hd0 hd1 hz0 hz1 hY5 hW5 hw5 hy5 hb
        go_upto_region 6 with fail
        rw [HW5.out, HYE5.out]
        clear c0 c1
        cases hna : nameT a.1 with
        | false =>
          rw [hna] at HNA
          have HR : Hid (apartB l = false) := HNOT.out k hlt (by rw [HOK.out, hna]; rfl)
          clear hna
          go_wp2_with (go_at_call 31; refine HNA.out.mono ?_; rintro e w6 ⟨rfl, b6⟩; have r0 := (b6.cell (p := ⟨Y5, 0, none⟩) HY5.out).trans HQ0.out; have r1 := (b6.cell (p := ⟨Y5, 1, none⟩) HY5.out).trans HQ1.out)
          go_ret
          exact ⟨by rw [HR.out]; rfl, B5.out.trans (b6.mono B5.out.size)⟩
        | true =>
          rw [hna] at HNA
          by_cases hxm : a.1 = xmlnsL
          · have HR : Hid (apartB l = false) := HNOT.out k hlt (by rw [HOK.out, decide_eq_true hxm]; simp)
            have gx : (y0.toList == [120, 109, 108, 110, 115]) = true := by rw [hx0]; exact decide_eq_true hxm
            clear hna hxm hx0
            go_wp2_with (go_at_call 31; refine HNA.out.mono ?_; rintro e w6 ⟨rfl, b6⟩; have r0 := (b6.cell (p := ⟨Y5, 0, none⟩) HY5.out).trans HQ0.out; have r1 := (b6.cell (p := ⟨Y5, 1, none⟩) HY5.out).trans HQ1.out)
            go_ret
            exact ⟨by rw [HR.out]; rfl, B5.out.trans (b6.mono B5.out.size)⟩
          · have gx : (y0.toList == [120, 109, 108, 110, 115]) = false := by rw [hx0]; exact decide_eq_false hxm
            have hxd : decide (a.1 = xmlnsL) = false := decide_eq_false hxm
            cases hva : Tx.valid a.2 with
            | false =>
              rw [hva] at HVA
              have HR : Hid (apartB l = false) := HNOT.out k hlt (by rw [HOK.out, hva]; simp)
              clear hna hxm hx0 hva hxd
              go_wp2_with (first | (go_at_call 31; refine HNA.out.mono ?_; rintro e w6 ⟨rfl, b6⟩; have r0 := (b6.cell (p := ⟨Y5, 0, none⟩) HY5.out).trans HQ0.out; have r1 := (b6.cell (p := ⟨Y5, 1, none⟩) HY5.out).trans HQ1.out) | (go_at_call 32; refine (HVA.out _ b6).mono ?_; rintro e w7 ⟨rfl, b7⟩))
              go_ret
              exact ⟨by rw [HR.out]; rfl, B5.out.trans ((b6.trans (b7.mono b6.size)).mono B5.out.size)⟩
            | true =>
              rw [hva] at HVA
              cases hca : (l.take k).any (fun b => decide (b.1 = a.1)) with
              | true =>
                rw [hca] at HCA
                have HR : Hid (apartB l = false) := HNOT.out k hlt (by rw [HOK.out, hca]; simp)
                clear hna hxm hx0 hva hxd hca
                go_wp2_with (first | (go_at_call 31; refine HNA.out.mono ?_; rintro e w6 ⟨rfl, b6⟩; have r0 := (b6.cell (p := ⟨Y5, 0, none⟩) HY5.out).trans HQ0.out; have r1 := (b6.cell (p := ⟨Y5, 1, none⟩) HY5.out).trans HQ1.out) | (go_at_call 32; refine (HVA.out _ b6).mono ?_; rintro e w7 ⟨rfl, b7⟩) | (go_at_call 49; refine (HCA.out _ (b6.trans (b7.mono b6.size))).mono ?_; rintro e w8 ⟨rfl, b8⟩))
                go_ret
                exact ⟨by rw [HR.out]; rfl, B5.out.trans ((b6.trans ((b7.trans (b8.mono b7.size)).mono b6.size)).mono B5.out.size)⟩
              | false =>
                rw [hca] at HCA
                have HOK2 : Hid (∀ j, j < k + 1 → okA l j = true) := Lib.hid (fun j hj => by
                  rcases Nat.lt_or_ge j k with h | h
                  · exact hok.out j h
                  · obtain rfl : j = k := by omega
                    rw [HOK.out, hna, hxd, hva, hca]
                    rfl)
                clear hna hxm hx0 hva hxd hca
                go_wp2_with (first | (go_at_call 31; refine HNA.out.mono ?_; rintro e w6 ⟨rfl, b6⟩; have r0 := (b6.cell (p := ⟨Y5, 0, none⟩) HY5.out).trans HQ0.out; have r1 := (b6.cell (p := ⟨Y5, 1, none⟩) HY5.out).trans HQ1.out) | (go_at_call 32; refine (HVA.out _ b6).mono ?_; rintro e w7 ⟨rfl, b7⟩) | (go_at_call 49; refine (HCA.out _ (b6.trans (b7.mono b6.size))).mono ?_; rintro e w8 ⟨rfl, b8⟩))
                have B8 : Hid (Below w.heap.size w w8) := B5.out.trans ((b6.trans ((b7.trans (b8.mono b7.size)).mono b6.size)).mono B5.out.size)
                go_roundw
                case rel => exact ⟨k + 1, by omega, by go_num, HOK2, B8⟩
                case measure => simp [intOf]; omega
      · have HR : Hid (apartB l = true) := HN10.out h10 (fun j hj => hok.out j (by omega))
        go_wp2_with fail
        go_ret
        exact ⟨by rw [HR.out]; rfl, hb.out⟩
  · have g10 : decide ((n : Int) ≥ 10) = true := decide_eq_true (by omega)
    have HR : Hid (apartB l = false) := by unfold Hid apartB; rw [decide_eq_false (by omega)]; rfl
    clear hn h10
    go_enter Tryd.func33, Tryd.ntmps33
    go_wp2_with fail
    go_ret
    exact ⟨by rw [HR.out]; rfl, Below.refl _ _⟩
end Go.Proofs.YtbkfmbkamocllaaDoor
