/-
  THE LAWS OF PACKAGE csv (stage 4): CsvBack.
-/
import Derived.Test.YtakfcfjamgaekaaDoorCsvF
namespace Go.Proofs.YtakfcfjamgaekaaDoor
open Go.RowKit Tx

/-- every field of these rows is a text -/
def AllV (m : List (List ByteArray)) : Prop := ∀ xs ∈ m, ∀ x ∈ xs, valid x.data.toList = true
theorem AllV.nil : AllV [] := fun xs h => by cases h
theorem AllV.snoc {m : List (List ByteArray)} {xs : List ByteArray} (h : AllV m) (hx : ∀ x ∈ xs, valid x.data.toList = true) : AllV (m ++ [xs]) := fun ys hy => by
  rw [List.mem_append, List.mem_singleton] at hy
  rcases hy with hy | rfl
  · exact h ys hy
  · exact hx
theorem OwnTT.len {B : Nat} {w : World} {A : Option Addr} {n cap : Nat} {m : List (List ByteArray)} (h : OwnTT B w (.slice A n cap) m) : n = m.length := by
  obtain ⟨A', cap', e⟩ := h.slice
  injection e

set_option maxHeartbeats 8000000 in
set_option maxRecDepth 100000 in
theorem csvBack_any (v : Value) (m : List (List ByteArray)) (s : ByteArray) (w : World) (hO : Okw w) (hx : ReadTT w.heap.size w v m) (hb : heft (btss m) ≤ 10000000) (hs : s.size ≤ 140737488355328) :
    Calls Tryd.prog 3 #[v, .string s] w (Holds w) := by
  have HA := Lib.hid (fun (W : World) h => awake_any W h)
  have HOK := Lib.hid (fun (W : World) (h : Below w.heap.size w W) => hO.below h)
  have HV := Lib.hid (fun (s : ByteArray) (W : World) h => rvalid_any s W h)
  have HRO := Lib.hid (fun (s : ByteArray) m (W : World) h1 h2 h3 => read_ok s m W h1 h2 h3)
  have HRE := Lib.hid (fun (s : ByteArray) k (W : World) h1 h2 h3 => read_err s k W h1 h2 h3)
  have HW := Lib.hid (fun (B : Nat) (v : Value) m (W : World) h1 h2 h3 h4 => write_any B v m W h1 h2 h3 h4)
  have HRw := Lib.hid rows_any
  have hml := heft_len (btss m)
  rw [show (btss m).length = m.length by simp [btss]] at hml
  have hml2 : m.length ≤ 10000000 := by omega
  by_cases hbig : 3000 < s.size
  · clear hx hb hml
    go_enter Tryd.func3, Tryd.ntmps3
    go_wp2_with fail
    refine (HA.out w (HOK.out w (Below.refl _ _))).mono ?_
    rintro e w1 ⟨rfl, b1⟩
    go_wp2_with fail
    go_ret
    exact ⟨rfl, b1⟩
  have hss : s.size ≤ 3000 := by omega
  have HFw := few_any w.heap.size v m w hx hb
  by_cases hfew : heft (btss m) ≤ 5000
  case neg =>
    rw [decide_eq_false hfew] at HFw
    have HFO := Lib.hid HFw
    clear hx hb hml HFw hfew
    go_enter Tryd.func3, Tryd.ntmps3
    go_wp2_with fail
    refine HFO.out.mono ?_
    rintro e w0 ⟨rfl, rfl⟩
    go_wp2_with fail
    refine (HA.out _ (HOK.out _ (Below.refl _ _))).mono ?_
    rintro e w1 ⟨rfl, b1⟩
    go_wp2_with fail
    go_ret
    exact ⟨rfl, b1⟩
  case pos =>
    rw [decide_eq_true hfew] at HFw
    have HFO := Lib.hid HFw
    obtain ⟨A, cap, rfl, hx2⟩ := hx
    have HX := Lib.hid hx2
    have HFew := Lib.hid hfew
    have HKy := Lib.hid (fun (k : Nat) p h1 h2 h3 => kept_yes (m := m) (k := k) (p := p) h1 h2 h3)
    have HKn := Lib.hid (fun (k : Nat) p h1 h2 => kept_no (m := m) (k := k) (p := p) h1 h2)
    have HMem := Lib.hid (fun (p : List ByteArray) (h : p ∈ m) => heft_mem (m := btss m) (x := bts p) (List.mem_map.2 ⟨p, h, rfl⟩))
    clear hx2 hb hml HFw hfew hO
    go_enter Tryd.func3, Tryd.ntmps3
    go_wp2_with fail
    refine HFO.out.mono ?_
    rintro e w0 ⟨rfl, rfl⟩
    go_wp2_with fail
    go_loopw [5, 6] (fun mv iv wr => ∃ (i : Nat) (lv : Value), mv = lv ∧ iv = .int .i64 i ∧ i ≤ m.length ∧ Hid (AllV (kept (m.take i))) ∧ OwnTT w.heap.size wr lv (kept (m.take i)) ∧ Below w.heap.size w wr) (fun _ iv _ => m.length - (intOf iv).toNat)
    case atStart => exact ⟨0, _, rfl, rfl, Nat.zero_le _, AllV.nil, OwnTT.nil _ _, Below.refl _ _⟩
    case round =>
      obtain ⟨i, lv, hlv, rfl, hi, hav, hown, hbw⟩ := hrel
      have hlv2 := hlv.symm
      clear hlv
      subst hlv2
      have hsw := hbw.size
      have HOW := Lib.hid hown
      clear hown
      by_cases hlt : i < m.length
      · obtain ⟨ad, rfl, hlb, hc⟩ := HX.out (by omega)
        obtain ⟨p, hp⟩ : ∃ p, m[i]? = some p := ⟨_, List.getElem?_eq_getElem hlt⟩
        obtain ⟨pv, c0, rp⟩ := hc i p hp
        rw [← hbw.cell (p := ad.add i) (by rw [addBlock]; exact hlb)] at c0
        have rp2 := rp.below hbw
        have RP := Lib.hid rp2
        obtain ⟨pA, pcap, rfl, hpA⟩ := rp2
        have hph := HMem.out p (List.mem_of_getElem? hp)
        have hpl := len_sum p
        have hfe := HFew.out
        have hpl2 : p.length ≤ 5000 := by omega
        have HIS := Lib.hid (fun (x : ByteArray) (h : x ∈ p) => Nat.le_trans (in_sum h) (show ((bts p).map fun x => 3 + x.length).sum ≤ 5000 by omega))
        by_cases hgo : p = [] ∨ 30 < p.length
        · have hk := HKn.out i p hp hgo
          have HK1 : Hid (AllV (kept (m.take (i + 1)))) := by unfold Hid; rw [hk]; exact hav.out
          have HK2 := Lib.hid hk
          have hgo2 : p.length = 0 ∨ 30 < p.length := hgo.imp (fun h => by rw [h]; rfl) id
          clear hc hp rp hpA hph hpl hfe hk hgo
          rcases hgo2 with h0 | h0
          · have e0 : (((p.length : Nat) : Int) == 0) = true := by rw [h0]; rfl
            clear h0
            go_wp2_with fail
            go_roundw
            case rel => exact ⟨i + 1, lv, rfl, by go_num, by omega, HK1, by rw [HK2.out]; exact HOW.out, hbw⟩
            case measure => simp [intOf]; omega
          · have e0 : (((p.length : Nat) : Int) == 0) = false := beq_eq_false_iff_ne.2 (by omega)
            go_wp2_with fail
            go_roundw
            case rel => exact ⟨i + 1, lv, rfl, by go_num, by omega, HK1, by rw [HK2.out]; exact HOW.out, hbw⟩
            case measure => simp [intOf]; omega
        · have hp0 : p ≠ [] := fun h => hgo (.inl h)
          have hp30 : p.length ≤ 30 := by omega
          have hpos : 0 < p.length := List.length_pos_iff.2 hp0
          have e0 : (((p.length : Nat) : Int) == 0) = false := beq_eq_false_iff_ne.2 (by omega)
          obtain ⟨bd, rfl, hlb2, hd⟩ := hpA hpos
          have HK := Lib.hid (HKy.out i p hp hp0 hp30)
          have HD := Lib.hid hd
          have hmi : (kept (m.take i)).length ≤ 1000000000000 := by
            have := kept_len (m.take i)
            rw [List.length_take] at this
            omega
          clear hc hp rp hph hpl hfe hgo hp0 hd
          go_wp2_with fail
          go_loop [7] (fun kv => ∃ (k : Nat), k ≤ p.length ∧ kv = .int .i64 k ∧ Hid (∀ x ∈ p.take k, valid x.data.toList = true)) (fun kv => p.length - (intOf kv).toNat)
          case atStart => exact ⟨0, Nat.zero_le _, rfl, fun x h => by simp at h⟩
          case round =>
            obtain ⟨k, hk, rfl, hva⟩ := hrel
            by_cases hltk : k < p.length
            · obtain ⟨x, hx⟩ : ∃ x, p[k]? = some x := ⟨_, List.getElem?_eq_getElem hltk⟩
              have d0 := HD.out k x hx
              have hxs := HIS.out x (List.mem_of_getElem? hx)
              have hxt : p.take (k + 1) = p.take k ++ [x] := by rw [List.take_add_one, hx]; rfl
              have HVx := HV.out x
              cases hv : valid x.data.toList with
              | false =>
                rw [hv] at HVx
                have HVO := Lib.hid (fun (W : World) => HVx W (by omega))
                clear HVx hv hx hxt
                go_wp2_with fail
                refine (HVO.out _).mono ?_
                rintro e w1 ⟨rfl, rfl⟩
                go_wp2_with fail
                refine (HA.out _ (HOK.out _ hbw)).mono ?_
                rintro e w2 ⟨rfl, b1⟩
                go_wp2_with fail
                go_ret
                exact ⟨rfl, hbw.trans (b1.mono hsw)⟩
              | true =>
                rw [hv] at HVx
                have HVO := Lib.hid (fun (W : World) => HVx W (by omega))
                have HN : Hid (∀ y ∈ p.take (k + 1), valid y.data.toList = true) := by
                  unfold Hid
                  intro y hy
                  rw [hxt, List.mem_append, List.mem_singleton] at hy
                  rcases hy with hy | rfl
                  · exact hva.out y hy
                  · exact hv
                clear HVx hv hx hxt
                go_wp2_with fail
                refine (HVO.out _).mono ?_
                rintro e w1 ⟨rfl, rfl⟩
                go_wp2_with fail
                go_round
                case rel => exact ⟨k + 1, by omega, by go_num, HN⟩
                case measure => simp [intOf]; omega
            · obtain rfl : k = p.length := by omega
              have HN : Hid (AllV (kept (m.take (i + 1)))) := by
                unfold Hid
                rw [HK.out]
                exact hav.out.snoc fun x hx => hva.out x (by rw [List.take_length]; exact hx)
              have HU := Lib.hid (show RowAt w.heap.size wr (.slice (some bd) p.length pcap) p from RowAt.of_read RP.out hsw)
              clear hva
              go_wp2_with (at_builtin; refine push_row rfl _ _ rfl w.heap.size lv (kept (m.take i)) (.slice (some bd) p.length pcap) p wr rfl HOW.out rfl HU.out hmi hsw ?_)
              intro v' w3 h1 _ h2
              have R1 := Lib.hid h1
              clear h1
              go_wp2_with fail
              go_roundw
              case rel => exact ⟨i + 1, _, rfl, by go_num, by omega, HN, by rw [HK.out]; exact R1.out, hbw.trans h2⟩
              case measure => simp [intOf]; omega
      · have hall : m.take i = m := List.take_of_length_le (by omega)
        have hav2 := hav.out
        have hown := HOW.out
        rw [hall] at hav2 hown
        obtain ⟨M, hM⟩ : ∃ M, kept m = M := ⟨_, rfl⟩
        have hkm := fun xs (h : xs ∈ kept m) => kept_mem (m := m) (xs := xs) h
        have hkh := kept_heft m
        rw [hM] at hav2 hown hkm hkh
        have hh5 : heft (btss M) ≤ 5000 := Nat.le_trans hkh HFew.out
        obtain ⟨A2, cap2, rfl⟩ := hown.slice
        have hM3 : M.length ≤ 5000 := by
          have := heft_len (btss M)
          rw [show (btss M).length = M.length by simp [btss]] at this
          omega
        have HOW2 := Lib.hid hown
        have HOR := Lib.hid hown.reads
        have hallM : ∀ r ∈ M, r.length ≤ 140737488355328 := fun r hr => by have := (hkm r hr).2.2; omega
        have HallM := Lib.hid hallM
        by_cases h200 : 200 < M.length
        · clear hav2 hown hkm hkh hM hallM hall
          go_wp2_with fail
          refine (HA.out _ (HOK.out _ hbw)).mono ?_
          rintro e w2 ⟨rfl, b1⟩
          go_wp2_with fail
          go_ret
          exact ⟨rfl, hbw.trans (b1.mono hsw)⟩
        · obtain ⟨T, hT⟩ : ∃ T : ByteArray, ⟨(writeL (btss M)).toArray⟩ = T := ⟨_, rfl⟩
          have hTl : T.data.toList = writeL (btss M) := by rw [← hT]
          have hTs : T.size ≤ 10000 := by
            have := writeL_len (btss M)
            rw [Lib.size_eq, hTl]
            omega
          have hWM := fun (W : World) h1 h2 h3 => HW.out wr.heap.size (.slice A2 M.length cap2) M W h1 h2 h3 (by omega)
          rw [hT] at hWM
          have hrd : readL T.data.toList = .ok (btss M) := by
            rw [hTl]
            refine read_write (by rw [show (btss M).length = M.length by simp [btss]]; omega) (fun xs hxs => ?_) (by rw [← hTl, ← Lib.size_eq]; omega)
            obtain ⟨ys, hys, rfl⟩ := List.mem_map.1 hxs
            obtain ⟨_, k2, k3⟩ := hkm ys hys
            refine ⟨bts_ne k2, by rw [bts_len]; exact k3, fun x hx => ?_⟩
            obtain ⟨b, hb, rfl⟩ := List.mem_map.1 hx
            exact hav2 ys hys b hb
          have hR1 := fun (W : World) h => HRO.out T (btss M) W h (by omega) hrd
          rw [sts_btss] at hR1
          have HWM := Lib.hid hWM
          have HR1 := Lib.hid hR1
          clear hav2 hown hkm hkh hM hallM hall hT hTl hWM hrd hR1
          go_wp2_with fail
          refine (HWM.out wr (HOK.out wr hbw).2 HOR.out (Nat.le_refl _)).mono ?_
          rintro e w1 ⟨rfl, b1⟩
          have s1 := b1.size
          have c1 : Below w.heap.size w w1 := hbw.trans (b1.mono hsw)
          go_wp2_with fail
          refine (HR1.out w1 (HOK.out w1 c1)).mono ?_
          rintro e w2 ⟨⟨v1, rfl, hv1⟩, b2⟩
          have V1 := Lib.hid hv1
          have s2 := b2.size
          have c2 : Below w.heap.size w w2 := c1.trans (b2.mono c1.size)
          clear hv1
          go_wp2_with fail
          refine (HA.out w2 (HOK.out w2 c2)).mono ?_
          rintro e w3 ⟨rfl, b3⟩
          have s3 := b3.size
          have c3 : Below w.heap.size w w3 := c2.trans (b3.mono c2.size)
          go_wp2_with fail
          have r1 : ReadTT w3.heap.size w3 v1 M := (V1.out.below b3).more s3
          have r2 : ReadTT w3.heap.size w3 (.slice A2 M.length cap2) M := (HOR.out.below ((b1.trans (b2.mono s1)).trans (b3.mono (by omega)))).more (by omega)
          refine (HRw.out w3.heap.size v1 _ M M w3 r1 r2 (Nat.le_refl _) (by omega) (by omega) HallM.out HallM.out).mono ?_
          rintro e w4 ⟨rfl, b4⟩
          rw [show decide (M = M) = true from decide_eq_true rfl]
          have c4 : Below w.heap.size w w4 := c3.trans (b4.mono c3.size)
          clear r1 r2 b1 b2 b3 b4 V1 HOR HOW2 HOW
          cases hrs : readL s.data.toList with
          | error k =>
            have hk0 : (k != 0) = true := by simpa using readL_wrong hrs
            have HRs := Lib.hid (fun (W : World) h => HRE.out s k W h (by omega) hrs)
            clear hrs
            go_wp2_with fail
            refine (HRs.out w4 (HOK.out w4 c4)).mono ?_
            rintro e w5 ⟨rfl, b5⟩
            go_wp2_with fail
            go_ret
            exact ⟨rfl, c4.trans (b5.mono c4.size)⟩
          | ok y =>
            have HRs := Lib.hid (fun (W : World) h => HRO.out s y W h (by omega) hrs)
            have hye := read_heft hrs
            obtain ⟨_, y200, _, yrows⟩ := read_good hrs
            obtain ⟨Y, hY⟩ : ∃ Y, y.map sts = Y := ⟨_, rfl⟩
            have hYb : btss Y = y := by rw [← hY, btss_sts]
            have hYl : Y.length ≤ 140737488355328 := by rw [← hY, List.length_map]; omega
            have hallY : ∀ r ∈ Y, r.length ≤ 140737488355328 := fun r hr => by
              rw [← hY] at hr
              obtain ⟨ys, hys, rfl⟩ := List.mem_map.1 hr
              rw [sts_len]
              have := (yrows ys hys).2.1
              omega
            have HallY := Lib.hid hallY
            obtain ⟨T2, hT2⟩ : ∃ T2 : ByteArray, ⟨(writeL y).toArray⟩ = T2 := ⟨_, rfl⟩
            have hT2l : T2.data.toList = writeL y := by rw [← hT2]
            have hT2s : T2.size ≤ 77200 := by
              have := writeL_len y
              rw [Lib.size_eq, hT2l]
              omega
            have hWY := fun (B : Nat) (u : Value) (W : World) h1 h2 h3 => HW.out B u Y W h1 h2 h3 (by rw [hYb]; omega)
            rw [hYb, hT2] at hWY
            have HWY := Lib.hid hWY
            rw [hY] at HRs
            by_cases hbigT : 20000 < T2.size
            · have HR2 := Lib.hid (fun (W : World) h => HRE.out T2 4 W h (by omega) (readL_big (by rw [← Lib.size_eq]; exact hbigT)))
              clear hrs hye yrows hY hYb hallY hT2 hT2l hWY y200
              go_wp2_with fail
              refine (HRs.out w4 (HOK.out w4 c4)).mono ?_
              rintro e w5 ⟨⟨v5, rfl, hv5⟩, b5⟩
              have V5 := Lib.hid hv5
              have c5 : Below w.heap.size w w5 := c4.trans (b5.mono c4.size)
              clear hv5
              go_wp2_with fail
              refine (HWY.out w5.heap.size v5 w5 (HOK.out w5 c5).2 V5.out (Nat.le_refl _)).mono ?_
              rintro e w6 ⟨rfl, b6⟩
              have c6 : Below w.heap.size w w6 := c5.trans (b6.mono c5.size)
              go_wp2_with fail
              refine (HR2.out w6 (HOK.out w6 c6)).mono ?_
              rintro e w7 ⟨rfl, b7⟩
              go_wp2_with fail
              go_ret
              exact ⟨rfl, c6.trans (b7.mono c6.size)⟩
            · have hrw : readL T2.data.toList = .ok y := by
                rw [hT2l]
                exact read_write (by omega) yrows (by rw [← hT2l, ← Lib.size_eq]; omega)
              have hR2 := fun (W : World) h => HRO.out T2 y W h (by omega) hrw
              rw [hY] at hR2
              have HR2 := Lib.hid hR2
              clear hrs hye yrows hY hYb hallY hT2 hT2l hWY y200 hrw hR2
              go_wp2_with fail
              refine (HRs.out w4 (HOK.out w4 c4)).mono ?_
              rintro e w5 ⟨⟨v5, rfl, hv5⟩, b5⟩
              have V5 := Lib.hid hv5
              have c5 : Below w.heap.size w w5 := c4.trans (b5.mono c4.size)
              clear hv5
              go_wp2_with fail
              refine (HWY.out w5.heap.size v5 w5 (HOK.out w5 c5).2 V5.out (Nat.le_refl _)).mono ?_
              rintro e w6 ⟨rfl, b6⟩
              have s6 := b6.size
              have c6 : Below w.heap.size w w6 := c5.trans (b6.mono c5.size)
              go_wp2_with fail
              refine (HR2.out w6 (HOK.out w6 c6)).mono ?_
              rintro e w7 ⟨⟨v7, rfl, hv7⟩, b7⟩
              have V7 := Lib.hid hv7
              have s7 := b7.size
              have c7 : Below w.heap.size w w7 := c6.trans (b7.mono c6.size)
              clear hv7
              go_wp2_with fail
              have r5 : ReadTT w7.heap.size w7 v5 Y := (V5.out.below (b6.trans (b7.mono s6))).more (by omega)
              refine (HRw.out w7.heap.size v7 v5 Y Y w7 V7.out r5 (Nat.le_refl _) hYl hYl HallY.out HallY.out).mono ?_
              rintro e w8 ⟨rfl, b8⟩
              rw [show decide (Y = Y) = true from decide_eq_true rfl]
              go_wp2_with fail
              go_ret
              exact ⟨rfl, c7.trans (b8.mono c7.size)⟩
end Go.Proofs.YtakfcfjamgaekaaDoor
