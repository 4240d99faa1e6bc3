/-
  THE LAWS OF PACKAGE csv (stage 4): CsvFields.
-/
import Derived.Test.YtakfcfjamgaekaaDoorCsvA
import Derived.Test.YtakfcfjamgaekaaDoorRefV
namespace Go.Proofs.YtakfcfjamgaekaaDoor
open Go.RowKit Tx

theorem byte_ne {c : UInt8} {z : Int} (hz : (c.toNat : Int) = z) {d : UInt8} (h : c ≠ d) : (z == (d.toNat : Int)) = false := by
  rw [beq_eq_false_iff_ne]
  intro e
  exact h (UInt8.toNat_inj.1 (by omega))
theorem byte_nes {c : UInt8} {z : Int} (hz : (c.toNat : Int) = z) {d : UInt8} (h : c ≠ d) : (z != (d.toNat : Int)) = true := by
  unfold bne
  rw [byte_ne hz h]
  rfl
/-- A slice of bools that can be read. -/
def ReadB (B : Nat) (w : World) (v : Value) (n : Nat) (Q : Nat → Bool) : Prop :=
  ∃ A cap, v = .slice A n cap ∧ (0 < n → ∃ ad : Addr, A = some ad ∧ ad.block < B ∧ ∀ i, i < n → w.cell? (ad.add i) = some (.bool (Q i)))
theorem join_snoc : ∀ (fs : List (List UInt8)) (f : List UInt8), fs ≠ [] → Lib.join (fs ++ [f]) [44] = Lib.join fs [44] ++ 44 :: f
  | [], _, h => absurd rfl h
  | [a], f, _ => by
    show Lib.join (a :: f :: []) [44] = _
    rw [join2, join1, join1]
  | a :: b :: t, f, _ => by
    have := join_snoc (b :: t) f (by simp)
    show Lib.join (a :: b :: (t ++ [f])) [44] = _
    rw [join2, join2]
    rw [List.cons_append] at this
    rw [this]
    simp
theorem forms_len : ∀ {xs fs : List (List UInt8)}, Forms xs fs → fs.length = xs.length
  | [], [], _ => rfl
  | _ :: _, [], h => h.elim
  | [], _ :: _, h => h.elim
  | _ :: _, _ :: _, h => by rw [List.length_cons, List.length_cons, forms_len h.2]
theorem forms_snoc : ∀ {xs fs : List (List UInt8)} {x f : List UInt8}, Forms xs fs → Tx.Form x f → Forms (xs ++ [x]) (fs ++ [f])
  | [], [], _, _, _, hf => ⟨hf, trivial⟩
  | _ :: _, [], _, _, h, _ => h.elim
  | [], _ :: _, _, _, h, _ => h.elim
  | _ :: _, _ :: _, _, _, h, hf => ⟨h.1, forms_snoc h.2 hf⟩
theorem form_valid {x f : List UInt8} (h : Tx.Form x f) (hv : valid x = true) : valid f = true := by
  rcases h with ⟨rfl, _⟩ | rfl
  · exact hv
  · exact quoted_valid hv
/-- the fields xs, written one way or the other, with commas between, are t -/
def FStand (xs : List (List UInt8)) (t : List UInt8) : Prop := ∃ fs, Forms xs fs ∧ t = Lib.join fs [44] ∧ ∀ f ∈ fs, valid f = true
theorem FStand.start : FStand [] [] := ⟨[], trivial, rfl, fun f h => by cases h⟩
theorem FStand.first {t x f : List UInt8} (h : FStand [] t) (hf : Tx.Form x f) (hv : valid x = true) : FStand ([] ++ [x]) (t ++ f) := by
  obtain ⟨fs, h1, h2, h3⟩ := h
  cases fs with
  | cons a b => exact h1.elim
  | nil =>
    rw [h2]
    exact ⟨[f], ⟨hf, trivial⟩, by rw [join1]; rfl, fun g hg => by rw [List.mem_singleton] at hg; subst hg; exact form_valid hf hv⟩
theorem FStand.more {xs : List (List UInt8)} {t x f : List UInt8} (h : FStand xs t) (hne : 0 < xs.length) (hf : Tx.Form x f) (hv : valid x = true) : FStand (xs ++ [x]) (t ++ [44] ++ f) := by
  obtain ⟨fs, h1, h2, h3⟩ := h
  have hl := forms_len h1
  refine ⟨fs ++ [f], forms_snoc h1 hf, ?_, fun g hg => ?_⟩
  · rw [join_snoc fs f (fun e => by rw [e] at hl; simp at hl; omega), h2, List.append_assoc]
    rfl
  · rw [List.mem_append, List.mem_singleton] at hg
    rcases hg with hg | rfl
    · exact h3 g hg
    · exact form_valid hf hv
theorem FStand.done {xs : List (List UInt8)} {t : List UInt8} (h : FStand xs t) (hne : t ≠ []) (h30 : xs.length ≤ 30) (hl : t.length ≤ 5000) :
    readL t = .ok [xs] ∧ readL (t ++ [13, 10] ++ t ++ [13, 10]) = .ok [xs, xs] := by
  obtain ⟨fs, h1, h2, h3⟩ := h
  have hx : xs ≠ [] := by
    intro e
    subst e
    cases fs with
    | cons a b => exact h1.elim
    | nil => exact hne h2
  have hv : valid t = true := by rw [h2]; exact join_valid fs h3
  have hv2 : valid (t ++ [13, 10]) = true := (valid_append hv (by decide +kernel)).1
  refine ⟨?_, ?_⟩
  · rw [readL_text (by omega) hv, h2]
    exact rows_last (n := 199) h1 hx h30 (by rw [← h2]; exact hne)
  · have e : t ++ [13, 10] ++ t ++ [13, 10] = Lib.join fs [44] ++ 13 :: 10 :: (Lib.join fs [44] ++ 13 :: 10 :: []) := by rw [← h2]; simp
    rw [readL_text (by simp; omega) (by rw [List.append_assoc (t ++ [13, 10])]; exact (valid_append hv2 hv2).1), e]
    rw [rows_step (n := 199) h1 hx h30, rows_step (n := 198) h1 hx h30, rowsL_nil]
    rfl
/-- how far one field has been looked at: its quotes twice, and whether nothing special was met -/
def DStand (l : List UInt8) (k : Nat) (d : List UInt8) (br : Bool) : Prop := d = dbl (l.take k) ∧ br = !(l.take k).any spc
theorem DStand.next {s : ByteArray} {k : Nat} {d d' : List UInt8} {br br' : Bool} (h : DStand s.data.toList k d br) (hk : k < s.size) (hd : d' = d ++ (if s[k]'hk = 34 then [34, 34] else [s[k]'hk])) (hb : br' = (br && !spc (s[k]'hk))) : DStand s.data.toList (k + 1) d' br' := by
  obtain ⟨h1, h2⟩ := h
  refine ⟨?_, ?_⟩
  · rw [take_next hk, dbl_append, ← h1, hd, dbl_cons, dbl_nil, List.append_nil]
  · rw [take_next hk, List.any_append, hb, h2]
    simp
theorem DStand.form {l d : List UInt8} {br : Bool} (h : DStand l l.length d br) : Tx.Form l (34 :: (d ++ [34])) ∧ (br = true → Tx.Form l l) := by
  obtain ⟨h1, h2⟩ := h
  rw [List.take_length] at h1 h2
  subst h1
  refine ⟨form_quoted l, fun hb => form_bare fun c hc => ?_⟩
  rw [hb] at h2
  have : l.any spc = false := by simpa using h2.symm
  rw [List.any_eq_false] at this
  simpa using this c hc

set_option maxHeartbeats 8000000 in
set_option maxRecDepth 100000 in
theorem csvFields_any (v q : Value) (xs : List ByteArray) (nq : Nat) (Q : Nat → Bool) (w : World) (hO : Okw w) (hx : ReadT w.heap.size w v xs) (hq : ReadB w.heap.size w q nq Q) :
    Calls Tryd.prog 5 #[v, q] w (Holds w) := by
  have HA := Lib.hid (fun (W : World) h => awake_any W h)
  have HOK := Lib.hid (fun (W : World) (h : Below w.heap.size w W) => hO.below h)
  have HV := Lib.hid (fun (s : ByteArray) (W : World) h => rvalid_any s W h)
  have HRO := Lib.hid (fun (s : ByteArray) m (W : World) h1 h2 h3 => read_ok s m W h1 h2 h3)
  have HRw := Lib.hid rows_any
  obtain ⟨A, cap, rfl, hx2⟩ := hx
  obtain ⟨QA, qcap, rfl, hq2⟩ := hq
  have HX := Lib.hid hx2
  have HQ := Lib.hid hq2
  clear hx2 hq2 hO
  go_enter Tryd.func5, Tryd.ntmps5
  go_wp2_with fail
  go_loopw [5, 6, 7] (fun sv wnt iv wr => ∃ (i : Nat) (t : ByteArray) (lv : Value), sv = .string t ∧ wnt = lv ∧ iv = .int .i64 i ∧ i ≤ 10 ∧ i ≤ xs.length ∧ t.size ≤ 203 * i ∧ Hid (FStand (bts (xs.take i)) t.data.toList) ∧ OwnT w.heap.size wr lv (xs.take i) ∧ Below w.heap.size w wr) (fun _ _ iv _ => 10 - (intOf iv).toNat)
  case atStart => exact ⟨0, ⟨#[]⟩, _, rfl, rfl, rfl, by omega, Nat.zero_le _, Nat.le_refl _, FStand.start, OwnT.nil _ _, Below.refl _ _⟩
  case round =>
    obtain ⟨i, t, lv, rfl, hlv, rfl, hi10, hix, hts, hst, hown, hbw⟩ := hrel
    have hlv2 := hlv.symm
    clear hlv
    subst hlv2
    have hsw := hbw.size
    by_cases hgo : i < xs.length ∧ i < 10
    · obtain ⟨hlt, h10⟩ := hgo
      obtain ⟨ad, rfl, hlb, hc⟩ := HX.out (by omega)
      obtain ⟨p, hp⟩ : ∃ p, xs[i]? = some p := ⟨_, List.getElem?_eq_getElem hlt⟩
      have c0 := hc i p hp
      rw [← hbw.cell (p := ad.add i) (by rw [addBlock]; exact hlb)] at c0
      have htk : Hid (xs.take (i + 1) = xs.take i ++ [p]) := by unfold Hid; rw [List.take_add_one, hp]; rfl
      have HOW := Lib.hid hown
      clear hc hp hown
      by_cases hbig : 100 < p.size
      · go_wp2_with fail
        refine (HA.out _ (HOK.out wr hbw)).mono ?_
        rintro e w1 ⟨rfl, b1⟩
        go_wp2_with fail
        go_ret
        exact ⟨rfl, hbw.trans (b1.mono hsw)⟩
      · have hps : p.size ≤ 100 := by omega
        have HVp := HV.out p
        cases hv : valid p.data.toList with
        | false =>
          rw [hv] at HVp
          have HVO := Lib.hid (fun (W : World) => HVp W (by omega))
          clear HVp hv
          go_wp2_with fail
          refine (HVO.out _).mono ?_
          rintro e w1 ⟨rfl, rfl⟩
          go_wp2_with fail
          refine (HA.out _ (HOK.out _ hbw)).mono ?_
          rintro e w2 ⟨rfl, b1⟩
          go_wp2_with fail
          go_ret
          exact ⟨rfl, hbw.trans (b1.mono hsw)⟩
        | true =>
          rw [hv] at HVp
          have HVO := Lib.hid (fun (W : World) => HVp W (by omega))
          have HVL := Lib.hid hv
          have hszp := Lib.hid (Lib.size_eq p)
          clear HVp hv
          go_wp2_with fail
          refine (HVO.out _).mono ?_
          rintro e w1 ⟨rfl, rfl⟩
          go_wp2_with fail
          go_loop [8, 9, 10] (fun bv dv kv => ∃ (k : Nat) (d : ByteArray) (br : Bool), k ≤ p.size ∧ bv = .bool br ∧ dv = .string d ∧ kv = .int .i64 k ∧ d.size ≤ 2 * k ∧ Hid (DStand p.data.toList k d.data.toList br)) (fun _ _ kv => p.size - (intOf kv).toNat)
          case atStart => exact ⟨0, ⟨#[]⟩, true, Nat.zero_le _, rfl, rfl, rfl, Nat.le_refl _, ⟨rfl, rfl⟩⟩
          case round =>
            obtain ⟨k, d, br, hk, rfl, rfl, rfl, hds, hd⟩ := hrel
            by_cases hltk : k < p.size
            · obtain ⟨z, hz⟩ : ∃ z : Int, ((p[k]'hltk).toNat : Int) = z := ⟨_, rfl⟩
              have hcut := Lib.hid (one_cut hltk)
              have hcs : (p.extract k (k + 1)).size = 1 := by rw [Lib.size_eq, hcut.out]; rfl
              have HN := Lib.hid (fun d' br' => hd.out.next (d' := d') (br' := br') hltk)
              have hd2 : d.size ≤ 200 := by omega
              have hcat : (d ++ p.extract k (k + 1)).size = d.size + 1 := by rw [ByteArray.size_append, hcs]
              obtain ⟨c, hc⟩ : ∃ c : UInt8, p[k]'hltk = c := ⟨_, rfl⟩
              have hzc : (c.toNat : Int) = z := by rw [← hc]; exact hz
              rw [hc] at HN hcut
              cases br with
              | true =>
                  by_cases h44 : c = 44
                  · obtain rfl : z = 44 := by rw [← hzc, h44]; rfl
                    have hN := HN.out ((d ++ p.extract k (k + 1)).data.toList) false (by rw [cat_list, hcut.out, if_neg (by rw [h44]; decide)]) (by rw [h44]; rfl)
                    have HNN := Lib.hid hN
                    clear hN hc hzc h44
                    go_wp2_with fail
                    go_round
                    case rel => exact ⟨k + 1, _, _, by omega, rfl, rfl, by go_num, by rw [hcat]; omega, HNN⟩
                    case measure => simp [intOf]; omega
                  · by_cases h34 : c = 34
                    · obtain rfl : z = 34 := by rw [← hzc, h34]; rfl
                      have hcat2 : (d ++ p.extract k (k + 1) ++ (⟨#[34]⟩ : ByteArray)).size = d.size + 2 := by rw [ByteArray.size_append, hcat]; rfl
                      have hN := HN.out ((d ++ p.extract k (k + 1) ++ (⟨#[34]⟩ : ByteArray)).data.toList) false (by rw [cat_list, cat_list, hcut.out, if_pos h34, h34]; simp) (by rw [h34]; rfl)
                      have HNN := Lib.hid hN
                      clear hN hc hzc h34
                      go_wp2_with fail
                      go_round
                      case rel => exact ⟨k + 1, _, _, by omega, rfl, rfl, by go_num, by rw [hcat2]; omega, HNN⟩
                      case measure => simp [intOf]; omega
                    · by_cases h13 : c = 13
                      · obtain rfl : z = 13 := by rw [← hzc, h13]; rfl
                        have hN := HN.out ((d ++ p.extract k (k + 1)).data.toList) false (by rw [cat_list, hcut.out, if_neg (by rw [h13]; decide)]) (by rw [h13]; rfl)
                        have HNN := Lib.hid hN
                        clear hN hc hzc h13
                        go_wp2_with fail
                        go_round
                        case rel => exact ⟨k + 1, _, _, by omega, rfl, rfl, by go_num, by rw [hcat]; omega, HNN⟩
                        case measure => simp [intOf]; omega
                      · by_cases h10 : c = 10
                        · obtain rfl : z = 10 := by rw [← hzc, h10]; rfl
                          have hN := HN.out ((d ++ p.extract k (k + 1)).data.toList) false (by rw [cat_list, hcut.out, if_neg (by rw [h10]; decide)]) (by rw [h10]; rfl)
                          have HNN := Lib.hid hN
                          clear hN hc hzc h10
                          go_wp2_with fail
                          go_round
                          case rel => exact ⟨k + 1, _, _, by omega, rfl, rfl, by go_num, by rw [hcat]; omega, HNN⟩
                          case measure => simp [intOf]; omega
                        · have e44 : (z == 44) = false := byte_ne hzc h44
                          have f44 : (z != 44) = true := byte_nes hzc h44
                          have e34 : (z == 34) = false := byte_ne hzc h34
                          have f34 : (z != 34) = true := byte_nes hzc h34
                          have e13 : (z == 13) = false := byte_ne hzc h13
                          have f13 : (z != 13) = true := byte_nes hzc h13
                          have e10 : (z == 10) = false := byte_ne hzc h10
                          have f10 : (z != 10) = true := byte_nes hzc h10
                          have hsp : spc c = false := by unfold spc; simp [h44, h34, h13, h10]
                          have hN := HN.out ((d ++ p.extract k (k + 1)).data.toList) true (by rw [cat_list, hcut.out, if_neg h34]) (by rw [hsp]; rfl)
                          have HNN := Lib.hid hN
                          clear hN h44 h34 h13 h10 hc hzc
                          go_wp2_with fail
                          go_round
                          case rel => exact ⟨k + 1, _, _, by omega, rfl, rfl, by go_num, by rw [hcat]; omega, HNN⟩
                          case measure => simp [intOf]; omega
              | false =>
                  by_cases h34 : c = 34
                  · obtain rfl : z = 34 := by rw [← hzc, h34]; rfl
                    have hcat2 : (d ++ p.extract k (k + 1) ++ (⟨#[34]⟩ : ByteArray)).size = d.size + 2 := by rw [ByteArray.size_append, hcat]; rfl
                    have hN := HN.out ((d ++ p.extract k (k + 1) ++ (⟨#[34]⟩ : ByteArray)).data.toList) false (by rw [cat_list, cat_list, hcut.out, if_pos h34, h34]; simp) (by rw [h34]; rfl)
                    have HNN := Lib.hid hN
                    clear hN hc hzc h34
                    go_wp2_with fail
                    go_round
                    case rel => exact ⟨k + 1, _, _, by omega, rfl, rfl, by go_num, by rw [hcat2]; omega, HNN⟩
                    case measure => simp [intOf]; omega
                  · have e34 : (z == 34) = false := byte_ne hzc h34
                    have hN := HN.out ((d ++ p.extract k (k + 1)).data.toList) false (by rw [cat_list, hcut.out, if_neg h34]) rfl
                    have HNN := Lib.hid hN
                    clear hN h34 hc hzc
                    go_wp2_with fail
                    go_round
                    case rel => exact ⟨k + 1, _, _, by omega, rfl, rfl, by go_num, by rw [hcat]; omega, HNN⟩
                    case measure => simp [intOf]; omega
            · obtain rfl : k = p.size := by omega
              have hform := hd.out
              rw [hszp.out] at hform
              obtain ⟨hf1, hf2⟩ := hform.form
              have hd2 : d.size ≤ 200 := by omega
              have HF1 := Lib.hid hf1
              have HF2 := Lib.hid hf2
              have hts2 : t.size ≤ 1827 := by omega
              have hSL : (xs.take i).length ≤ 1000000000000 := by rw [List.length_take]; omega
              clear hform hf1 hf2 hd
              by_cases hi0 : 0 < i
              · cases br with
                | false =>
                  have hc1 : (t ++ (⟨#[44]⟩ : ByteArray)).size = t.size + 1 := by rw [ByteArray.size_append]; rfl
                  have hc2 : ((t ++ (⟨#[44]⟩ : ByteArray)) ++ (⟨#[34]⟩ : ByteArray)).size = t.size + 1 + 1 := by rw [ByteArray.size_append, hc1]; rfl
                  have hc3 : ((t ++ (⟨#[44]⟩ : ByteArray)) ++ (⟨#[34]⟩ : ByteArray) ++ d).size = t.size + 1 + 1 + d.size := by rw [ByteArray.size_append, hc2]
                  have hsS : ((t ++ (⟨#[44]⟩ : ByteArray)) ++ (⟨#[34]⟩ : ByteArray) ++ d ++ (⟨#[34]⟩ : ByteArray)).size ≤ 203 * (i + 1) := by rw [ByteArray.size_append, hc3, show (⟨#[34]⟩ : ByteArray).size = 1 from rfl]; omega
                  have hS : Hid (FStand (bts (xs.take (i + 1))) ((t ++ (⟨#[44]⟩ : ByteArray)) ++ (⟨#[34]⟩ : ByteArray) ++ d ++ (⟨#[34]⟩ : ByteArray)).data.toList) := by
                    unfold Hid
                    rw [htk.out, bts_snoc]
                    have h := hst.out.more (by rw [bts_len, List.length_take]; omega) HF1.out HVL.out
                    rwa [show t.data.toList ++ [44] ++ 34 :: (d.data.toList ++ [34]) = ((t ++ (⟨#[44]⟩ : ByteArray)) ++ (⟨#[34]⟩ : ByteArray) ++ d ++ (⟨#[34]⟩ : ByteArray)).data.toList from by rw [cat_list, cat_list, cat_list, cat_list]; simp] at h
                  go_wp2_with (at_builtin; refine push_str rfl _ _ rfl w.heap.size lv (xs.take i) p wr rfl HOW.out rfl hSL hsw ?_)
                  intro v' w3 h1 h2
                  have R1 := Lib.hid h1
                  clear h1
                  go_wp2_with fail
                  go_roundw
                  case rel => exact ⟨i + 1, _, _, rfl, rfl, by go_num, by omega, by omega, hsS, hS, by rw [htk.out]; exact R1.out, hbw.trans h2⟩
                  case measure => simp [intOf]; omega
                | true =>
                  by_cases hnq : i < nq
                  · obtain ⟨qd, rfl, hqb, hqc⟩ := HQ.out (by omega)
                    have cq := hqc i hnq
                    rw [← hbw.cell (p := qd.add i) (by rw [addBlock]; exact hqb)] at cq
                    clear hqc
                    cases hQi : Q i with
                    | true =>
                      rw [hQi] at cq
                      clear hQi
                      have hc1 : (t ++ (⟨#[44]⟩ : ByteArray)).size = t.size + 1 := by rw [ByteArray.size_append]; rfl
                      have hc2 : ((t ++ (⟨#[44]⟩ : ByteArray)) ++ (⟨#[34]⟩ : ByteArray)).size = t.size + 1 + 1 := by rw [ByteArray.size_append, hc1]; rfl
                      have hc3 : ((t ++ (⟨#[44]⟩ : ByteArray)) ++ (⟨#[34]⟩ : ByteArray) ++ d).size = t.size + 1 + 1 + d.size := by rw [ByteArray.size_append, hc2]
                      have hsS : ((t ++ (⟨#[44]⟩ : ByteArray)) ++ (⟨#[34]⟩ : ByteArray) ++ d ++ (⟨#[34]⟩ : ByteArray)).size ≤ 203 * (i + 1) := by rw [ByteArray.size_append, hc3, show (⟨#[34]⟩ : ByteArray).size = 1 from rfl]; omega
                      have hS : Hid (FStand (bts (xs.take (i + 1))) ((t ++ (⟨#[44]⟩ : ByteArray)) ++ (⟨#[34]⟩ : ByteArray) ++ d ++ (⟨#[34]⟩ : ByteArray)).data.toList) := by
                        unfold Hid
                        rw [htk.out, bts_snoc]
                        have h := hst.out.more (by rw [bts_len, List.length_take]; omega) HF1.out HVL.out
                        rwa [show t.data.toList ++ [44] ++ 34 :: (d.data.toList ++ [34]) = ((t ++ (⟨#[44]⟩ : ByteArray)) ++ (⟨#[34]⟩ : ByteArray) ++ d ++ (⟨#[34]⟩ : ByteArray)).data.toList from by rw [cat_list, cat_list, cat_list, cat_list]; simp] at h
                      go_wp2_with (at_builtin; refine push_str rfl _ _ rfl w.heap.size lv (xs.take i) p wr rfl HOW.out rfl hSL hsw ?_)
                      intro v' w3 h1 h2
                      have R1 := Lib.hid h1
                      clear h1
                      go_wp2_with fail
                      go_roundw
                      case rel => exact ⟨i + 1, _, _, rfl, rfl, by go_num, by omega, by omega, hsS, hS, by rw [htk.out]; exact R1.out, hbw.trans h2⟩
                      case measure => simp [intOf]; omega
                    | false =>
                      rw [hQi] at cq
                      clear hQi
                      have hc1 : (t ++ (⟨#[44]⟩ : ByteArray)).size = t.size + 1 := by rw [ByteArray.size_append]; rfl
                      have hsS : ((t ++ (⟨#[44]⟩ : ByteArray)) ++ p).size ≤ 203 * (i + 1) := by rw [ByteArray.size_append, hc1]; omega
                      have hS : Hid (FStand (bts (xs.take (i + 1))) ((t ++ (⟨#[44]⟩ : ByteArray)) ++ p).data.toList) := by
                        unfold Hid
                        rw [htk.out, bts_snoc]
                        have h := hst.out.more (by rw [bts_len, List.length_take]; omega) (HF2.out rfl) HVL.out
                        rwa [show t.data.toList ++ [44] ++ p.data.toList = ((t ++ (⟨#[44]⟩ : ByteArray)) ++ p).data.toList from by rw [cat_list, cat_list]] at h
                      go_wp2_with (at_builtin; refine push_str rfl _ _ rfl w.heap.size lv (xs.take i) p wr rfl HOW.out rfl hSL hsw ?_)
                      intro v' w3 h1 h2
                      have R1 := Lib.hid h1
                      clear h1
                      go_wp2_with fail
                      go_roundw
                      case rel => exact ⟨i + 1, _, _, rfl, rfl, by go_num, by omega, by omega, hsS, hS, by rw [htk.out]; exact R1.out, hbw.trans h2⟩
                      case measure => simp [intOf]; omega
                  · have hc1 : (t ++ (⟨#[44]⟩ : ByteArray)).size = t.size + 1 := by rw [ByteArray.size_append]; rfl
                    have hsS : ((t ++ (⟨#[44]⟩ : ByteArray)) ++ p).size ≤ 203 * (i + 1) := by rw [ByteArray.size_append, hc1]; omega
                    have hS : Hid (FStand (bts (xs.take (i + 1))) ((t ++ (⟨#[44]⟩ : ByteArray)) ++ p).data.toList) := by
                      unfold Hid
                      rw [htk.out, bts_snoc]
                      have h := hst.out.more (by rw [bts_len, List.length_take]; omega) (HF2.out rfl) HVL.out
                      rwa [show t.data.toList ++ [44] ++ p.data.toList = ((t ++ (⟨#[44]⟩ : ByteArray)) ++ p).data.toList from by rw [cat_list, cat_list]] at h
                    go_wp2_with (at_builtin; refine push_str rfl _ _ rfl w.heap.size lv (xs.take i) p wr rfl HOW.out rfl hSL hsw ?_)
                    intro v' w3 h1 h2
                    have R1 := Lib.hid h1
                    clear h1
                    go_wp2_with fail
                    go_roundw
                    case rel => exact ⟨i + 1, _, _, rfl, rfl, by go_num, by omega, by omega, hsS, hS, by rw [htk.out]; exact R1.out, hbw.trans h2⟩
                    case measure => simp [intOf]; omega
              · cases br with
                | false =>
                  have hc2 : (t ++ (⟨#[34]⟩ : ByteArray)).size = t.size + 1 := by rw [ByteArray.size_append]; rfl
                  have hc3 : (t ++ (⟨#[34]⟩ : ByteArray) ++ d).size = t.size + 1 + d.size := by rw [ByteArray.size_append, hc2]
                  have hsS : (t ++ (⟨#[34]⟩ : ByteArray) ++ d ++ (⟨#[34]⟩ : ByteArray)).size ≤ 203 * (i + 1) := by rw [ByteArray.size_append, hc3, show (⟨#[34]⟩ : ByteArray).size = 1 from rfl]; omega
                  have hS : Hid (FStand (bts (xs.take (i + 1))) (t ++ (⟨#[34]⟩ : ByteArray) ++ d ++ (⟨#[34]⟩ : ByteArray)).data.toList) := by
                    unfold Hid
                    rw [htk.out, bts_snoc]
                    have hz0 : bts (xs.take i) = [] := by rw [show i = 0 by omega]; rfl
                    have h0 := hst.out
                    rw [hz0] at h0 ⊢
                    have h := h0.first HF1.out HVL.out
                    rwa [show t.data.toList ++ 34 :: (d.data.toList ++ [34]) = (t ++ (⟨#[34]⟩ : ByteArray) ++ d ++ (⟨#[34]⟩ : ByteArray)).data.toList from by rw [cat_list, cat_list, cat_list]; simp] at h
                  go_wp2_with (at_builtin; refine push_str rfl _ _ rfl w.heap.size lv (xs.take i) p wr rfl HOW.out rfl hSL hsw ?_)
                  intro v' w3 h1 h2
                  have R1 := Lib.hid h1
                  clear h1
                  go_wp2_with fail
                  go_roundw
                  case rel => exact ⟨i + 1, _, _, rfl, rfl, by go_num, by omega, by omega, hsS, hS, by rw [htk.out]; exact R1.out, hbw.trans h2⟩
                  case measure => simp [intOf]; omega
                | true =>
                  by_cases hnq : i < nq
                  · obtain ⟨qd, rfl, hqb, hqc⟩ := HQ.out (by omega)
                    have cq := hqc i hnq
                    rw [← hbw.cell (p := qd.add i) (by rw [addBlock]; exact hqb)] at cq
                    clear hqc
                    cases hQi : Q i with
                    | true =>
                      rw [hQi] at cq
                      clear hQi
                      have hc2 : (t ++ (⟨#[34]⟩ : ByteArray)).size = t.size + 1 := by rw [ByteArray.size_append]; rfl
                      have hc3 : (t ++ (⟨#[34]⟩ : ByteArray) ++ d).size = t.size + 1 + d.size := by rw [ByteArray.size_append, hc2]
                      have hsS : (t ++ (⟨#[34]⟩ : ByteArray) ++ d ++ (⟨#[34]⟩ : ByteArray)).size ≤ 203 * (i + 1) := by rw [ByteArray.size_append, hc3, show (⟨#[34]⟩ : ByteArray).size = 1 from rfl]; omega
                      have hS : Hid (FStand (bts (xs.take (i + 1))) (t ++ (⟨#[34]⟩ : ByteArray) ++ d ++ (⟨#[34]⟩ : ByteArray)).data.toList) := by
                        unfold Hid
                        rw [htk.out, bts_snoc]
                        have hz0 : bts (xs.take i) = [] := by rw [show i = 0 by omega]; rfl
                        have h0 := hst.out
                        rw [hz0] at h0 ⊢
                        have h := h0.first HF1.out HVL.out
                        rwa [show t.data.toList ++ 34 :: (d.data.toList ++ [34]) = (t ++ (⟨#[34]⟩ : ByteArray) ++ d ++ (⟨#[34]⟩ : ByteArray)).data.toList from by rw [cat_list, cat_list, cat_list]; simp] at h
                      go_wp2_with (at_builtin; refine push_str rfl _ _ rfl w.heap.size lv (xs.take i) p wr rfl HOW.out rfl hSL hsw ?_)
                      intro v' w3 h1 h2
                      have R1 := Lib.hid h1
                      clear h1
                      go_wp2_with fail
                      go_roundw
                      case rel => exact ⟨i + 1, _, _, rfl, rfl, by go_num, by omega, by omega, hsS, hS, by rw [htk.out]; exact R1.out, hbw.trans h2⟩
                      case measure => simp [intOf]; omega
                    | false =>
                      rw [hQi] at cq
                      clear hQi
                      have hsS : (t ++ p).size ≤ 203 * (i + 1) := by rw [ByteArray.size_append]; omega
                      have hS : Hid (FStand (bts (xs.take (i + 1))) (t ++ p).data.toList) := by
                        unfold Hid
                        rw [htk.out, bts_snoc]
                        have hz0 : bts (xs.take i) = [] := by rw [show i = 0 by omega]; rfl
                        have h0 := hst.out
                        rw [hz0] at h0 ⊢
                        have h := h0.first (HF2.out rfl) HVL.out
                        rwa [show t.data.toList ++ p.data.toList = (t ++ p).data.toList from by rw [cat_list]] at h
                      go_wp2_with (at_builtin; refine push_str rfl _ _ rfl w.heap.size lv (xs.take i) p wr rfl HOW.out rfl hSL hsw ?_)
                      intro v' w3 h1 h2
                      have R1 := Lib.hid h1
                      clear h1
                      go_wp2_with fail
                      go_roundw
                      case rel => exact ⟨i + 1, _, _, rfl, rfl, by go_num, by omega, by omega, hsS, hS, by rw [htk.out]; exact R1.out, hbw.trans h2⟩
                      case measure => simp [intOf]; omega
                  · have hsS : (t ++ p).size ≤ 203 * (i + 1) := by rw [ByteArray.size_append]; omega
                    have hS : Hid (FStand (bts (xs.take (i + 1))) (t ++ p).data.toList) := by
                      unfold Hid
                      rw [htk.out, bts_snoc]
                      have hz0 : bts (xs.take i) = [] := by rw [show i = 0 by omega]; rfl
                      have h0 := hst.out
                      rw [hz0] at h0 ⊢
                      have h := h0.first (HF2.out rfl) HVL.out
                      rwa [show t.data.toList ++ p.data.toList = (t ++ p).data.toList from by rw [cat_list]] at h
                    go_wp2_with (at_builtin; refine push_str rfl _ _ rfl w.heap.size lv (xs.take i) p wr rfl HOW.out rfl hSL hsw ?_)
                    intro v' w3 h1 h2
                    have R1 := Lib.hid h1
                    clear h1
                    go_wp2_with fail
                    go_roundw
                    case rel => exact ⟨i + 1, _, _, rfl, rfl, by go_num, by omega, by omega, hsS, hS, by rw [htk.out]; exact R1.out, hbw.trans h2⟩
                    case measure => simp [intOf]; omega
    · have hstop : ¬ i < xs.length ∨ (i < xs.length ∧ ¬ i < 10) := by omega
      have hne30 : (bts (xs.take i)).length ≤ 30 := by rw [bts_len, List.length_take]; omega
      have htl : t.data.toList.length ≤ 5000 := by rw [← Lib.size_eq]; omega
      have hts2 : t.size ≤ 2030 := by omega
      obtain ⟨ws, hws⟩ : ∃ ws, xs.take i = ws := ⟨_, rfl⟩
      rw [hws] at hown hst hne30
      have hwl : ws.length ≤ 140737488355328 := by rw [← hws, List.length_take]; omega
      by_cases hte : t.data.toList = []
      · have hte2 : t.toList.isEmpty = true := by rw [Lib.toList_data, hte]; rfl
        clear hst hown hws hne30 htl hte hwl
        rcases hstop with hs | ⟨hs, hs2⟩
        all_goals
          go_wp2_with fail
          refine (HA.out _ (HOK.out wr hbw)).mono ?_
          rintro e w1 ⟨rfl, b1⟩
          go_wp2_with fail
          go_ret
          exact ⟨rfl, hbw.trans (b1.mono hsw)⟩
      · have hte2 : t.toList.isEmpty = false := by
          rw [Lib.toList_data]
          cases h : t.data.toList with
          | nil => exact absurd h hte
          | cons a u => rfl
        obtain ⟨hr1, hr2⟩ := hst.out.done hte hne30 htl
        have hc1 : (t ++ (⟨#[13, 10]⟩ : ByteArray)).size = t.size + 2 := by rw [ByteArray.size_append]; rfl
        have hc2 : (t ++ (⟨#[13, 10]⟩ : ByteArray) ++ t).size = t.size + 2 + t.size := by rw [ByteArray.size_append, hc1]
        have hc3 : (t ++ (⟨#[13, 10]⟩ : ByteArray) ++ t ++ (⟨#[13, 10]⟩ : ByteArray)).size = t.size + 2 + t.size + 2 := by rw [ByteArray.size_append, hc2]; rfl
        have hR1 := fun (W : World) h => HRO.out t [bts ws] W h (by omega) hr1
        have hR2 := fun (W : World) h => HRO.out (t ++ (⟨#[13, 10]⟩ : ByteArray) ++ t ++ (⟨#[13, 10]⟩ : ByteArray)) [bts ws, bts ws] W h (by omega) (by rw [cat_list, cat_list, cat_list]; exact hr2)
        rw [show ([bts ws].map sts) = [ws] by simp [sts_bts]] at hR1
        rw [show ([bts ws, bts ws].map sts) = [ws, ws] by simp [sts_bts]] at hR2
        have HR1 := Lib.hid hR1
        have HR2 := Lib.hid hR2
        obtain ⟨A2, cap2, rfl⟩ := hown.slice
        have HOW := Lib.hid hown.reads
        have hall : ∀ r ∈ [ws], r.length ≤ 140737488355328 := fun r hr => by rw [List.mem_singleton] at hr; subst hr; exact hwl
        have hall2 : ∀ r ∈ [ws, ws], r.length ≤ 140737488355328 := fun r hr => by
          simp only [List.mem_cons, List.not_mem_nil, or_false, or_self] at hr
          subst hr
          exact hwl
        have HL1 := Lib.hid hall
        have HL2 := Lib.hid hall2
        clear hst hown hws hne30 htl hte hr1 hr2 hR1 hR2 hall hall2
        rcases hstop with hs | ⟨hs, hs2⟩
        all_goals
          go_wp2_with fail
          refine (HR1.out wr (HOK.out wr hbw)).mono ?_
          rintro e w1 ⟨⟨v1, rfl, hv1⟩, b1⟩
          have V1 := Lib.hid hv1
          have c1 : Below w.heap.size w w1 := hbw.trans (b1.mono hsw)
          clear hv1
          go_wp2_with fail
          refine (HR2.out w1 (HOK.out w1 c1)).mono ?_
          rintro e w2 ⟨⟨v2, rfl, hv2⟩, b2⟩
          have V2 := Lib.hid hv2
          have c2 : Below w.heap.size w w2 := c1.trans (b2.mono c1.size)
          clear hv2
          go_wp2_with fail
          refine (HA.out w2 (HOK.out w2 c2)).mono ?_
          rintro e w3 ⟨rfl, b3⟩
          have c3 : Below w.heap.size w w3 := c2.trans (b3.mono c2.size)
          have s1 := b1.size
          have s2 := b2.size
          have s3 := b3.size
          go_wp2_with fail
          have d3 : Below wr.heap.size wr w3 := (b1.trans (b2.mono s1)).trans (b3.mono (by omega))
          have lr3 : ReadT w3.heap.size w3 (.slice A2 ws.length cap2) ws := (HOW.out.below d3).more (by omega)
          have m3 := made_rows w3 [ws] 1 1 #[.slice A2 ws.length cap2] rfl fun j ys h => by
            match j, h with
            | 0, h => cases h; exact ⟨_, rfl, lr3⟩
            | j + 1, h => simp at h
          have e3 : Below w3.heap.size w3 (w3.alloc (.cells #[.slice A2 ws.length cap2] 25)) := (Below.refl _ _).alloc (Nat.le_refl _) _
          have r1 : ReadTT (w3.heap.size + 1) (w3.alloc (.cells #[.slice A2 ws.length cap2] 25)) v1 [ws] :=
            (V1.out.below ((b2.trans (b3.mono s2)).trans (e3.mono (by omega)))).more (by omega)
          refine (HRw.out (w3.heap.size + 1) v1 _ [ws] [ws] _ r1 m3 (by simp) (by simp) (by simp) HL1.out HL1.out).mono ?_
          rintro e w4 ⟨rfl, b4⟩
          rw [show decide ([ws] = [ws]) = true from decide_eq_true rfl]
          have f4 : Below w3.heap.size w3 w4 := e3.trans (b4.mono (by simp))
          have c4 : Below w.heap.size w w4 := c3.trans (f4.mono c3.size)
          have s4 := f4.size
          clear r1 m3 lr3 e3 b4
          go_wp2_with fail
          have lr4 : ReadT w4.heap.size w4 (.slice A2 ws.length cap2) ws := (HOW.out.below (d3.trans (f4.mono (by omega)))).more (by omega)
          have m4 := made_rows w4 [ws, ws] 2 2 #[.slice A2 ws.length cap2, .slice A2 ws.length cap2] rfl fun j ys h => by
            match j, h with
            | 0, h => cases h; exact ⟨_, rfl, lr4⟩
            | 1, h => cases h; exact ⟨_, rfl, lr4⟩
            | j + 2, h => simp at h
          have e4 : Below w4.heap.size w4 (w4.alloc (.cells #[.slice A2 ws.length cap2, .slice A2 ws.length cap2] 25)) := (Below.refl _ _).alloc (Nat.le_refl _) _
          have r2 : ReadTT (w4.heap.size + 1) (w4.alloc (.cells #[.slice A2 ws.length cap2, .slice A2 ws.length cap2] 25)) v2 [ws, ws] :=
            (V2.out.below ((b3.trans (f4.mono s3)).trans (e4.mono (by omega)))).more (by omega)
          refine (HRw.out (w4.heap.size + 1) v2 _ [ws, ws] [ws, ws] _ r2 m4 (by simp) (by simp) (by simp) HL2.out HL2.out).mono ?_
          rintro e w5 ⟨rfl, b5⟩
          rw [show decide ([ws, ws] = [ws, ws]) = true from decide_eq_true rfl]
          have c5 : Below w.heap.size w w5 := c4.trans ((e4.trans (b5.mono (by simp))).mono c4.size)
          clear r2 m4 lr4 e4 b5
          go_wp2_with fail
          go_ret
          exact ⟨rfl, c5⟩
end Go.Proofs.YtakfcfjamgaekaaDoor
