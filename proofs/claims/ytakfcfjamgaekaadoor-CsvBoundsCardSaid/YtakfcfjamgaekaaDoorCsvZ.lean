/-
  csv.Write: csv.written, csv.Write: what they answer, at every list of rows.
-/
import Derived.Test.YtakfcfjamgaekaaDoorCsvR
namespace Go.Proofs.YtakfcfjamgaekaaDoor
open Go.RowKit Tx

theorem rep_dbl : ∀ (n : Nat) (l : List UInt8), l.length ≤ n → Lib.replaceK [34] [34, 34] (Lib.count l [34]) l = dbl l := by
  intro n
  induction n with
  | zero =>
    intro l hl
    obtain rfl : l = [] := List.length_eq_zero_iff.1 (by omega)
    rfl
  | succ n ih =>
    intro l hl
    rcases Lib.index_spec l [34] with ⟨h1, h2⟩ | ⟨i, h1, h2, h3, h4⟩
    · rw [Lib.count_miss h1]
      show l = dbl l
      refine (dbl_none fun c hc e => ?_).symm
      subst e
      obtain ⟨j, hj, hx⟩ := List.mem_iff_getElem.1 hc
      have := h2 j (by omega)
      unfold Lib.occAt at this
      rw [List.drop_eq_getElem_cons hj, hx] at this
      simp [List.isPrefixOf] at this
    · rw [Lib.count_hit (by simp) h1, Nat.add_comm 1, Lib.replaceK_hit _ _ _ _ _ h1]
      unfold Lib.occAt at h3
      rw [List.isPrefixOf_iff_prefix] at h3
      obtain ⟨r, hr⟩ := h3
      have hr2 : l.drop i = 34 :: r := hr.symm
      have hr3 : l.drop (i + [(34 : UInt8)].length) = r := by
        have := congrArg (List.drop 1) hr2
        simpa [List.drop_drop] using this
      have hlen : r.length ≤ n := by
        have := congrArg List.length hr2
        rw [List.length_drop, List.length_cons] at this
        omega
      rw [hr3, ih r hlen]
      conv => rhs; rw [← List.take_append_drop i l, hr2, dbl_append, dbl_cons, if_pos rfl]
      rw [dbl_none (p := l.take i), List.append_assoc]
      intro c hc e
      subst e
      obtain ⟨j, hj, hx⟩ := List.mem_iff_getElem.1 hc
      rw [List.length_take] at hj
      have := h4 j (by omega)
      unfold Lib.occAt at this
      rw [List.getElem_take] at hx
      rw [List.drop_eq_getElem_cons (by omega), hx] at this
      simp [List.isPrefixOf] at this
theorem replaceAll_dbl (l : List UInt8) : Lib.replaceAll l [34] [34, 34] = dbl l := by
  unfold Lib.replaceAll Lib.replace Lib.replaceNum
  rw [if_neg (by decide), if_pos (.inl (by decide))]
  exact rep_dbl _ l (Nat.le_refl _)
theorem index_any_spc : ∀ l : List UInt8, (Lib.indexAny l [44, 34, 13, 10] = -1 ∧ l.any spc = false) ∨ ∃ i : Nat, Lib.indexAny l [44, 34, 13, 10] = i ∧ l.any spc = true
  | [] => .inl ⟨rfl, rfl⟩
  | b :: l => by
    have hc : ([44, 34, 13, 10] : List UInt8).contains b = spc b := by
      unfold spc
      simp only [List.contains_cons, List.contains_nil, Bool.or_false, Bool.or_assoc]
    by_cases h : spc b = true
    · right
      refine ⟨0, ?_, by simp [h]⟩
      unfold Lib.indexAny
      rw [hc, if_pos h]
      try rfl
    · have hf : spc b = false := by simpa using h
      rcases index_any_spc l with ⟨h1, h2⟩ | ⟨i, h1, h2⟩
      · left
        refine ⟨?_, by rw [List.any_cons, hf, h2]; rfl⟩
        unfold Lib.indexAny
        rw [hc, hf, h1]
        rfl
      · right
        refine ⟨i + 1, ?_, by rw [List.any_cons, hf, h2]; rfl⟩
        unfold Lib.indexAny
        rw [hc, hf, h1]
        have : ((i : Int) == -1) = false := by simp
        rw [this]
        simp
set_option maxHeartbeats 1000000 in
/-- strings.ContainsAny(s, a comma, a quote, 13, 10) -/
theorem hasSpc_any (s : ByteArray) (c : Bool) (w : World) (hs : s.size < 4294967281) (hc : s.data.toList.any spc = c) : Calls Tryd.prog 31 #[.string s, .string ⟨#[44, 34, 13, 10]⟩] w fun e w' => e = .returned (.bool c) ∧ Below w.heap.size w w' := by
  have H := sindex_any s w hs
  obtain ⟨i, hi⟩ : ∃ i, Lib.indexAny s.data.toList [44, 34, 13, 10] = i := ⟨_, rfl⟩
  have hx := index_any_spc s.data.toList
  rw [hi] at H hx
  have HO := Lib.hid H
  have hd : c = decide (0 ≤ i) := by
    rcases hx with ⟨h1, h2⟩ | ⟨j, h1, h2⟩
    · subst h1
      rw [← hc, h2]
      rfl
    · subst h1
      rw [← hc, h2]
      simp
  rw [hd]
  clear H hi hx hd hc
  go_enter Tryd.func31, Tryd.ntmps31
  go_wp2_with (go_at_call 38; refine HO.out.mono ?_; rintro e w1 ⟨rfl, b1⟩)
  go_ret
  exact ⟨ret_bool rfl, b1⟩
/-- strings.ReplaceAll(s, a quote, two of them) -/
theorem twice_any (s : ByteArray) (w : World) (hM : MaxL w) (hs : s.size < 1000000000) :
    Calls Tryd.prog 32 #[.string s, .string ⟨#[34]⟩, .string ⟨#[34, 34]⟩] w fun e w' => e = .returned (.string ⟨(dbl s.data.toList).toArray⟩) ∧ Below w.heap.size w w' := by
  obtain ⟨mx, hmx⟩ := hM
  have hc : Lib.countB s ⟨#[34]⟩ ≤ s.size := by
    have h1 : Lib.countB s ⟨#[34]⟩ = s.data.toList.count 34 := Lib.count_one 34 s.data.toList
    rw [h1, Lib.size_eq]
    exact List.count_le_length
  have H := Tryd.strings_ReplaceAll s ⟨#[34]⟩ ⟨#[34, 34]⟩ mx w (by omega) hmx (by decide) (by rw [show (⟨#[34, 34]⟩ : ByteArray).size = 2 from rfl]; omega)
  rw [show (⟨#[34]⟩ : ByteArray).data.toList = [34] from rfl, show (⟨#[34, 34]⟩ : ByteArray).data.toList = [34, 34] from rfl, replaceAll_dbl] at H
  exact H
theorem fld_yes {al : Bool} {x : List UInt8} (h : needs al x = true) : fld al x = 34 :: (dbl x ++ [34]) := by unfold fld; rw [if_pos h]
theorem fld_no {al : Bool} {x : List UInt8} (h : needs al x = false) : fld al x = x := by unfold fld; rw [if_neg (by rw [h]; decide)]
theorem flds_take {xs : List ByteArray} {p : ByteArray} {k : Nat} (al : Bool) (h : xs[k]? = some p) : (bts (xs.take (k + 1))).map (fld al) = (bts (xs.take k)).map (fld al) ++ [fld al p.data.toList] := by
  rw [List.take_add_one, h]
  simp [bts]
theorem in_sum {xs : List ByteArray} {p : ByteArray} (h : p ∈ xs) : p.size + 3 ≤ ((bts xs).map fun x => 3 + x.length).sum := by
  induction xs with
  | nil => cases h
  | cons a t ih =>
    simp only [bts, List.map_cons, List.sum_cons] at ih ⊢
    rcases List.mem_cons.1 h with rfl | h
    · have := Lib.size_eq p; omega
    · have := ih h; omega
theorem len_sum : ∀ xs : List ByteArray, 3 * xs.length ≤ ((bts xs).map fun x => 3 + x.length).sum
  | [] => by simp
  | a :: t => by
    have := len_sum t
    simp only [bts, List.map_cons, List.sum_cons, List.length_cons] at this ⊢
    omega

set_option maxHeartbeats 4000000 in
set_option maxRecDepth 100000 in
theorem written_one (v : Value) (xs : List ByteArray) (w : World) (hM : MaxL w) (hx : ReadT w.heap.size w v xs) (hb : ((bts xs).map fun x => 3 + x.length).sum ≤ 1000000) (hal : xs.length = 1) :
    Calls Tryd.prog 18 #[v] w fun e w' => ∃ u, e = .returned u ∧ OwnT w.heap.size w' u (sts ((bts xs).map (fld true))) ∧ Below w.heap.size w w' := by
  obtain ⟨A, cap, rfl, hx2⟩ := hx
  have hlen := len_sum xs
  have hMB : 2 < w.heap.size := by obtain ⟨m, hm⟩ := hM; exact World.block_lt_of_cell? _ _ hm
  have HM := Lib.hid (fun (W : World) (hb : Below w.heap.size w W) => hM.belowB hb hMB)
  have hone : (((xs.length : Nat) : Int) == 1) = true := by simp; omega
  have HX := Lib.hid hx2
  have HIS := Lib.hid (fun (p : ByteArray) (h : p ∈ xs) => in_sum h)
  clear hx2 hMB hM hal
  go_enter Tryd.func18, Tryd.ntmps18
  go_wp2_with fail
  go_loopw [12, 4] (fun at_ fv wr => ∃ (k : Nat) (L : List (List UInt8)) (lv : Value), k ≤ xs.length ∧ at_ = .int .i64 k ∧ fv = lv ∧ Hid (L = (bts (xs.take k)).map (fld true)) ∧ L.length = k ∧ OwnT w.heap.size wr lv (sts L) ∧ Below w.heap.size w wr) (fun at_ _ _ => xs.length - (intOf at_).toNat)
  case atStart => exact ⟨0, [], _, Nat.zero_le _, rfl, rfl, rfl, rfl, OwnT.nil _ _, Below.refl _ _⟩
  case round =>
    obtain ⟨k, L, lv, hk, rfl, hlv, hL, hLk, hown, hbw⟩ := hrel
    have hlv2 := hlv.symm
    clear hlv
    subst hlv2
    have hsw := hbw.size
    have hM2 := HM.out wr hbw
    by_cases hlt : k < xs.length
    · obtain ⟨ad, rfl, hlb, hc⟩ := HX.out (by omega)
      obtain ⟨p, hp⟩ : ∃ p, xs[k]? = some p := ⟨_, List.getElem?_eq_getElem hlt⟩
      have c0 := hc k p hp
      rw [← hbw.cell (p := ad.add k) (by rw [addBlock]; exact hlb)] at c0
      have hps := HIS.out p (List.mem_of_getElem? hp)
      have hst := Lib.hid (flds_take true hp)
      have hSL : (sts L).length ≤ 1000000000000 := by rw [sts_len]; omega
      have HOW := Lib.hid hown
      clear hc hp hown
      by_cases hem : p.data.toList = []
      · have hpe : p = ⟨#[]⟩ := bytes_of hem
        have hem2 : p.toList.isEmpty = true := by rw [Lib.toList_data, hem]; rfl
        have hneed : needs true p.data.toList = true := by rw [hem]; rfl
        clear hpe hem
        have d1 := hbw
        have HO1 := HOW
        have HTW := Lib.hid (fun (W : World) (h : Below w.heap.size w W) => twice_any p W (HM.out W h) (by omega))
        obtain ⟨R, hR⟩ : ∃ R : ByteArray, ⟨(dbl p.data.toList).toArray⟩ = R := ⟨_, rfl⟩
        have hRl : R.data.toList = dbl p.data.toList := by rw [← hR]
        have hRs : R.size ≤ 2 * p.size := by rw [Lib.size_eq, Lib.size_eq, hRl]; exact dbl_len _
        rw [hR] at HTW
        have HX1 : Hid (sts ((bts (xs.take (k + 1))).map (fld true)) = sts L ++ [(⟨#[34]⟩ : ByteArray) ++ R ++ (⟨#[34]⟩ : ByteArray)]) := by
          unfold Hid
          rw [hst.out, ← hL.out, sts_snoc, fld_yes hneed]
          exact congrArg _ (congrArg (fun x => [x]) (bytes_of (by rw [cat_list, cat_list, hRl]; rfl)).symm)
        have hq1 : (⟨#[34]⟩ : ByteArray).size = 1 := rfl
        have hq2 : ((⟨#[34]⟩ : ByteArray) ++ R).size = 1 + R.size := by rw [ByteArray.size_append, hq1]
        clear hR hRl hneed hst
        go_wp2_with fail
        refine (HTW.out _ d1).mono ?_
        rintro e w2 ⟨rfl, b2⟩
        have d2 : Below w.heap.size w w2 := d1.trans (b2.mono d1.size)
        have HO2 := Lib.hid (HO1.out.below b2)
        have hs2 := d2.size
        clear b2
        go_wp2_with (at_builtin; refine push_str rfl _ _ rfl w.heap.size lv (sts L) ((⟨#[34]⟩ : ByteArray) ++ R ++ (⟨#[34]⟩ : ByteArray)) w2 rfl HO2.out rfl hSL hs2 ?_)
        intro v' w3 h1 h2
        have R1 := Lib.hid h1
        clear h1
        go_wp2_with fail
        go_roundw
        case rel => exact ⟨k + 1, _, _, by omega, by go_num, rfl, rfl, by rw [List.length_map, bts_len, List.length_take]; omega, by rw [HX1.out]; exact R1.out, d2.trans h2⟩
        case measure => simp [intOf]; omega
      · have hem2 : p.toList.isEmpty = false := by
          rw [Lib.toList_data]
          cases h : p.data.toList with
          | nil => exact absurd h hem
          | cons a t => rfl
        have hemL : (true && p.data.toList.isEmpty) = false := by
          cases h : p.data.toList with
          | nil => exact absurd h hem
          | cons a t => rfl
        clear hem
        cases hcs : p.data.toList.any spc with
        | true =>
          have HC := Lib.hid (fun (W : World) => hasSpc_any p true W (by omega) hcs)
          have hneed : needs true p.data.toList = true := by unfold needs; rw [hcs]; exact Bool.or_true _
          clear hcs
          have HTW := Lib.hid (fun (W : World) (h : Below w.heap.size w W) => twice_any p W (HM.out W h) (by omega))
          obtain ⟨R, hR⟩ : ∃ R : ByteArray, ⟨(dbl p.data.toList).toArray⟩ = R := ⟨_, rfl⟩
          have hRl : R.data.toList = dbl p.data.toList := by rw [← hR]
          have hRs : R.size ≤ 2 * p.size := by rw [Lib.size_eq, Lib.size_eq, hRl]; exact dbl_len _
          rw [hR] at HTW
          have HX1 : Hid (sts ((bts (xs.take (k + 1))).map (fld true)) = sts L ++ [(⟨#[34]⟩ : ByteArray) ++ R ++ (⟨#[34]⟩ : ByteArray)]) := by
            unfold Hid
            rw [hst.out, ← hL.out, sts_snoc, fld_yes hneed]
            exact congrArg _ (congrArg (fun x => [x]) (bytes_of (by rw [cat_list, cat_list, hRl]; rfl)).symm)
          have hq1 : (⟨#[34]⟩ : ByteArray).size = 1 := rfl
          have hq2 : ((⟨#[34]⟩ : ByteArray) ++ R).size = 1 + R.size := by rw [ByteArray.size_append, hq1]
          clear hR hRl hneed hst
          go_wp2_with fail
          refine (HC.out _).mono ?_
          rintro e w1 ⟨rfl, b1⟩
          have d1 : Below w.heap.size w w1 := hbw.trans (b1.mono hsw)
          have HO1 := Lib.hid (HOW.out.below b1)
          clear b1
          go_wp2_with fail
          refine (HTW.out _ d1).mono ?_
          rintro e w2 ⟨rfl, b2⟩
          have d2 : Below w.heap.size w w2 := d1.trans (b2.mono d1.size)
          have HO2 := Lib.hid (HO1.out.below b2)
          have hs2 := d2.size
          clear b2
          go_wp2_with (at_builtin; refine push_str rfl _ _ rfl w.heap.size lv (sts L) ((⟨#[34]⟩ : ByteArray) ++ R ++ (⟨#[34]⟩ : ByteArray)) w2 rfl HO2.out rfl hSL hs2 ?_)
          intro v' w3 h1 h2
          have R1 := Lib.hid h1
          clear h1
          go_wp2_with fail
          go_roundw
          case rel => exact ⟨k + 1, _, _, by omega, by go_num, rfl, rfl, by rw [List.length_map, bts_len, List.length_take]; omega, by rw [HX1.out]; exact R1.out, d2.trans h2⟩
          case measure => simp [intOf]; omega
        | false =>
          have HC := Lib.hid (fun (W : World) => hasSpc_any p false W (by omega) hcs)
          have hneed : needs true p.data.toList = false := by unfold needs; rw [hcs]; rw [Bool.or_false]; exact hemL
          clear hcs
          have HX1 : Hid (sts ((bts (xs.take (k + 1))).map (fld true)) = sts L ++ [p]) := by
            unfold Hid
            rw [hst.out, ← hL.out, sts_snoc, fld_no hneed]
          clear hneed hst
          go_wp2_with fail
          refine (HC.out _).mono ?_
          rintro e w1 ⟨rfl, b1⟩
          have d1 : Below w.heap.size w w1 := hbw.trans (b1.mono hsw)
          have HO1 := Lib.hid (HOW.out.below b1)
          clear b1
          have hs2 := d1.size
          go_wp2_with (at_builtin; refine push_str rfl _ _ rfl w.heap.size lv (sts L) p w1 rfl HO1.out rfl hSL hs2 ?_)
          intro v' w3 h1 h2
          have R1 := Lib.hid h1
          clear h1
          go_wp2_with fail
          go_roundw
          case rel => exact ⟨k + 1, _, _, by omega, by go_num, rfl, rfl, by rw [List.length_map, bts_len, List.length_take]; omega, by rw [HX1.out]; exact R1.out, d1.trans h2⟩
          case measure => simp [intOf]; omega
    · have hfin : Hid (sts ((bts xs).map (fld true)) = sts L) := by
        unfold Hid
        rw [hL.out, List.take_of_length_le (by omega)]
      have HOW := Lib.hid hown
      clear hown
      go_wp2_with fail
      go_ret
      exact ⟨_, rfl, by rw [hfin.out]; exact HOW.out, hbw⟩

set_option maxHeartbeats 4000000 in
set_option maxRecDepth 100000 in
theorem written_more (v : Value) (xs : List ByteArray) (w : World) (hM : MaxL w) (hx : ReadT w.heap.size w v xs) (hb : ((bts xs).map fun x => 3 + x.length).sum ≤ 1000000) (hal : xs.length ≠ 1) :
    Calls Tryd.prog 18 #[v] w fun e w' => ∃ u, e = .returned u ∧ OwnT w.heap.size w' u (sts ((bts xs).map (fld false))) ∧ Below w.heap.size w w' := by
  obtain ⟨A, cap, rfl, hx2⟩ := hx
  have hlen := len_sum xs
  have hMB : 2 < w.heap.size := by obtain ⟨m, hm⟩ := hM; exact World.block_lt_of_cell? _ _ hm
  have HM := Lib.hid (fun (W : World) (hb : Below w.heap.size w W) => hM.belowB hb hMB)
  have hone : (((xs.length : Nat) : Int) == 1) = false := by simp; omega
  have HX := Lib.hid hx2
  have HIS := Lib.hid (fun (p : ByteArray) (h : p ∈ xs) => in_sum h)
  clear hx2 hMB hM hal
  go_enter Tryd.func18, Tryd.ntmps18
  go_wp2_with fail
  go_loopw [12, 4] (fun at_ fv wr => ∃ (k : Nat) (L : List (List UInt8)) (lv : Value), k ≤ xs.length ∧ at_ = .int .i64 k ∧ fv = lv ∧ Hid (L = (bts (xs.take k)).map (fld false)) ∧ L.length = k ∧ OwnT w.heap.size wr lv (sts L) ∧ Below w.heap.size w wr) (fun at_ _ _ => xs.length - (intOf at_).toNat)
  case atStart => exact ⟨0, [], _, Nat.zero_le _, rfl, rfl, rfl, rfl, OwnT.nil _ _, Below.refl _ _⟩
  case round =>
    obtain ⟨k, L, lv, hk, rfl, hlv, hL, hLk, hown, hbw⟩ := hrel
    have hlv2 := hlv.symm
    clear hlv
    subst hlv2
    have hsw := hbw.size
    have hM2 := HM.out wr hbw
    by_cases hlt : k < xs.length
    · obtain ⟨ad, rfl, hlb, hc⟩ := HX.out (by omega)
      obtain ⟨p, hp⟩ : ∃ p, xs[k]? = some p := ⟨_, List.getElem?_eq_getElem hlt⟩
      have c0 := hc k p hp
      rw [← hbw.cell (p := ad.add k) (by rw [addBlock]; exact hlb)] at c0
      have hps := HIS.out p (List.mem_of_getElem? hp)
      have hst := Lib.hid (flds_take false hp)
      have hSL : (sts L).length ≤ 1000000000000 := by rw [sts_len]; omega
      have HOW := Lib.hid hown
      clear hc hp hown
      cases hcs : p.data.toList.any spc with
      | true =>
        have HC := Lib.hid (fun (W : World) => hasSpc_any p true W (by omega) hcs)
        have hneed : needs false p.data.toList = true := by unfold needs; rw [hcs]; exact Bool.or_true _
        clear hcs
        have HTW := Lib.hid (fun (W : World) (h : Below w.heap.size w W) => twice_any p W (HM.out W h) (by omega))
        obtain ⟨R, hR⟩ : ∃ R : ByteArray, ⟨(dbl p.data.toList).toArray⟩ = R := ⟨_, rfl⟩
        have hRl : R.data.toList = dbl p.data.toList := by rw [← hR]
        have hRs : R.size ≤ 2 * p.size := by rw [Lib.size_eq, Lib.size_eq, hRl]; exact dbl_len _
        rw [hR] at HTW
        have HX1 : Hid (sts ((bts (xs.take (k + 1))).map (fld false)) = sts L ++ [(⟨#[34]⟩ : ByteArray) ++ R ++ (⟨#[34]⟩ : ByteArray)]) := by
          unfold Hid
          rw [hst.out, ← hL.out, sts_snoc, fld_yes hneed]
          exact congrArg _ (congrArg (fun x => [x]) (bytes_of (by rw [cat_list, cat_list, hRl]; rfl)).symm)
        have hq1 : (⟨#[34]⟩ : ByteArray).size = 1 := rfl
        have hq2 : ((⟨#[34]⟩ : ByteArray) ++ R).size = 1 + R.size := by rw [ByteArray.size_append, hq1]
        clear hR hRl hneed hst
        go_wp2_with fail
        refine (HC.out _).mono ?_
        rintro e w1 ⟨rfl, b1⟩
        have d1 : Below w.heap.size w w1 := hbw.trans (b1.mono hsw)
        have HO1 := Lib.hid (HOW.out.below b1)
        clear b1
        go_wp2_with fail
        refine (HTW.out _ d1).mono ?_
        rintro e w2 ⟨rfl, b2⟩
        have d2 : Below w.heap.size w w2 := d1.trans (b2.mono d1.size)
        have HO2 := Lib.hid (HO1.out.below b2)
        have hs2 := d2.size
        clear b2
        go_wp2_with (at_builtin; refine push_str rfl _ _ rfl w.heap.size lv (sts L) ((⟨#[34]⟩ : ByteArray) ++ R ++ (⟨#[34]⟩ : ByteArray)) w2 rfl HO2.out rfl hSL hs2 ?_)
        intro v' w3 h1 h2
        have R1 := Lib.hid h1
        clear h1
        go_wp2_with fail
        go_roundw
        case rel => exact ⟨k + 1, _, _, by omega, by go_num, rfl, rfl, by rw [List.length_map, bts_len, List.length_take]; omega, by rw [HX1.out]; exact R1.out, d2.trans h2⟩
        case measure => simp [intOf]; omega
      | false =>
        have HC := Lib.hid (fun (W : World) => hasSpc_any p false W (by omega) hcs)
        have hneed : needs false p.data.toList = false := by unfold needs; rw [hcs]; rfl
        clear hcs
        have HX1 : Hid (sts ((bts (xs.take (k + 1))).map (fld false)) = sts L ++ [p]) := by
          unfold Hid
          rw [hst.out, ← hL.out, sts_snoc, fld_no hneed]
        clear hneed hst
        go_wp2_with fail
        refine (HC.out _).mono ?_
        rintro e w1 ⟨rfl, b1⟩
        have d1 : Below w.heap.size w w1 := hbw.trans (b1.mono hsw)
        have HO1 := Lib.hid (HOW.out.below b1)
        clear b1
        have hs2 := d1.size
        go_wp2_with (at_builtin; refine push_str rfl _ _ rfl w.heap.size lv (sts L) p w1 rfl HO1.out rfl hSL hs2 ?_)
        intro v' w3 h1 h2
        have R1 := Lib.hid h1
        clear h1
        go_wp2_with fail
        go_roundw
        case rel => exact ⟨k + 1, _, _, by omega, by go_num, rfl, rfl, by rw [List.length_map, bts_len, List.length_take]; omega, by rw [HX1.out]; exact R1.out, d1.trans h2⟩
        case measure => simp [intOf]; omega
    · have hfin : Hid (sts ((bts xs).map (fld false)) = sts L) := by
        unfold Hid
        rw [hL.out, List.take_of_length_le (by omega)]
      have HOW := Lib.hid hown
      clear hown
      go_wp2_with fail
      go_ret
      exact ⟨_, rfl, by rw [hfin.out]; exact HOW.out, hbw⟩

/-- csv.written -/
theorem written_any (v : Value) (xs : List ByteArray) (w : World) (hM : MaxL w) (hx : ReadT w.heap.size w v xs) (hb : ((bts xs).map fun x => 3 + x.length).sum ≤ 1000000) :
    Calls Tryd.prog 18 #[v] w fun e w' => ∃ u, e = .returned u ∧ OwnT w.heap.size w' u (sts ((bts xs).map (fld (decide ((bts xs).length = 1))))) ∧ Below w.heap.size w w' := by
  rw [bts_len]
  by_cases h : xs.length = 1
  · rw [decide_eq_true h]
    exact written_one v xs w hM hx hb h
  · rw [decide_eq_false h]
    exact written_more v xs w hM hx hb h
end Go.Proofs.YtakfcfjamgaekaaDoor
