/-
  csv's fields: strings.CutPrefix; csv.unquoted, csv.firstField: what they answer, at every string.
-/
import Derived.Test.YtakfcfjamgaekaaDoorCsv
import Derived.Test.YtakfcfjamgaekaaDoorMaxL
import Derived.Test.YtakfcfjamgaekaaDoorByt
import Derived.Test.YtakfcfjamgaekaaDoorIdxQ
import Derived.Test.YtakfcfjamgaekaaDoorShelf
namespace Go.Proofs.YtakfcfjamgaekaaDoor
open Go.RowKit Tx

theorem hp_yes (p r : List UInt8) : Lib.hasPrefix (p ++ r) p = true := by
  unfold Lib.hasPrefix
  rw [List.isPrefixOf_iff_prefix]
  exact ⟨r, rfl⟩
theorem hp_no {l p : List UInt8} (h : l.take p.length ≠ p) : Lib.hasPrefix l p = false := by
  cases hp : Lib.hasPrefix l p with
  | false => rfl
  | true =>
    unfold Lib.hasPrefix at hp
    rw [List.isPrefixOf_iff_prefix] at hp
    obtain ⟨r, rfl⟩ := hp
    exact absurd (List.take_left' rfl) h
set_option maxHeartbeats 1000000 in
theorem icutp_yes (s p : ByteArray) (r : List UInt8) (w : World) (h : s.data.toList = p.data.toList ++ r) :
    Calls Tryd.prog 39 #[.string s, .string p] w fun e w' => e = .returned (.tuple #[.string ⟨r.toArray⟩, .bool true]) ∧ w' = w := by
  have H := fun (W : World) => Tryd.stringslite_HasPrefix s p W
  rw [h, hp_yes] at H
  have HO := Lib.hid H
  have hsz : p.size ≤ s.size := by rw [Lib.size_eq, Lib.size_eq, h, List.length_append]; omega
  have hr : s.extract p.size s.size = ⟨r.toArray⟩ := by
    refine bytes_of ?_
    rw [Lib.extract_to_end, h, Lib.size_eq, List.drop_left' rfl]
  have HR := Lib.hid hr
  clear H h hr
  go_enter Tryd.func39, Tryd.ntmps39
  go_wp2_with (go_at_call 49; refine (HO.out _).mono ?_; rintro e w1 ⟨rfl, rfl⟩)
  go_ret2
  exact ⟨by rw [HR.out]; rfl, rfl⟩
set_option maxHeartbeats 1000000 in
theorem icutp_no (s p : ByteArray) (w : World) (h : s.data.toList.take p.data.toList.length ≠ p.data.toList) :
    Calls Tryd.prog 39 #[.string s, .string p] w fun e w' => e = .returned (.tuple #[.string s, .bool false]) ∧ w' = w := by
  have H := fun (W : World) => Tryd.stringslite_HasPrefix s p W
  rw [hp_no h] at H
  have HO := Lib.hid H
  clear H h
  go_enter Tryd.func39, Tryd.ntmps39
  go_wp2_with (go_at_call 49; refine (HO.out _).mono ?_; rintro e w1 ⟨rfl, rfl⟩)
  go_ret2
  exact ⟨rfl, rfl⟩
set_option maxHeartbeats 1000000 in
/-- strings.CutPrefix, where the prefix is there -/
theorem cutp_yes (s p : ByteArray) (r : List UInt8) (w : World) (h : s.data.toList = p.data.toList ++ r) :
    Calls Tryd.prog 28 #[.string s, .string p] w fun e w' => e = .returned (.tuple #[.string ⟨r.toArray⟩, .bool true]) ∧ w' = w := by
  have HO := Lib.hid (fun (W : World) => icutp_yes s p r W h)
  clear h
  go_enter Tryd.func28, Tryd.ntmps28
  go_wp2_with (go_at_call 39; refine (HO.out _).mono ?_; rintro e w1 ⟨rfl, rfl⟩)
  go_ret2
  exact ⟨rfl, rfl⟩
set_option maxHeartbeats 1000000 in
/-- strings.CutPrefix, where the prefix is not there -/
theorem cutp_no (s p : ByteArray) (w : World) (h : s.data.toList.take p.data.toList.length ≠ p.data.toList) :
    Calls Tryd.prog 28 #[.string s, .string p] w fun e w' => e = .returned (.tuple #[.string s, .bool false]) ∧ w' = w := by
  have HO := Lib.hid (fun (W : World) => icutp_no s p W h)
  clear h
  go_enter Tryd.func28, Tryd.ntmps28
  go_wp2_with (go_at_call 39; refine (HO.out _).mono ?_; rintro e w1 ⟨rfl, rfl⟩)
  go_ret2
  exact ⟨rfl, rfl⟩

/-- a field, what is behind it, and no error; or the error -/
def fieldV (o : Option (List UInt8 × List UInt8)) : Value := match o with
  | some p => .tuple #[.string ⟨p.1.toArray⟩, .string ⟨p.2.toArray⟩, .int .i64 0]
  | none => .tuple #[.string ⟨#[]⟩, .string ⟨#[]⟩, .int .i64 19]
theorem fieldV_some {o : Option (List UInt8 × List UInt8)} {x r : List UInt8} (h : o = some (x, r)) : fieldV o = .tuple #[.string ⟨x.toArray⟩, .string ⟨r.toArray⟩, .int .i64 0] := by subst h; rfl
theorem fieldV_none {o : Option (List UInt8 × List UInt8)} (h : o = none) : fieldV o = .tuple #[.string ⟨#[]⟩, .string ⟨#[]⟩, .int .i64 19] := by subst h; rfl
/-- how the loop stands: out behind, t ahead -/
def UGoes (l t out : List UInt8) : Prop := unq l = (unq t).map fun x => (out ++ x.1, x.2)
theorem UGoes.start (l : List UInt8) : UGoes l l [] := by unfold UGoes; cases unq l <;> rfl
theorem UGoes.bad {l t out : List UInt8} (h : UGoes l t out) (hn : ∀ c ∈ t, c ≠ 34) : unq l = none := by
  have := unq_run t [] hn
  rw [List.append_nil, unq_nil] at this
  unfold UGoes at h
  rw [h, this]
  rfl
theorem UGoes.stop {l t out p r : List UInt8} (h : UGoes l t out) (ht : t = p ++ 34 :: r) (hn : ∀ c ∈ p, c ≠ 34) (hr : r.take 1 ≠ [34]) : unq l = some (out ++ p, r) := by
  have h1 : unq (34 :: r) = some ([], r) := by
    cases r with
    | nil => exact unq_end
    | cons c u => exact unq_stop u (fun e => hr (by rw [e]; rfl))
  unfold UGoes at h
  rw [h, ht, unq_run p _ hn, h1]
  simp
theorem UGoes.step {l t out p u : List UInt8} (h : UGoes l t out) (ht : t = p ++ 34 :: 34 :: u) (hn : ∀ c ∈ p, c ≠ 34) : UGoes l u (out ++ p ++ [34]) := by
  unfold UGoes at h ⊢
  rw [h, ht, unq_run p _ hn, unq_two]
  cases unq u <;> simp
def strLenQ : Value → Nat
  | .string t => t.size
  | _ => 0
theorem strLenQ_string (t : ByteArray) : strLenQ (.string t) = t.size := rfl

set_option maxHeartbeats 4000000 in
set_option maxRecDepth 100000 in
theorem unquoted_any (s : ByteArray) (w : World) (hM : MaxL w) (hs : s.size < 4000000000) :
    Calls Tryd.prog 37 #[.string s] w fun e w' => e = .returned (fieldV (unq s.data.toList)) ∧ Below w.heap.size w w' := by
  have HNone := Lib.hid (fun h => fieldV_none (o := unq s.data.toList) h)
  have HSome := Lib.hid (fun x r h => fieldV_some (o := unq s.data.toList) (x := x) (r := r) h)
  have hMB : 2 < w.heap.size := by obtain ⟨m, hm⟩ := hM; exact World.block_lt_of_cell? _ _ hm
  have HM := Lib.hid (fun (W : World) (hb : Below w.heap.size w W) => hM.belowB hb hMB)
  have B0 := Bld.start w
  have D0 : Below w.heap.size w (w.alloc (.cells #[.pointer none, .slice none 0 0] 47)) := (Below.refl _ _).alloc (Nat.le_refl _) _
  obtain ⟨b, hb⟩ : ∃ b, w.heap.size = b := ⟨_, rfl⟩
  rw [hb] at B0 D0 HM
  have HB := Lib.hid hb
  clear hMB
  go_enter Tryd.func37, Tryd.ntmps37
  go_wp2_with fail
  go_loopw [0] (fun tv wr => ∃ (t : ByteArray) (out : List UInt8), tv = .string t ∧ t.size ≤ s.size ∧ out.length + t.size ≤ s.size ∧ Hid (UGoes s.data.toList t.data.toList out) ∧ Bld b (b + 1) out wr ∧ Below b w wr) (fun tv _ => strLenQ tv)
  case atStart => exact ⟨s, [], rfl, Nat.le_refl _, by simp, UGoes.start _, B0, D0⟩
  case round =>
    obtain ⟨t, out, rfl, hts, hout, hgo, hbld, hbw⟩ := hrel
    have hsw := hbw.size
    obtain ⟨mx, hmx⟩ := HM.out wr hbw
    have HC := Tryd.strings_Cut t ⟨#[34]⟩ mx wr (by omega) hmx
    rw [show (⟨#[34]⟩ : ByteArray).data.toList = [34] from rfl] at HC
    have hbC := hbld.lt
    rcases cut_one 34 t.data.toList with ⟨h1, h2⟩ | ⟨p, r, h1, h2, h3⟩
    · rw [h1] at HC
      have et : (⟨t.data.toList.toArray⟩ : ByteArray) = t := rfl
      simp only at HC
      rw [et] at HC
      have HCO := Lib.hid HC
      have HF := Lib.hid (HNone.out (hgo.out.bad h2))
      clear h1 h2 HC et hmx
      go_wp2_with fail
      refine HCO.out.mono ?_
      rintro e w4 ⟨rfl, nd, rfl⟩
      have d4 : Below b w (wr.drewN nd) := hbw.trans ((below_drewNP wr nd).mono (by omega))
      clear hbld hbw
      go_wp2_with fail
      go_ret3
      exact ⟨by rw [HF.out]; rfl, by rw [HB.out]; exact d4⟩
    · rw [h3] at HC
      simp only at HC
      obtain ⟨P, hP⟩ : ∃ P : ByteArray, ⟨p.toArray⟩ = P := ⟨_, rfl⟩
      obtain ⟨R, hR⟩ : ∃ R : ByteArray, ⟨r.toArray⟩ = R := ⟨_, rfl⟩
      have hPl : Hid (P.data.toList = p) := by unfold Hid; rw [← hP]
      have hRl : Hid (R.data.toList = r) := by unfold Hid; rw [← hR]
      have hsum : P.size + R.size + 1 = t.size := by
        rw [Lib.size_eq, Lib.size_eq, Lib.size_eq, hPl.out, hRl.out, h1, List.length_append, List.length_cons]; omega
      have HW := Lib.hid (fun (W : World) h => bld_string b (b + 1) out P W h (by omega))
      rw [hPl.out] at HW
      rw [hP, hR] at HC
      have HCO := Lib.hid HC
      by_cases hq : r.take 1 = [34]
      · obtain ⟨u, rfl⟩ : ∃ u, r = 34 :: u := by
          cases r with
          | nil => simp at hq
          | cons c u => simp at hq; exact ⟨u, by rw [hq]⟩
        obtain ⟨U, hU⟩ : ∃ U : ByteArray, ⟨u.toArray⟩ = U := ⟨_, rfl⟩
        have hUl : U.data.toList = u := by rw [← hU]
        have hUs : U.size + 1 = R.size := by rw [Lib.size_eq, Lib.size_eq, hUl, hRl.out, List.length_cons]
        have HP := fun (W : World) => cutp_yes R ⟨#[34]⟩ u W (by rw [hRl.out]; rfl)
        rw [hU] at HP
        have HPO := Lib.hid HP
        have hps : p.length = P.size := by rw [Lib.size_eq, hPl.out]
        have HW2 := Lib.hid (fun (W : World) h => bld_string b (b + 1) (out ++ p) ⟨#[34]⟩ W h (by rw [List.length_append, show (⟨#[34]⟩ : ByteArray).size = 1 from rfl]; omega))
        have HG : Hid (UGoes s.data.toList U.data.toList (out ++ p ++ [34])) := by unfold Hid; rw [hUl]; exact hgo.out.step h1 h2
        have HLen : Hid ((out ++ p ++ [34]).length + U.size ≤ s.size) := by unfold Hid; simp only [List.length_append, List.length_singleton]; omega
        have hUt : U.size < t.size := by omega
        clear HC h1 h2 h3 hP hR hmx hq hU hUl HP hps hUs
        go_wp2_with fail
        refine HCO.out.mono ?_
        rintro e w4 ⟨rfl, nd, rfl⟩
        have bl4 : Bld b (b + 1) out (wr.drewN nd) := hbld.below (below_drewNP wr nd)
        have d4 : Below b w (wr.drewN nd) := hbw.trans ((below_drewNP wr nd).mono (by omega))
        clear hbld hbw
        go_wp2_with fail
        refine (HW.out _ bl4).mono ?_
        rintro e w5 ⟨rfl, bl5, t5⟩
        have d5 := d4.trans t5.below
        clear bl4 d4 t5
        go_wp2_with fail
        refine (HPO.out _).mono ?_
        rintro e w6 ⟨rfl, rfl⟩
        go_wp2_with fail
        refine (HW2.out _ bl5).mono ?_
        rintro e w7 ⟨rfl, bl7, t7⟩
        go_wp2_with fail
        go_roundw
        case rel => exact ⟨U, _, rfl, by omega, HLen.out, HG, bl7, d5.trans t7.below⟩
        case measure => simp [strLenQ]; omega
      · have HF := Lib.hid (HSome.out _ _ (hgo.out.stop h1 h2 hq))
        rw [hR] at HF
        have HPO := Lib.hid (fun (W : World) => cutp_no R ⟨#[34]⟩ W (by rw [hRl.out]; exact hq))
        have HST := Lib.hid (fun (W : World) h => bld_String b (b + 1) (out ++ p) W h)
        clear HC h1 h2 h3 hP hR hmx hq
        go_wp2_with fail
        refine HCO.out.mono ?_
        rintro e w4 ⟨rfl, nd, rfl⟩
        have bl4 : Bld b (b + 1) out (wr.drewN nd) := hbld.below (below_drewNP wr nd)
        have d4 : Below b w (wr.drewN nd) := hbw.trans ((below_drewNP wr nd).mono (by omega))
        clear hbld hbw
        go_wp2_with fail
        refine (HW.out _ bl4).mono ?_
        rintro e w5 ⟨rfl, bl5, t5⟩
        have d5 := d4.trans t5.below
        clear bl4 d4 t5
        go_wp2_with fail
        refine (HPO.out _).mono ?_
        rintro e w6 ⟨rfl, rfl⟩
        go_wp2_with fail
        refine (HST.out _ bl5).mono ?_
        rintro e w7 ⟨rfl, b7⟩
        go_wp2_with fail
        go_ret3
        exact ⟨by rw [HF.out]; rfl, by rw [HB.out]; exact d5.trans b7⟩

/-- where the first special sign is -/
theorem index_spc : ∀ l : List UInt8, (Lib.indexAny l [44, 34, 13, 10] = -1 ∧ l.takeWhile (fun b => !spc b) = l ∧ l.dropWhile (fun b => !spc b) = []) ∨
    ∃ i : Nat, Lib.indexAny l [44, 34, 13, 10] = i ∧ i < l.length ∧ l.takeWhile (fun b => !spc b) = l.take i ∧ l.dropWhile (fun b => !spc b) = l.drop i
  | [] => .inl ⟨rfl, rfl, rfl⟩
  | b :: l => by
    have hc : ([44, 34, 13, 10] : List UInt8).contains b = spc b := by
      unfold spc
      simp only [List.contains_cons, List.contains_nil, Bool.or_false, Bool.or_assoc]
    by_cases h : spc b = true
    · right
      refine ⟨0, ?_, by simp, ?_, ?_⟩
      · unfold Lib.indexAny
        rw [hc, if_pos h]
        try rfl
      · simp [h]
      · simp [h]
    · have hf : spc b = false := by simpa using h
      rcases index_spc l with ⟨h1, h2, h3⟩ | ⟨i, h1, h2, h3, h4⟩
      · left
        refine ⟨?_, ?_, ?_⟩
        · unfold Lib.indexAny
          rw [hc, hf, h1]
          rfl
        · simp [hf, h2]
        · simp [hf, h3]
      · right
        refine ⟨i + 1, ?_, by simpa using h2, ?_, ?_⟩
        · unfold Lib.indexAny
          rw [hc, hf, h1]
          have : ((i : Int) == -1) = false := by simp
          rw [this]
          simp
        · simp [hf, h3]
        · simp [hf, h4]

set_option maxHeartbeats 4000000 in
set_option maxRecDepth 100000 in
theorem firstField_any (s : ByteArray) (w : World) (hM : MaxL w) (hs : s.size < 4000000000) :
    Calls Tryd.prog 27 #[.string s] w fun e w' => e = .returned (fieldV (field s.data.toList)) ∧ Below w.heap.size w w' := by
  by_cases hq : s.data.toList.take 1 = [34]
  · obtain ⟨u, hu⟩ : ∃ u, s.data.toList = 34 :: u := by
      generalize s.data.toList = l at hq
      cases l with
      | nil => simp at hq
      | cons c u => simp at hq; exact ⟨u, by rw [hq]⟩
    obtain ⟨U, hU⟩ : ∃ U : ByteArray, ⟨u.toArray⟩ = U := ⟨_, rfl⟩
    have hUl : U.data.toList = u := by rw [← hU]
    have hUs : U.size + 1 = s.size := by rw [Lib.size_eq, Lib.size_eq, hUl, hu, List.length_cons]
    have HP := fun (W : World) => cutp_yes s ⟨#[34]⟩ u W (by rw [hu]; rfl)
    rw [hU] at HP
    have HPO := Lib.hid HP
    have HQ := unquoted_any U w hM (by omega)
    rw [hUl] at HQ
    rw [hu, field_quote]
    clear hq hu hU hUl HP hM
    cases ho : unq u with
    | none =>
      rw [ho, fieldV_none rfl] at HQ
      rw [fieldV_none rfl]
      have HQO := Lib.hid HQ
      clear HQ ho
      go_enter Tryd.func27, Tryd.ntmps27
      go_wp2_with fail
      refine (HPO.out _).mono ?_
      rintro e w6 ⟨rfl, rfl⟩
      go_wp2_with fail
      refine HQO.out.mono ?_
      rintro e w7 ⟨rfl, b7⟩
      go_wp2_with fail
      go_ret3
      exact ⟨rfl, b7⟩
    | some p =>
      obtain ⟨x, r⟩ := p
      rw [ho, fieldV_some rfl] at HQ
      rw [fieldV_some rfl]
      have HQO := Lib.hid HQ
      clear HQ ho
      go_enter Tryd.func27, Tryd.ntmps27
      go_wp2_with fail
      refine (HPO.out _).mono ?_
      rintro e w6 ⟨rfl, rfl⟩
      go_wp2_with fail
      refine HQO.out.mono ?_
      rintro e w7 ⟨rfl, b7⟩
      go_wp2_with fail
      go_ret3
      exact ⟨rfl, b7⟩
  · have HPO := Lib.hid (fun (W : World) => cutp_no s ⟨#[34]⟩ W hq)
    have HI := sindex_any s w (by omega)
    rw [field_plain hq]
    have hsz := Lib.hid (Lib.size_eq s)
    rcases index_spc s.data.toList with ⟨h1, h2, h3⟩ | ⟨i, h1, h2, h3, h4⟩
    · rw [h1] at HI
      rw [h2, h3]
      have HV : Hid (fieldV (some (s.data.toList, [])) = .tuple #[.string s, .string ByteArray.empty, .int .i64 0]) := rfl
      have HIO := Lib.hid HI
      clear HI h1 h2 h3 hM hq
      go_enter Tryd.func27, Tryd.ntmps27
      go_wp2_with fail
      refine (HPO.out _).mono ?_
      rintro e w6 ⟨rfl, rfl⟩
      go_wp2_with fail
      refine HIO.out.mono ?_
      rintro e w7 ⟨rfl, b7⟩
      go_wp2_with fail
      go_region
      all_goals
        go_wp2_with fail
        go_ret3
        exact ⟨by rw [HV.out]; rfl, b7.drew⟩
    · rw [h1] at HI
      rw [h3, h4]
      have hlt : i < s.size := by rw [hsz.out]; exact h2
      have e1 : (⟨(s.data.toList.take i).toArray⟩ : ByteArray) = s.extract 0 i := by
        refine (bytes_of ?_).symm
        rw [mid_cut, List.drop_zero, Nat.sub_zero]
      have e2 : (⟨(s.data.toList.drop i).toArray⟩ : ByteArray) = s.extract i s.size := (bytes_of (Lib.extract_to_end s i)).symm
      have HV : Hid (fieldV (some (s.data.toList.take i, s.data.toList.drop i)) = .tuple #[.string (s.extract 0 i), .string (s.extract i s.size), .int .i64 0]) := by
        unfold Hid
        rw [fieldV_some rfl, e1, e2]
      have HIO := Lib.hid HI
      clear HI h1 h2 h3 h4 e1 e2 hM hq
      go_enter Tryd.func27, Tryd.ntmps27
      go_wp2_with fail
      refine (HPO.out _).mono ?_
      rintro e w6 ⟨rfl, rfl⟩
      go_wp2_with fail
      refine HIO.out.mono ?_
      rintro e w7 ⟨rfl, b7⟩
      go_wp2_with fail
      go_region
      all_goals
        go_wp2_with fail
        go_ret3
        exact ⟨by rw [HV.out]; rfl, b7.drew⟩
end Go.Proofs.YtakfcfjamgaekaaDoor
