/- Texts laid together: TkT TkN -/
import Derived.Test.YtbkfmbkamocllaaGreatDoorTkF
/-
  package token: Tokens, at every text.
-/
namespace Go.Proofs.YtbkfmbkamocllaaGreatDoor
open Go.RowKit Tk

theorem manyA_count : ∀ (f : Nat) (xs : List Att) (l : List UInt8), (manyF nextA f xs l).1.length ≤ xs.length + l.length
  | 0, xs, l => Nat.le_add_right _ _
  | f + 1, xs, l => by
    unfold manyF
    cases e : nextA xs l with
    | none => exact Nat.le_add_right _ _
    | some p =>
      have h1 := shrinksA xs l p.1 p.2 e
      have h2 := manyA_count f (xs ++ [p.1]) p.2
      simp only [List.length_append, List.length_singleton] at h2
      simp only
      omega
theorem tok_attrs {l r : List UInt8} {t : Tok} (h : tokL l = some (t, r)) : t.2.2.2.1.length ≤ l.length := by
  rcases cases_tok l with ⟨x, rfl⟩ | ⟨x, rfl, hx⟩ | hx
  · rw [tok_close] at h
    unfold closeL at h
    split at h
    · cases h
    · split at h
      · cases h; simp
      · cases h
  · rw [tok_open hx] at h
    unfold openL at h
    split at h
    · cases h
    · have h1 := manyA_count ((nameL x).2.length + 1) [] (nameL x).2
      have h2 := name_len x
      have h3 : many nextA [] (nameL x).2 = manyF nextA ((nameL x).2.length + 1) [] (nameL x).2 := rfl
      rw [← h3] at h1
      simp only [List.length_nil] at h1
      simp only [List.length_cons]
      rcases ends_some h with ⟨_, rfl⟩ | ⟨_, rfl⟩
      · simp only; omega
      · simp only; omega
  · rw [tok_text hx] at h
    obtain ⟨_, _, x, _, rfl⟩ := text_some h
    simp
theorem manyT_attrs (n m : Nat) : ∀ (f : Nat) (xs : List TokA) (l : List UInt8), l.length ≤ m → (∀ t ∈ xs, t.2.2.2.2.1.length ≤ m) → ∀ t ∈ (manyF (nextT n) f xs l).1, t.2.2.2.2.1.length ≤ m
  | 0, xs, l, _, h => h
  | f + 1, xs, l, hl, h => by
    unfold manyF
    cases e : tokL l with
    | none => rw [nextT_none e]; exact h
    | some p =>
      rw [nextT_some (r := p.2) (t := p.1) e]
      have h1 := tok_len e
      refine manyT_attrs n m f _ _ (by simp only; omega) (fun t ht => ?_)
      rcases List.mem_append.1 ht with ht | ht
      · exact h t ht
      · rw [List.mem_singleton] at ht
        subst ht
        exact Nat.le_trans (tok_attrs e) hl
theorem manyT_count (n : Nat) : ∀ (f : Nat) (xs : List TokA) (l : List UInt8), (manyF (nextT n) f xs l).1.length ≤ xs.length + l.length
  | 0, xs, l => Nat.le_add_right _ _
  | f + 1, xs, l => by
    unfold manyF
    cases e : nextT n xs l with
    | none => exact Nat.le_add_right _ _
    | some p =>
      have h1 := shrinksT n xs l p.1 p.2 e
      have h2 := manyT_count n f (xs ++ [p.1]) p.2
      simp only [List.length_append, List.length_singleton] at h2
      simp only
      omega
theorem told_none {n : Nat} {p : List TokA × List UInt8} (h : p.1.find? great = none) : (p.2 = [] → told n p = (p.1, 0, 0)) ∧ (p.2 ≠ [] → told n p = ([], n - p.2.length, 5)) := by
  unfold told
  rw [h]
  exact ⟨fun e => by simp [e], fun e => by simp [e]⟩
theorem told_some {n : Nat} {p : List TokA × List UInt8} {t : TokA} (h : p.1.find? great = some t) : told n p = ([], t.1, 4) := by
  unfold told
  rw [h]
theorem drewN_below {B : Nat} {w w' : World} (h : Below B w w') (n : Nat) : Below B w (w'.drewN n) := ⟨h.os, h.tape, h.output, h.size, h.block⟩
theorem Tabs.low {w w0 : World} (h : Tabs w) (hb : Below w.heap.size w w0) : Tabs w0 := h.below hb
def headB : ByteArray := ⟨#[60, 63, 120, 109, 108, 32, 118, 101, 114, 115, 105, 111, 110, 61, 39, 49, 46, 48, 39, 32, 101, 110, 99, 111, 100, 105, 110, 103, 61, 39, 85, 84, 70, 45, 56, 39, 63, 62]⟩
theorem headB_list : headB.data.toList = headL := rfl
/-- what Tokens answers -/
def ToksOut (B : Nat) (o : List TokA × Nat × Nat) (e : Ending) (w' : World) : Prop := ∃ v, e = .returned (.tuple #[v, .int .i64 (o.2.1 : Nat), .int .i64 (o.2.2 : Nat)]) ∧ OwnK B w' v o.1
theorem ToksOut.err {B p q : Nat} {o : List TokA × Nat × Nat} {e : Ending} {w' : World} (h : o = ([], p, q)) (he : e = .returned (.tuple #[.slice none 0 0, .int .i64 p, .int .i64 q])) : ToksOut B o e w' := by
  subst h
  exact ⟨_, he, OwnK.nil _ _⟩
set_option maxHeartbeats 4000000 in
set_option maxRecDepth 100000 in
theorem tokens_any (s : ByteArray) (w : World) (hT : Tabs w) (hE : ErrS w) (hs : s.size < 4000000000) :
    Calls Tryz.prog 12 #[.string s] w fun e w' => ToksOut w.heap.size (tokensL s.data.toList) e w' ∧ Below w.heap.size w w' := by
  have HSZ := Lib.hid (Lib.size_eq s)
  by_cases hbig : 20000 < s.size
  · have HO : Hid (tokensL s.data.toList = ([], 0, 4)) := by unfold Hid tokensL; rw [if_pos (by rw [← Lib.size_eq]; exact hbig)]
    go_enter Tryz.func12, Tryz.ntmps12
    go_wp2_with fail
    refine bodyPost_ret (v := .tuple #[.slice none 0 0, .int .i64 0, .int .i64 4]) (by simp [results, Tryz.results12, go_sem]) rfl ⟨ToksOut.err HO.out rfl, Below.refl _ _⟩
  have HV := Lib.hid (valid_any s w hT (by omega))
  cases hv : Tx.valid s.data.toList with
  | false =>
    have HO : Hid (tokensL s.data.toList = ([], 0, 3)) := by unfold Hid tokensL; rw [if_neg (by rw [← Lib.size_eq]; exact hbig), hv]; rfl
    rw [hv] at HV
    clear hv
    go_enter Tryz.func12, Tryz.ntmps12
    go_wp2_with (go_at_call 24; refine HV.out.mono ?_; rintro e w1 ⟨rfl, b1⟩)
    refine bodyPost_ret (v := .tuple #[.slice none 0 0, .int .i64 0, .int .i64 3]) (by simp [results, Tryz.results12, go_sem]) rfl ⟨ToksOut.err HO.out rfl, b1⟩
  | true =>
    have HO : Hid (tokensL s.data.toList = told s.size (toksL s.data.toList)) := by unfold Hid tokensL; rw [if_neg (by rw [← Lib.size_eq]; exact hbig), hv, HSZ.out]; rfl
    rw [hv] at HV
    have HTab := Lib.hid hT
    have HErr := Lib.hid hE
    clear hv hT hE
    go_enter Tryz.func12, Tryz.ntmps12
    go_wp2_with (go_at_call 24; refine HV.out.mono ?_; rintro e w1 ⟨rfl, b1⟩)
    obtain ⟨T, hTe⟩ : ∃ T, w1.heap.size = T := ⟨_, rfl⟩
    obtain ⟨W2, hW2⟩ : ∃ W2, w1.alloc (.cells #[.string s, .int .i64 0] 58) = W2 := ⟨_, rfl⟩
    have hwT : w.heap.size ≤ T := by have := b1.size; omega
    have B2 : Hid (Below w.heap.size w W2) := by rw [← hW2]; exact b1.alloc (by omega) _
    have T2 : Hid (TX 58 W2 T s s.data.toList) := by rw [← hW2, ← hTe]; exact ⟨0, Nat.zero_le _, rfl, Bk.new _ _ _⟩
    have E2 : Hid (Env T W2) := by
      refine ⟨w1, ⟨HTab.out.below b1, HErr.out.below b1⟩, Nat.le_of_eq hTe, ?_⟩
      rw [← hW2]
      exact (Below.refl _ _).alloc (Nat.le_refl _) _
    have HO2 := Lib.hid (over_any T s headB s.data.toList W2 T2.out (by omega) (by show 38 ≤ 1000; omega))
    rw [headB_list] at HO2
    have HWT := Lib.hid hwT
    unfold headB at HO2
    clear b1 hwT
    rw [hTe, hW2]
    clear hW2 hTe
    refine HO2.out.mono ?_
    rintro e w3 ⟨rfl, t3, n3⟩
    have T3 := Lib.hid t3
    have E3 := Lib.hid (E2.out.tn n3 T2.out.lt)
    have B3 : Hid (Below w.heap.size w w3) := B2.out.trans (Tn.below (n3.mono (by have := T2.out.lt; have := HWT.out; omega)) HWT.out)
    clear t3 n3
    go_upto_region 8 with fail
    obtain ⟨G, hG⟩ : ∃ G, w3.heap.size = G := ⟨_, rfl⟩
    obtain ⟨W4, hW4⟩ : ∃ W4, w3.alloc (.cells #[.slice none 0 0] 60) = W4 := ⟨_, rfl⟩
    have hTG : T < G := by have := T3.out.lt; omega
    have G4 : Hid (Bk W4 G 60 #[.slice none 0 0]) := by rw [← hW4, ← hG]; exact Bk.new _ _ _
    have T4 : Hid (TX 58 W4 T s (over headL s.data.toList)) := by rw [← hW4]; exact T3.out.alloc _
    have E4 : Hid (Env T W4) := by rw [← hW4]; exact E3.out.tn ((Tn.refl _ _ _).alloc (Nat.le_refl _) _) T3.out.lt
    have B4 : Hid (Below w.heap.size w W4) := by rw [← hW4]; exact B3.out.alloc (by have := HWT.out; omega) _
    have HTH := Lib.hid (throughT_any T G s _ W4 T4.out (by omega) E4.out hTG G4.out)
    have HTG := Lib.hid hTG
    rw [hG, hW4]
    clear hG hW4 hTG
    go_wp2_with fail
    refine HTH.out.mono ?_
    rintro e w5 ⟨rfl, v, g5, o5, t5, n5⟩
    have HMT : Hid (many (nextT s.size) [] (over headL s.data.toList) = toksL s.data.toList) := by unfold Hid toksL; rw [HSZ.out]
    rw [HMT.out] at o5 t5
    obtain ⟨A, cap, rfl⟩ := o5.len
    have c5 : w5.cell? ⟨G, 0, none⟩ = some (.slice A (toksL s.data.toList).1.length cap) := g5.cell 0
    have T5 := Lib.hid t5
    have O5 := Lib.hid o5
    have B5 : Hid (Below w.heap.size w w5) := B4.out.trans (Tn.below (n5.mono (by have := HTG.out; have := HWT.out; omega)) HWT.out)
    have hov : (over headL s.data.toList).length ≤ s.size := T4.out.len
    have hcnt : (toksL s.data.toList).1.length ≤ 1000000000 := by
      have := manyT_count s.size ((over headL s.data.toList).length + 1) [] (over headL s.data.toList)
      rw [← HMT.out]
      simp only [List.length_nil] at this
      show (manyF _ _ _ _).1.length ≤ _
      omega
    have hatt : ∀ t ∈ (toksL s.data.toList).1, t.2.2.2.2.1.length ≤ 1000000000 := by
      rw [← HMT.out]
      exact manyT_attrs s.size 1000000000 _ [] _ (by omega) (fun t h => by cases h)
    have HIX := Lib.hid (indexT_any (.slice A (toksL s.data.toList).1.length cap) (toksL s.data.toList).1 w5 O5.out.reads hcnt hatt)
    have HG5 := Lib.hid g5
    obtain ⟨P, hP⟩ : ∃ P, toksL s.data.toList = P := ⟨_, rfl⟩
    rw [hP] at c5 T5 O5 HIX HO HG5
    have HCNT := Lib.hid hcnt
    rw [hP] at HCNT
    clear g5 o5 t5 n5 hov hcnt hatt HMT hP HTH
    go_wp2_with fail
    refine HIX.out.mono ?_
    rintro e w6 ⟨hres, b6⟩
    have T6 := Lib.hid (T5.out.below b6 T5.out.lt)
    have O6 := Lib.hid (O5.out.below b6)
    have B6 : Hid (Below w.heap.size w w6) := B5.out.trans (b6.mono B5.out.size)
    have c6 : w6.cell? ⟨G, 0, none⟩ = some (.slice A P.1.length cap) := (HG5.out.below b6 HG5.out.lt).cell 0
    clear b6 c5
    rcases hres with ⟨i, t, rfl, hit, hf⟩ | ⟨rfl, hf⟩
    · have HO2 : Hid (tokensL s.data.toList = ([], t.1, 4)) := by unfold Hid; rw [HO.out, told_some hf]
      have hil := (List.getElem?_eq_some_iff.1 hit).1
      obtain ⟨A', cap', e', hcap, _, hcells⟩ := O6.out.reads
      injection e' with e1 e2 e3
      subst e1 e3
      obtain ⟨g, o, rfl, hgl, hat⟩ := hcells (by omega)
      obtain ⟨u, ⟨_, k1, _⟩, _⟩ := hat i t hit
      have hlt : (i : Int) < (P.1.length : Int) := by omega
      have hdec : decide ((i : Int) ≥ 0) = true := decide_eq_true (by omega)
      have hib : i < 1000000000 := by have := HCNT.out; omega
      clear hit hf hcells hat e2 hcap hgl
      go_wp2_with fail
      go_quiet (fail)
      go_wp2_with fail
      refine bodyPost_ret (v := .tuple #[.slice none 0 0, .int .i64 t.1, .int .i64 4]) (by simp [results, Tryz.results12, go_sem]) rfl ⟨ToksOut.err HO2.out rfl, drewN_below B6.out _⟩
    · obtain ⟨k, hk, hlk, hbk, hkl⟩ := T6.out.at
      have c1 : w6.cell? ⟨T, 1, none⟩ = some (.int .i64 k) := hbk.cell 1
      obtain ⟨h0, h1⟩ := told_none (n := s.size) hf
      by_cases hlt : k < s.size
      · have HO2 : Hid (tokensL s.data.toList = ([], k, 5)) := by
          unfold Hid
          rw [HO.out, h1 (by rw [hlk]; exact Tx.drop_ne (by rw [← HSZ.out]; exact hlt)), hkl]
        have gB : decide ((k : Int) < (s.size : Int)) = true := decide_eq_true (by omega)
        clear hlk hbk hkl h0 h1 hf
        go_wp2_with fail
        go_quiet (fail)
        go_wp2_with fail
        refine bodyPost_ret (v := .tuple #[.slice none 0 0, .int .i64 k, .int .i64 5]) (by simp [results, Tryz.results12, go_sem]) rfl ⟨ToksOut.err HO2.out rfl, drewN_below B6.out _⟩
      · have HO2 : Hid (tokensL s.data.toList = (P.1, 0, 0)) := by
          unfold Hid
          rw [HO.out, h0 (by rw [hlk]; exact List.drop_eq_nil_of_le (by rw [← HSZ.out]; omega))]
        have gB : decide ((k : Int) < (s.size : Int)) = false := decide_eq_false (by omega)
        clear hlk hbk hkl h0 h1 hf
        go_wp2_with fail
        refine bodyPost_ret (v := .tuple #[.slice A P.1.length cap, .int .i64 0, .int .i64 0]) (by simp [results, Tryz.results12, go_sem]) rfl ⟨⟨_, by rw [HO2.out]; rfl, ?_⟩, B6.out⟩
        rw [HO2.out]
        exact O6.out.weak (by have := HTG.out; have := HWT.out; omega)
end Go.Proofs.YtbkfmbkamocllaaGreatDoor
/-
  How many tokens there may be, and how many attributes each.
-/
namespace Go.Proofs.YtbkfmbkamocllaaGreatDoor
open Go.RowKit Tk

theorem _root_.Go.RowKit.Below.drewN {B : Nat} {w w' : World} (h : Below B w w') (n : Nat) : Below B w (w'.drewN n) := ⟨h.os, h.tape, h.output, h.size, h.block⟩
theorem toks_count (l : List UInt8) (h : l.length ≤ 100000) : (tokensL l).1.length ≤ 100000 := by
  unfold tokensL
  split
  · simp
  split
  · unfold told
    split
    · simp
    · split
      · have h1 := manyT_count l.length ((over headL l).length + 1) [] (over headL l)
        have h2 : (over headL l).length ≤ l.length := by
          unfold over
          split
          · rw [List.length_drop]; omega
          · exact Nat.le_refl _
        simp only [List.length_nil] at h1
        unfold toksL
        show (manyF _ _ _ _).1.length ≤ _
        omega
      · simp
  · simp
theorem toks_attrs (l : List UInt8) (h : l.length ≤ 100000) : ∀ t ∈ (tokensL l).1, t.2.2.2.2.1.length ≤ 100000 := by
  unfold tokensL
  split
  · simp
  split
  · unfold told
    split
    · simp
    · split
      · have h2 : (over headL l).length ≤ l.length := by
          unfold over
          split
          · rw [List.length_drop]; omega
          · exact Nat.le_refl _
        exact manyT_attrs l.length 100000 _ [] _ (by omega) (fun t h => by cases h)
      · simp
  · simp
end Go.Proofs.YtbkfmbkamocllaaGreatDoor
