/-
  csv's row: (*list[string]).take, csv.firstRow: what they answer, at every string.
-/
import Derived.Test.YtakfcfjamgaekaaDoorCsvW
import Derived.Test.YtakfcfjamgaekaaDoorGrid
namespace Go.Proofs.YtakfcfjamgaekaaDoor
open Go.RowKit Tx

/-- what a walk asks of a block of two words -/
theorem words2 {b : Nat} {t : TypeId} {p v : Value} {w : World} (h : Bk w b t #[p, v]) : w.cell? ⟨b, 0, none⟩ = some p ∧ w.cell? ⟨b, 1, none⟩ = some v ∧ w.frozen? ⟨b, 0, none⟩ = false ∧ w.frozen? ⟨b, 1, none⟩ = false :=
  ⟨h.cell 0, h.cell 1, h.free 0, h.free 1⟩
theorem OwnT.stored {B g : Nat} {w : World} {v : Value} {x : List ByteArray} (h : OwnT B w v x) (hg : g < B) (o : Nat) (u : Value) : OwnT B (w.setCell ⟨g, o, none⟩ u) v x := by
  have h' : w.ownsRow B 9 1 v x.length (strs x) := h
  refine h'.kept (w' := w.setCell ⟨g, o, none⟩ u) (row := Option.some g) (grown_set u) ?_
  cases ho : v.ownBlock with
  | none => exact .inl rfl
  | some j => exact .inr (fun e => by have := (h'.lt j ho).1; injection e with e; omega)
theorem Bk.put0 {w : World} {g : Nat} {t : TypeId} {a b : Value} (h : Bk w g t #[a, b]) (u : Value) : Bk (w.setCell ⟨g, 0, none⟩ u) g t #[u, b] := by
  have := h.put 0 u
  simpa using this
theorem below_set {B g : Nat} {w w' : World} (h : Below B w w') (hg : B ≤ g) (o : Nat) (u : Value) : Below B w (w'.setCell ⟨g, o, none⟩ u) :=
  ⟨h.os, h.tape, h.output, by simp [World.setCell]; exact h.size, fun k hk => by rw [Below.heap_setCell _ _ _ _ (fun e => by simp only at e; omega)]; exact h.block k hk⟩

/-- a list of strings, at block b: at most 30 of them -/
def Lst (b : Nat) (w : World) (xs : List ByteArray) : Prop := ∃ v, Bk w b 66 #[v, .int .i64 30] ∧ OwnT (b + 1) w v xs
theorem Lst.below {b : Nat} {w w' : World} {xs : List ByteArray} (h : Lst b w xs) (hb : Below w.heap.size w w') : Lst b w' xs := by
  obtain ⟨v, h1, h2⟩ := h
  exact ⟨v, h1.below hb h1.lt, h2.below hb⟩
theorem Lst.lt {b : Nat} {w : World} {xs : List ByteArray} (h : Lst b w xs) : b < w.heap.size := by
  obtain ⟨v, h1, _⟩ := h
  exact h1.lt
set_option maxHeartbeats 1000000 in
theorem take1_full (b : Nat) (xs : List ByteArray) (s : ByteArray) (w : World) (h : Lst b w xs) (hn : xs.length = 30) :
    Calls Tryd.prog 26 #[.pointer (some ⟨b, 0, none⟩), .string s, .func (.func 27) #[] #[]] w fun e w' =>
      e = .returned (.tuple #[.string ⟨#[]⟩, .int .i64 4]) ∧ Below w.heap.size w w' := by
  obtain ⟨v, h1, h2⟩ := h
  obtain ⟨A, cap, rfl⟩ := h2.slice
  rw [hn] at h1
  obtain ⟨c0, c1, f0, f1⟩ := words2 h1
  clear h1 h2 hn
  go_enter Tryd.func26, Tryd.ntmps26
  go_wp2_with fail
  go_region
  all_goals
    go_wp2_with fail
    go_ret2
    exact ⟨rfl, (Below.refl _ _).drew⟩
set_option maxHeartbeats 1000000 in
theorem take1_err (b : Nat) (xs : List ByteArray) (s : ByteArray) (w : World) (h : Lst b w xs) (hn : xs.length < 30) (hM : MaxL w) (hs : s.size < 4000000000) (hf : field s.data.toList = none) :
    Calls Tryd.prog 26 #[.pointer (some ⟨b, 0, none⟩), .string s, .func (.func 27) #[] #[]] w fun e w' =>
      e = .returned (.tuple #[.string ⟨#[]⟩, .int .i64 19]) ∧ Below w.heap.size w w' := by
  obtain ⟨v, h1, h2⟩ := h
  obtain ⟨A, cap, rfl⟩ := h2.slice
  obtain ⟨c0, c1, f0, f1⟩ := words2 h1
  have hne : (((xs.length : Nat) : Int) == 30) = false := by simp; omega
  have HF := firstField_any s w.drew (hM.below (Below.refl w.heap.size w).drew) hs
  rw [hf, fieldV_none rfl] at HF
  have HFO := Lib.hid HF
  clear h1 h2 hn HF hf hM
  go_enter Tryd.func26, Tryd.ntmps26
  go_wp2_with fail
  go_region
  all_goals
    go_wp2_with fail
    refine HFO.out.mono ?_
    rintro e w1 ⟨rfl, b1⟩
    go_wp2_with fail
    go_ret2
    exact ⟨rfl, ((Below.refl w.heap.size w).drew).trans b1⟩
set_option maxHeartbeats 2000000 in
theorem take1_ok (b : Nat) (xs : List ByteArray) (s : ByteArray) (x r : List UInt8) (w : World) (h : Lst b w xs) (hn : xs.length < 30) (hM : MaxL w) (hs : s.size < 4000000000) (hf : field s.data.toList = some (x, r)) :
    Calls Tryd.prog 26 #[.pointer (some ⟨b, 0, none⟩), .string s, .func (.func 27) #[] #[]] w fun e w' =>
      e = .returned (.tuple #[.string ⟨r.toArray⟩, .int .i64 0]) ∧ Lst b w' (xs ++ [⟨x.toArray⟩]) ∧ Below b w w' := by
  have hlt := h.lt
  have h0 := h
  obtain ⟨v, h1, h2⟩ := h
  obtain ⟨A, cap, rfl⟩ := h2.slice
  obtain ⟨c0, c1, f0, f1⟩ := words2 h1
  have hne : (((xs.length : Nat) : Int) == 30) = false := by simp; omega
  have HF := firstField_any s w.drew (hM.below (Below.refl w.heap.size w).drew) hs
  rw [hf, fieldV_some rfl] at HF
  obtain ⟨X, hX⟩ : ∃ X : ByteArray, ⟨x.toArray⟩ = X := ⟨_, rfl⟩
  rw [hX] at HF ⊢
  have HFO := Lib.hid HF
  have H0 := Lib.hid h2
  have H1 := Lib.hid h1
  clear h1 h2 h0 HF hf hM hX
  go_enter Tryd.func26, Tryd.ntmps26
  go_wp2_with fail
  go_region
  all_goals
    go_wp2_with fail
    refine HFO.out.mono ?_
    rintro e w1 ⟨rfl, b1⟩
    have b2 : Below w.heap.size w w1 := ((Below.refl w.heap.size w).drew).trans b1
    have k1 := H1.out.below b2 hlt
    have K2 := Lib.hid (H0.out.below b2)
    obtain ⟨d0, d1, g0, g1⟩ := words2 k1
    have K1 := Lib.hid k1
    have hsz := b2.size
    have hn2 : xs.length ≤ 1000000000000 := by omega
    clear k1 b1
    go_wp2_with (at_builtin; refine push_str rfl _ _ rfl (b + 1) (.slice A xs.length cap) xs X w1 rfl K2.out rfl hn2 (by omega) ?_)
    intro v' w2 h3 h4
    have k2 := K1.out.below h4 (Nat.lt_succ_self b)
    obtain ⟨e0, e1, i0, i1⟩ := words2 k2
    obtain ⟨A2, cap2, hv⟩ := h3.slice
    rw [List.length_append, List.length_singleton] at hv
    subst hv
    have K3 := Lib.hid (show Lst b (w2.setCell ⟨b, 0, none⟩ (.slice A2 (xs.length + 1) cap2)) (xs ++ [X]) from ⟨_, k2.put0 _, h3.stored (Nat.lt_succ_self b) 0 _⟩)
    have K4 := Lib.hid (below_set ((b2.mono (Nat.le_of_lt hlt)).trans (h4.mono (Nat.le_succ b))) (Nat.le_refl b) 0 (.slice A2 (xs.length + 1) cap2))
    clear h3 h4 k2 d0 d1 g0 g1 c0 c1 f0 f1
    go_wp2_with fail
    go_ret2
    exact ⟨rfl, K3.out, K4.out⟩

/-! ### rows -/
def pre {α β : Type} (xs : List α) : Except Int (List α × β) → Except Int (List α × β)
  | .ok p => .ok (xs ++ p.1, p.2)
  | .error e => .error e
theorem pre_nil {α β : Type} (o : Except Int (List α × β)) : pre [] o = o := by cases o <;> rfl
theorem pre_onto {α β : Type} (xs : List α) (x : α) (o : Except Int (List α × β)) : pre xs (onto x o) = pre (xs ++ [x]) o := by
  cases o with
  | error e => rfl
  | ok p => simp [pre, onto]
/-- how the loop stands: the fields xs behind, t ahead -/
def RGoes (l t : List UInt8) (xs : List (List UInt8)) : Prop := row 30 l = pre xs (row (30 - xs.length) t)
theorem RGoes.start (l : List UInt8) : RGoes l l [] := by
  unfold RGoes
  rw [pre_nil]
  rfl
theorem RGoes.full {l t : List UInt8} {xs : List (List UInt8)} (h : RGoes l t xs) (hn : xs.length = 30) : row 30 l = .error 4 := by
  unfold RGoes at h
  rw [h, hn]
  rfl
theorem room_succ {n : Nat} (h : n < 30) : 30 - n = (30 - (n + 1)) + 1 := by omega
theorem RGoes.bad {l t : List UInt8} {xs : List (List UInt8)} (h : RGoes l t xs) (hn : xs.length < 30) (hf : field t = none) : row 30 l = .error 19 := by
  unfold RGoes at h
  rw [h, room_succ hn, row_none hf]
  rfl
theorem RGoes.odd {l t x r : List UInt8} {xs : List (List UInt8)} (h : RGoes l t xs) (hn : xs.length < 30) (hf : field t = some (x, r)) (h0 : r ≠ []) (h1 : r.take 2 ≠ [13, 10]) (h2 : r.take 1 ≠ [44]) : row 30 l = .error 19 := by
  unfold RGoes at h
  rw [h, room_succ hn, row_some hf, if_neg h0, if_neg h1, if_neg h2]
  rfl
theorem RGoes.last {l t x : List UInt8} {xs : List (List UInt8)} (h : RGoes l t xs) (hn : xs.length < 30) (hf : field t = some (x, [])) : row 30 l = .ok (xs ++ [x], []) := by
  unfold RGoes at h
  rw [h, room_succ hn, row_some hf, if_pos rfl]
  rfl
theorem RGoes.stop {l t x u : List UInt8} {xs : List (List UInt8)} (h : RGoes l t xs) (hn : xs.length < 30) (hf : field t = some (x, 13 :: 10 :: u)) : row 30 l = .ok (xs ++ [x], u) := by
  unfold RGoes at h
  rw [h, room_succ hn, row_some hf, if_neg (by simp), if_pos (show List.take 2 (13 :: 10 :: u) = [13, 10] from rfl)]
  rfl
theorem RGoes.step {l t x u : List UInt8} {xs : List (List UInt8)} (h : RGoes l t xs) (hn : xs.length < 30) (hf : field t = some (x, 44 :: u)) : RGoes l u (xs ++ [x]) := by
  unfold RGoes at h ⊢
  rw [h, room_succ hn, row_some hf, if_neg (by simp), if_neg (by simp), if_pos (show List.take 1 (44 :: u) = [44] from rfl), pre_onto, List.length_append, List.length_singleton]
  rfl
/-- what a row's reading answers -/
def RowOut (o : Except Int (List (List UInt8) × List UInt8)) (B : Nat) (e : Ending) (w' : World) : Prop := match o with
  | .error k => e = .returned (.tuple #[.slice none 0 0, .string ⟨#[]⟩, .int .i64 k])
  | .ok p => ∃ u, e = .returned (.tuple #[u, .string ⟨p.2.toArray⟩, .int .i64 0]) ∧ OwnT B w' u (sts p.1)
theorem RowOut.err {o : Except Int (List (List UInt8) × List UInt8)} {B : Nat} {e : Ending} {w' : World} {k : Int} (h : o = .error k) : RowOut o B e w' ↔ e = .returned (.tuple #[.slice none 0 0, .string ⟨#[]⟩, .int .i64 k]) := by subst h; exact Iff.rfl
theorem RowOut.ok {o : Except Int (List (List UInt8) × List UInt8)} {B : Nat} {e : Ending} {w' : World} {xs : List (List UInt8)} {r : List UInt8} (h : o = .ok (xs, r)) : RowOut o B e w' ↔ ∃ u, e = .returned (.tuple #[u, .string ⟨r.toArray⟩, .int .i64 0]) ∧ OwnT B w' u (sts xs) := by subst h; exact Iff.rfl

set_option maxHeartbeats 4000000 in
set_option maxRecDepth 100000 in
theorem firstRow_any (s : ByteArray) (w : World) (hM : MaxL w) (hs : s.size < 4000000000) :
    Calls Tryd.prog 15 #[.string s] w fun e w' => RowOut (row 30 s.data.toList) w.heap.size e w' ∧ Below w.heap.size w w' := by
  have HErr := Lib.hid (fun k B e w' h => RowOut.err (o := row 30 s.data.toList) (k := k) (B := B) (e := e) (w' := w') h)
  have HOk := Lib.hid (fun xs r B e w' h => RowOut.ok (o := row 30 s.data.toList) (xs := xs) (r := r) (B := B) (e := e) (w' := w') h)
  have hMB : 2 < w.heap.size := by obtain ⟨m, hm⟩ := hM; exact World.block_lt_of_cell? _ _ hm
  have HM := Lib.hid (fun (W : World) (hb : Below w.heap.size w W) => hM.belowB hb hMB)
  obtain ⟨b, hb⟩ : ∃ b, w.heap.size = b := ⟨_, rfl⟩
  rw [hb] at HM
  have HB := Lib.hid hb
  clear hMB
  go_enter Tryd.func15, Tryd.ntmps15
  go_wp2_with fail
  go_loopw [0] (fun tv wr => ∃ (t : ByteArray) (xs : List (List UInt8)), tv = .string t ∧ t.size ≤ s.size ∧ Hid (RGoes s.data.toList t.data.toList xs) ∧ xs.length ≤ 30 ∧ Lst b wr (sts xs) ∧ Below b w wr) (fun tv _ => strLenQ tv)
  case atStart =>
    have hbe := HB.out
    subst hbe
    exact ⟨s, [], rfl, Nat.le_refl _, RGoes.start _, by decide, ⟨_, Bk.new w _ _, OwnT.nil _ _⟩, (Below.refl _ _).alloc (Nat.le_refl _) _⟩
  case round =>
    obtain ⟨t, xs, rfl, hts, hgo, hxs, hl, hbw⟩ := hrel
    have hsw := hbw.size
    have hM2 := HM.out wr hbw
    by_cases hn : xs.length = 30
    · have HT := Lib.hid (take1_full b (sts xs) t wr hl (by rw [sts_len]; exact hn))
      have HF := Lib.hid (fun B e w' => (HErr.out 4 B e w' (hgo.out.full hn)).2)
      clear hl
      go_wp2_with fail
      refine HT.out.mono ?_
      rintro e w4 ⟨rfl, b4⟩
      have d4 : Below b w w4 := hbw.trans (b4.mono (by omega))
      clear hbw b4
      go_wp2_with fail
      go_ret3
      exact ⟨HF.out _ _ _ rfl, by rw [HB.out]; exact d4⟩
    · have hn2 : xs.length < 30 := by omega
      cases hf : field t.data.toList with
      | none =>
        have HT := Lib.hid (take1_err b (sts xs) t wr hl (by rw [sts_len]; exact hn2) hM2 (by omega) hf)
        have HF := Lib.hid (fun B e w' => (HErr.out 19 B e w' (hgo.out.bad hn2 hf)).2)
        clear hl hf hM2
        go_wp2_with fail
        refine HT.out.mono ?_
        rintro e w4 ⟨rfl, b4⟩
        have d4 : Below b w w4 := hbw.trans (b4.mono (by omega))
        clear hbw b4
        go_wp2_with fail
        go_ret3
        exact ⟨HF.out _ _ _ rfl, by rw [HB.out]; exact d4⟩
      | some p =>
        obtain ⟨x, r⟩ := p
        have HT := take1_ok b (sts xs) t x r wr hl (by rw [sts_len]; exact hn2) hM2 (by omega) hf
        rw [← sts_snoc] at HT
        obtain ⟨R, hR⟩ : ∃ R : ByteArray, ⟨r.toArray⟩ = R := ⟨_, rfl⟩
        have hRl : R.data.toList = r := by rw [← hR]
        have hRs : R.size ≤ t.size := by rw [Lib.size_eq, Lib.size_eq, hRl]; have := field_len hf; omega
        rw [hR] at HT
        have HTO := Lib.hid HT
        by_cases h0 : r = []
        · subst h0
          have hfin := hgo.out.last hn2 hf
          have HF := Lib.hid (fun B e w' => (HOk.out _ _ B e w' hfin).2)
          have HC := Lib.hid (fun (W : World) => cutp_no R ⟨#[13, 10]⟩ W (by rw [hRl]; decide))
          have hRe : R = ⟨#[]⟩ := by rw [← hR]
          subst hRe
          clear hl hf hM2 HT hR hRl hfin
          go_wp2_with fail
          refine HTO.out.mono ?_
          rintro e w4 ⟨rfl, l4, b4⟩
          have d4 : Below b w w4 := hbw.trans b4
          obtain ⟨v, k1, k2⟩ := l4
          obtain ⟨c0, c1, f0, f1⟩ := words2 k1
          have K2 := Lib.hid k2
          clear hbw b4 k1 k2
          go_wp2_with fail
          refine (HC.out _).mono ?_
          rintro e w5 ⟨rfl, rfl⟩
          go_wp2_with fail
          go_ret3
          exact ⟨HF.out _ _ _ ⟨_, rfl, by rw [HB.out]; exact K2.out.weak (Nat.le_succ b)⟩, by rw [HB.out]; exact d4⟩
        · by_cases h1 : r.take 2 = [13, 10]
          · obtain ⟨u, rfl⟩ : ∃ u, r = 13 :: 10 :: u := by
              match r, h1 with
              | a :: c :: u, h1 => simp at h1; exact ⟨u, by rw [h1.1, h1.2]⟩
            have hfin := hgo.out.stop hn2 hf
            have HF := Lib.hid (fun B e w' => (HOk.out _ _ B e w' hfin).2)
            have HC := Lib.hid (fun (W : World) => cutp_yes R ⟨#[13, 10]⟩ u W (by rw [hRl]; rfl))
            clear hl hf hM2 HT hR hRl hfin h0 h1
            go_wp2_with fail
            refine HTO.out.mono ?_
            rintro e w4 ⟨rfl, l4, b4⟩
            have d4 : Below b w w4 := hbw.trans b4
            obtain ⟨v, k1, k2⟩ := l4
            obtain ⟨c0, c1, f0, f1⟩ := words2 k1
            have K2 := Lib.hid k2
            clear hbw b4 k1 k2
            go_wp2_with fail
            refine (HC.out _).mono ?_
            rintro e w5 ⟨rfl, rfl⟩
            go_wp2_with fail
            go_ret3
            exact ⟨HF.out _ _ _ ⟨_, rfl, by rw [HB.out]; exact K2.out.weak (Nat.le_succ b)⟩, by rw [HB.out]; exact d4⟩
          · have HC := Lib.hid (fun (W : World) => cutp_no R ⟨#[13, 10]⟩ W (by rw [hRl]; exact h1))
            have hRne : R.toList.isEmpty = false := by
              rw [Lib.toList_data, hRl]
              cases r with
              | nil => exact absurd rfl h0
              | cons a t => rfl
            by_cases h2 : r.take 1 = [44]
            · obtain ⟨u, rfl⟩ : ∃ u, r = 44 :: u := by
                match r, h2 with
                | a :: u, h2 => simp at h2; exact ⟨u, by rw [h2]⟩
              obtain ⟨U, hU⟩ : ∃ U : ByteArray, ⟨u.toArray⟩ = U := ⟨_, rfl⟩
              have hUl : U.data.toList = u := by rw [← hU]
              have hUs : U.size + 1 = R.size := by rw [Lib.size_eq, Lib.size_eq, hUl, hRl, List.length_cons]
              have HC2 := fun (W : World) => cutp_yes R ⟨#[44]⟩ u W (by rw [hRl]; rfl)
              rw [hU] at HC2
              have HC2O := Lib.hid HC2
              have HG : Hid (RGoes s.data.toList U.data.toList (xs ++ [x])) := by unfold Hid; rw [hUl]; exact hgo.out.step hn2 hf
              clear hl hf hM2 HT hR hRl h0 h1 h2 hU hUl HC2
              go_wp2_with fail
              refine HTO.out.mono ?_
              rintro e w4 ⟨rfl, l4, b4⟩
              have d4 : Below b w w4 := hbw.trans b4
              clear hbw b4
              go_wp2_with fail
              refine (HC.out _).mono ?_
              rintro e w5 ⟨rfl, rfl⟩
              go_wp2_with fail
              refine (HC2O.out _).mono ?_
              rintro e w6 ⟨rfl, rfl⟩
              go_wp2_with fail
              go_roundw
              case rel => exact ⟨U, _, rfl, by omega, HG, by rw [List.length_append, List.length_singleton]; omega, l4, d4⟩
              case measure => simp [strLenQ]; omega
            · have hfin := hgo.out.odd hn2 hf h0 h1 h2
              have HF := Lib.hid (fun B e w' => (HErr.out 19 B e w' hfin).2)
              have HC2 := Lib.hid (fun (W : World) => cutp_no R ⟨#[44]⟩ W (by rw [hRl]; exact h2))
              clear hl hf hM2 HT hR hRl h0 h1 h2 hfin
              go_wp2_with fail
              refine HTO.out.mono ?_
              rintro e w4 ⟨rfl, l4, b4⟩
              have d4 : Below b w w4 := hbw.trans b4
              clear hbw b4
              go_wp2_with fail
              refine (HC.out _).mono ?_
              rintro e w5 ⟨rfl, rfl⟩
              go_wp2_with fail
              refine (HC2.out _).mono ?_
              rintro e w6 ⟨rfl, rfl⟩
              go_wp2_with fail
              go_ret3
              exact ⟨HF.out _ _ _ rfl, by rw [HB.out]; exact d4⟩
end Go.Proofs.YtakfcfjamgaekaaDoor
