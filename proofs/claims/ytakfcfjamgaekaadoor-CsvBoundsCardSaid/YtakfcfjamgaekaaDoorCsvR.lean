/-
  csv.Read: (*list[[]string]).take, csv.Read: what they answer, at every string.
-/
import Derived.Test.YtakfcfjamgaekaaDoorCsvT
import Derived.Test.YtakfcfjamgaekaaDoorVal
namespace Go.Proofs.YtakfcfjamgaekaaDoor
open Go.RowKit Tx

theorem OwnTT.slice {B : Nat} {w : World} {v : Value} {m : List (List ByteArray)} (h : OwnTT B w v m) : ∃ A cap, v = .slice A m.length cap := by
  obtain ⟨A, cap, h1, _⟩ := h.reads
  exact ⟨A, cap, h1⟩
theorem OwnTT.apart {B b : Nat} {w : World} {v : Value} {m : List (List ByteArray)} {cs : Array Value} {t : TypeId} (h : OwnTT B w v m) (hb : Bk w b t cs) (ht : t ≠ 25) : some b ≠ v.ownBlock := by
  obtain ⟨us, _, h2, _⟩ := h
  rcases h2.2 with ⟨rfl, _⟩ | ⟨g, cap, cur, rfl, _, hh, _⟩
  · intro e; cases e
  · intro e
    injection e with e
    subst e
    rw [hb] at hh
    simp at hh
    exact ht hh.2
theorem firstRow_err (s : ByteArray) (k : Int) (w : World) (hM : MaxL w) (hs : s.size < 4000000000) (h : row 30 s.data.toList = .error k) :
    Calls Tryd.prog 15 #[.string s] w fun e w' => e = .returned (.tuple #[.slice none 0 0, .string ⟨#[]⟩, .int .i64 k]) ∧ Below w.heap.size w w' :=
  (firstRow_any s w hM hs).mono fun _ _ h' => ⟨(RowOut.err h).1 h'.1, h'.2⟩
theorem firstRow_ok (s : ByteArray) (xs : List (List UInt8)) (r : List UInt8) (w : World) (hM : MaxL w) (hs : s.size < 4000000000) (h : row 30 s.data.toList = .ok (xs, r)) :
    Calls Tryd.prog 15 #[.string s] w fun e w' => (∃ u, e = .returned (.tuple #[u, .string ⟨r.toArray⟩, .int .i64 0]) ∧ OwnT w.heap.size w' u (sts xs)) ∧ Below w.heap.size w w' :=
  (firstRow_any s w hM hs).mono fun _ _ h' => ⟨(RowOut.ok h).1 h'.1, h'.2⟩
/-- a list of rows, at block b: at most 200 of them -/
def Lst2 (b : Nat) (w : World) (m : List (List ByteArray)) : Prop := ∃ v, Bk w b 40 #[v, .int .i64 200] ∧ OwnTT b w v m
theorem Lst2.below {b : Nat} {w w' : World} {m : List (List ByteArray)} (h : Lst2 b w m) (hb : Below w.heap.size w w') : Lst2 b w' m := by
  obtain ⟨v, h1, h2⟩ := h
  exact ⟨v, h1.below hb h1.lt, h2.below hb⟩
theorem Lst2.lt {b : Nat} {w : World} {m : List (List ByteArray)} (h : Lst2 b w m) : b < w.heap.size := by
  obtain ⟨v, h1, _⟩ := h
  exact h1.lt
set_option maxHeartbeats 1000000 in
theorem take2_full (b : Nat) (m : List (List ByteArray)) (s : ByteArray) (w : World) (h : Lst2 b w m) (hn : m.length = 200) :
    Calls Tryd.prog 14 #[.pointer (some ⟨b, 0, none⟩), .string s, .func (.func 15) #[] #[]] w fun e w' =>
      e = .returned (.tuple #[.string ⟨#[]⟩, .int .i64 4]) ∧ Below w.heap.size w w' := by
  obtain ⟨v, h1, h2⟩ := h
  obtain ⟨A, cap, rfl⟩ := h2.slice
  rw [hn] at h1
  obtain ⟨c0, c1, f0, f1⟩ := words2 h1
  clear h1 h2 hn
  go_enter Tryd.func14, Tryd.ntmps14
  go_wp2_with fail
  go_region
  all_goals
    go_wp2_with fail
    go_ret2
    exact ⟨rfl, (Below.refl _ _).drew⟩
set_option maxHeartbeats 1000000 in
theorem take2_err (b : Nat) (m : List (List ByteArray)) (s : ByteArray) (k : Int) (w : World) (h : Lst2 b w m) (hn : m.length < 200) (hM : MaxL w) (hs : s.size < 4000000000) (hf : row 30 s.data.toList = .error k) (hk : k ≠ 0) :
    Calls Tryd.prog 14 #[.pointer (some ⟨b, 0, none⟩), .string s, .func (.func 15) #[] #[]] w fun e w' =>
      e = .returned (.tuple #[.string ⟨#[]⟩, .int .i64 k]) ∧ Below w.heap.size w w' := by
  obtain ⟨v, h1, h2⟩ := h
  obtain ⟨A, cap, rfl⟩ := h2.slice
  obtain ⟨c0, c1, f0, f1⟩ := words2 h1
  have hne : (((m.length : Nat) : Int) == 200) = false := by simp; omega
  have hk0 : (k != 0) = true := by simpa using hk
  have HFO := Lib.hid (firstRow_err s k w.drew (hM.below (Below.refl w.heap.size w).drew) hs hf)
  clear h1 h2 hn hf hM hk
  go_enter Tryd.func14, Tryd.ntmps14
  go_wp2_with fail
  go_region
  all_goals
    go_wp2_with fail
    refine HFO.out.mono ?_
    rintro e w1 ⟨rfl, b1⟩
    go_wp2_with fail
    go_ret2
    exact ⟨rfl, ((Below.refl w.heap.size w).drew).trans b1⟩
set_option maxHeartbeats 2000000 in
theorem take2_ok (b : Nat) (m : List (List ByteArray)) (s : ByteArray) (x : List (List UInt8)) (r : List UInt8) (w : World) (h : Lst2 b w m) (hn : m.length < 200) (hM : MaxL w) (hs : s.size < 4000000000) (hf : row 30 s.data.toList = .ok (x, r)) :
    Calls Tryd.prog 14 #[.pointer (some ⟨b, 0, none⟩), .string s, .func (.func 15) #[] #[]] w fun e w' =>
      e = .returned (.tuple #[.string ⟨r.toArray⟩, .int .i64 0]) ∧ Lst2 b w' (m ++ [sts x]) ∧ Below b w w' := by
  have hlt := h.lt
  obtain ⟨v, h1, h2⟩ := h
  obtain ⟨A, cap, rfl⟩ := h2.slice
  obtain ⟨c0, c1, f0, f1⟩ := words2 h1
  have hne : (((m.length : Nat) : Int) == 200) = false := by simp; omega
  have HFO := Lib.hid (firstRow_ok s x r w.drew (hM.below (Below.refl w.heap.size w).drew) hs hf)
  have H0 := Lib.hid h2
  have H1 := Lib.hid h1
  clear h1 h2 hf hM
  go_enter Tryd.func14, Tryd.ntmps14
  go_wp2_with fail
  go_region
  all_goals
    go_wp2_with fail
    refine HFO.out.mono ?_
    rintro e w1 ⟨⟨u, rfl, hu⟩, b1⟩
    have b2 : Below w.heap.size w w1 := ((Below.refl w.heap.size w).drew).trans b1
    have k1 := H1.out.below b2 hlt
    have K2 := Lib.hid (H0.out.below b2)
    obtain ⟨Au, capu, rfl⟩ := hu.slice
    have HU := Lib.hid (show RowAt b w1 (.slice Au (sts x).length capu) (sts x) from RowAt.of_own hu)
    obtain ⟨d0, d1, g0, g1⟩ := words2 k1
    have K1 := Lib.hid k1
    have hsz := b2.size
    have hn2 : m.length ≤ 1000000000000 := by omega
    have hbw : b ≤ w1.heap.size := by omega
    clear k1 b1 hu
    go_wp2_with (at_builtin; refine push_row rfl _ _ rfl b (.slice A m.length cap) m (.slice Au (sts x).length capu) (sts x) w1 rfl K2.out rfl HU.out hn2 hbw ?_)
    intro v' w2 h3 hsame h4
    have k2 : Bk w2 b 40 #[.slice A m.length cap, .int .i64 200] := (hsame b K1.out.lt (K2.out.apart K1.out (by decide))).trans K1.out
    obtain ⟨e0, e1, i0, i1⟩ := words2 k2
    obtain ⟨A2, cap2, hv⟩ := h3.slice
    rw [List.length_append, List.length_singleton] at hv
    subst hv
    have K3 := Lib.hid (show Lst2 b (w2.setCell ⟨b, 0, none⟩ (.slice A2 (m.length + 1) cap2)) (m ++ [sts x]) from ⟨_, k2.put0 _, h3.stored (Nat.le_refl b) k2 (by decide) (by decide) 0 _⟩)
    have K4 := Lib.hid (below_set ((b2.mono (Nat.le_of_lt hlt)).trans h4) (Nat.le_refl b) 0 (.slice A2 (m.length + 1) cap2))
    clear h3 h4 k2 hsame d0 d1 g0 g1 c0 c1 f0 f1
    go_wp2_with fail
    go_ret2
    exact ⟨rfl, K3.out, K4.out⟩

/-! ### all rows -/
def preR {α : Type} (xs : List α) : Except Int (List α) → Except Int (List α)
  | .ok p => .ok (xs ++ p)
  | .error e => .error e
theorem preR_nil {α : Type} (o : Except Int (List α)) : preR [] o = o := by cases o <;> rfl
theorem preR_onto {α : Type} (xs : List α) (x : α) (o : Except Int (List α)) : preR xs (ontoR x o) = preR (xs ++ [x]) o := by
  cases o with
  | error e => rfl
  | ok p => simp [preR, ontoR]
/-- how the loop stands: the rows m behind, t ahead -/
def GGoes (l t : List UInt8) (m : List (List (List UInt8))) : Prop := rowsL 200 l = preR m (rowsL (200 - m.length) t)
theorem GGoes.start (l : List UInt8) : GGoes l l [] := by
  unfold GGoes
  rw [preR_nil]
  rfl
theorem GGoes.stop {l : List UInt8} {m : List (List (List UInt8))} (h : GGoes l [] m) : rowsL 200 l = .ok m := by
  unfold GGoes at h
  rw [h, rowsL_nil]
  simp [preR]
theorem GGoes.full {l t : List UInt8} {m : List (List (List UInt8))} (h : GGoes l t m) (ht : t ≠ []) (hn : m.length = 200) : rowsL 200 l = .error 4 := by
  unfold GGoes at h
  rw [h, hn, Nat.sub_self, rowsL_full ht]
  rfl
theorem room200 {n : Nat} (h : n < 200) : 200 - n = (200 - (n + 1)) + 1 := by omega
theorem GGoes.bad {l t : List UInt8} {m : List (List (List UInt8))} {k : Int} (h : GGoes l t m) (ht : t ≠ []) (hn : m.length < 200) (hr : row 30 t = .error k) : rowsL 200 l = .error k := by
  unfold GGoes at h
  rw [h, room200 hn, rowsL_bad ht hr]
  rfl
theorem GGoes.step {l t r : List UInt8} {x : List (List UInt8)} {m : List (List (List UInt8))} (h : GGoes l t m) (ht : t ≠ []) (hn : m.length < 200) (hr : row 30 t = .ok (x, r)) : GGoes l r (m ++ [x]) := by
  unfold GGoes at h ⊢
  rw [h, room200 hn, rowsL_on ht hr, preR_onto, List.length_append, List.length_singleton]
theorem row_less : ∀ (n : Nat) (l r : List UInt8) (xs : List (List UInt8)), row n l = .ok (xs, r) → r.length ≤ l.length ∧ (l ≠ [] → r.length < l.length)
  | 0, _, _, _, h => by rw [row_zero] at h; cases h
  | n + 1, l, r, xs, h => by
    cases hf : field l with
    | none => rw [row_none hf] at h; cases h
    | some p =>
      obtain ⟨x, s⟩ := p
      have hlen := field_len hf
      rw [row_some hf] at h
      split at h
      · injection h with h; injection h with h1 h2
        subst h2
        exact ⟨Nat.zero_le _, fun hl => by cases l with | nil => exact absurd rfl hl | cons => simp⟩
      split at h
      · rename_i h0 h2
        injection h with h; injection h with h1 h3
        subst h3
        have : 0 < s.length := List.length_pos_iff.2 h0
        rw [List.length_drop]
        exact ⟨by omega, fun _ => by omega⟩
      split at h
      · rename_i h0 h2 h3
        have : 0 < s.length := List.length_pos_iff.2 h0
        cases hr : row n (s.drop 1) with
        | error e => rw [hr] at h; cases h
        | ok q =>
          obtain ⟨ys, z⟩ := q
          rw [hr] at h
          injection h with h
          injection h with h1 h4
          subst h4
          have := (row_less n _ _ _ hr).1
          rw [List.length_drop] at this
          exact ⟨by omega, fun _ => by omega⟩
      · cases h
theorem row_wrong : ∀ (n : Nat) (l : List UInt8) (k : Int), row n l = .error k → k = 4 ∨ k = 19
  | 0, _, k, h => by rw [row_zero] at h; injection h with h; exact .inl h.symm
  | n + 1, l, k, h => by
    cases hf : field l with
    | none => rw [row_none hf] at h; injection h with h; exact .inr h.symm
    | some p =>
      obtain ⟨x, s⟩ := p
      rw [row_some hf] at h
      split at h
      · cases h
      split at h
      · cases h
      split at h
      · cases hr : row n (s.drop 1) with
        | ok q => rw [hr] at h; cases h
        | error e =>
          rw [hr] at h
          injection h with h
          subst h
          exact row_wrong n _ _ hr
      · injection h with h; exact .inr h.symm
/-- what Read answers -/
def ReadOut (o : Except Int (List (List (List UInt8)))) (e : Ending) (w' : World) : Prop := match o with
  | .error k => e = .returned (.tuple #[.slice none 0 0, .int .i64 k])
  | .ok m => ∃ v, e = .returned (.tuple #[v, .int .i64 0]) ∧ ReadTT w'.heap.size w' v (m.map sts)
theorem ReadOut.err {o : Except Int (List (List (List UInt8)))} {e : Ending} {w' : World} {k : Int} (h : o = .error k) : ReadOut o e w' ↔ e = .returned (.tuple #[.slice none 0 0, .int .i64 k]) := by subst h; exact Iff.rfl
theorem ReadOut.ok {o : Except Int (List (List (List UInt8)))} {e : Ending} {w' : World} {m : List (List (List UInt8))} (h : o = .ok m) : ReadOut o e w' ↔ ∃ v, e = .returned (.tuple #[v, .int .i64 0]) ∧ ReadTT w'.heap.size w' v (m.map sts) := by subst h; exact Iff.rfl
/-- what the walks of package csv lean on: utf8's tables, and that a bound is an integer -/
def Okw (w : World) : Prop := Tabs w ∧ MaxL w
theorem Okw.below {w w' : World} (h : Okw w) (hb : Below w.heap.size w w') : Okw w' := ⟨h.1.below hb, h.2.below hb⟩

set_option maxHeartbeats 4000000 in
set_option maxRecDepth 100000 in
theorem read_any (s : ByteArray) (w : World) (hO : Okw w) (hs : s.size ≤ 140737488355328) :
    Calls Tryd.prog 9 #[.string s] w fun e w' => ReadOut (readL s.data.toList) e w' ∧ Below w.heap.size w w' := by
  have hsz := Lib.size_eq s
  by_cases hbig : 20000 < s.size
  · have hr : readL s.data.toList = .error 4 := by
      unfold readL
      rw [if_pos (by omega)]
      rfl
    have HF := Lib.hid (fun e w' => (ReadOut.err (e := e) (w' := w') hr).2)
    clear hr hsz
    go_enter Tryd.func9, Tryd.ntmps9
    go_wp2_with fail
    go_ret2
    exact ⟨HF.out _ _ rfl, Below.refl _ _⟩
  have HV := valid_any s w hO.1 hs
  cases hv : valid s.data.toList with
  | false =>
    have hr : readL s.data.toList = .error 3 := by
      unfold readL
      rw [if_neg (by omega), if_pos hv]
      rfl
    have HF := Lib.hid (fun e w' => (ReadOut.err (e := e) (w' := w') hr).2)
    rw [hv] at HV
    have HVO := Lib.hid HV
    clear hr hsz HV hv hO
    go_enter Tryd.func9, Tryd.ntmps9
    go_wp2_with fail
    refine HVO.out.mono ?_
    rintro e w1 ⟨rfl, b1⟩
    go_wp2_with fail
    go_ret2
    exact ⟨HF.out _ _ rfl, b1⟩
  | true =>
    have hr : readL s.data.toList = rowsL 200 s.data.toList := readL_text (by omega) hv
    rw [hv] at HV
    have HVO := Lib.hid HV
    rw [hr]
    have HErr := Lib.hid (fun k e w' h => ReadOut.err (o := rowsL 200 s.data.toList) (k := k) (e := e) (w' := w') h)
    have HOk := Lib.hid (fun m e w' h => ReadOut.ok (o := rowsL 200 s.data.toList) (m := m) (e := e) (w' := w') h)
    have hMB : 2 < w.heap.size := by obtain ⟨m, hm⟩ := hO.2; exact World.block_lt_of_cell? _ _ hm
    have HM := Lib.hid (fun (W : World) (hb : Below w.heap.size w W) => hO.2.belowB hb hMB)
    clear hr hsz HV hv hO hMB
    go_enter Tryd.func9, Tryd.ntmps9
    go_wp2_with fail
    refine HVO.out.mono ?_
    rintro e w1 ⟨rfl, b1⟩
    have hsz1 := b1.size
    obtain ⟨b, hb⟩ : ∃ b, w1.heap.size = b := ⟨_, rfl⟩
    have HB := Lib.hid hb
    go_wp2_with fail
    go_loopw [0] (fun tv wr => ∃ (t : ByteArray) (m : List (List (List UInt8))), tv = .string t ∧ t.size ≤ s.size ∧ Hid (GGoes s.data.toList t.data.toList m) ∧ m.length ≤ 200 ∧ Lst2 b wr (m.map sts) ∧ Below b w1 wr) (fun tv _ => strLenQ tv)
    case atStart =>
      have hbe := HB.out
      subst hbe
      exact ⟨s, [], rfl, Nat.le_refl _, GGoes.start _, by decide, ⟨_, Bk.new w1 _ _, OwnTT.nil _ _⟩, (Below.refl _ _).alloc (Nat.le_refl _) _⟩
    case round =>
      obtain ⟨t, m, rfl, hts, hgo, hm200, hl, hbw⟩ := hrel
      have hsw := hbw.size
      have d0 : Below w.heap.size w wr := b1.trans (hbw.mono (by omega))
      have hM2 := HM.out wr d0
      by_cases ht : t.data.toList = []
      · have hte : t = ⟨#[]⟩ := bytes_of ht
        subst hte
        have hfin := hgo.out.stop
        have HF := Lib.hid (fun e w' => (HOk.out _ e w' hfin).2)
        obtain ⟨v, k1, k2⟩ := hl
        obtain ⟨c0, c1, f0, f1⟩ := words2 k1
        have K2 := Lib.hid k2
        clear k1 k2 hfin ht hM2
        go_wp2_with fail
        go_ret2
        exact ⟨HF.out _ _ ⟨_, rfl, K2.out.reads⟩, d0⟩
      · have htne : t.toList.isEmpty = false := by
          rw [Lib.toList_data]
          cases h : t.data.toList with
          | nil => exact absurd h ht
          | cons a u => rfl
        by_cases hn : m.length = 200
        · have hfin := hgo.out.full ht hn
          have HF := Lib.hid (fun e w' => (HErr.out _ e w' hfin).2)
          have HT := Lib.hid (take2_full b (m.map sts) t wr hl (by rw [List.length_map]; exact hn))
          clear hl hfin ht hM2
          go_wp2_with fail
          refine HT.out.mono ?_
          rintro e w4 ⟨rfl, b4⟩
          have d4 : Below w.heap.size w w4 := d0.trans (b4.mono (by omega))
          clear hbw b4 d0
          go_wp2_with fail
          go_ret2
          exact ⟨HF.out _ _ rfl, d4⟩
        · have hn2 : m.length < 200 := by omega
          cases hr : row 30 t.data.toList with
          | error k =>
            have hk0 : k ≠ 0 := by rcases row_wrong _ _ _ hr with h | h <;> omega
            have hkb : (k != 0) = true := by simpa using hk0
            have hfin := hgo.out.bad ht hn2 hr
            have HF := Lib.hid (fun e w' => (HErr.out _ e w' hfin).2)
            have HT := Lib.hid (take2_err b (m.map sts) t k wr hl (by rw [List.length_map]; exact hn2) hM2 (by omega) hr hk0)
            clear hl hfin ht hM2 hr
            go_wp2_with fail
            refine HT.out.mono ?_
            rintro e w4 ⟨rfl, b4⟩
            have d4 : Below w.heap.size w w4 := d0.trans (b4.mono (by omega))
            clear hbw b4 d0
            go_wp2_with fail
            go_ret2
            exact ⟨HF.out _ _ rfl, d4⟩
          | ok p =>
            obtain ⟨x, r⟩ := p
            have HT := take2_ok b (m.map sts) t x r wr hl (by rw [List.length_map]; exact hn2) hM2 (by omega) hr
            rw [show m.map sts ++ [sts x] = (m ++ [x]).map sts by simp] at HT
            obtain ⟨R, hR⟩ : ∃ R : ByteArray, ⟨r.toArray⟩ = R := ⟨_, rfl⟩
            have hRl : R.data.toList = r := by rw [← hR]
            have hRs : R.size < t.size := by rw [Lib.size_eq, Lib.size_eq, hRl]; exact (row_less _ _ _ _ hr).2 ht
            rw [hR] at HT
            have HTO := Lib.hid HT
            have HG : Hid (GGoes s.data.toList R.data.toList (m ++ [x])) := by unfold Hid; rw [hRl]; exact hgo.out.step ht hn2 hr
            clear hl ht hM2 hr HT hR hRl
            go_wp2_with fail
            refine HTO.out.mono ?_
            rintro e w4 ⟨rfl, l4, b4⟩
            have d4 : Below b w1 w4 := hbw.trans b4
            clear hbw b4 d0
            go_wp2_with fail
            go_roundw
            case rel => exact ⟨R, _, rfl, by omega, HG, by rw [List.length_append, List.length_singleton]; omega, l4, d4⟩
            case measure => simp [strLenQ]; omega
end Go.Proofs.YtakfcfjamgaekaaDoor
