/-
  SLICES OF SLICES OF STRINGS: those that came in, those that the call makes, append by append, and those that are held against each other (help.Rows).
-/
import Derived.Test.YtakfcfjamgaekaaDoorStrs
import Derived.Deep.RegionWith
namespace Go.Proofs.YtakfcfjamgaekaaDoor
open Go.RowKit

/-! ### strings, of bytes and back (for seats without package fold) -/
def sts (l : List (List UInt8)) : List ByteArray := l.map fun x => ⟨x.toArray⟩
def bts (xs : List ByteArray) : List (List UInt8) := xs.map fun b => b.data.toList
theorem sts_snoc (l : List (List UInt8)) (x : List UInt8) : sts (l ++ [x]) = sts l ++ [⟨x.toArray⟩] := by simp [sts]
theorem sts_len (l : List (List UInt8)) : (sts l).length = l.length := by simp [sts]
theorem bts_len (l : List ByteArray) : (bts l).length = l.length := by simp [bts]
theorem bts_sts (l : List (List UInt8)) : bts (sts l) = l := by
  unfold sts bts
  rw [List.map_map]
  conv => rhs; rw [← List.map_id l]
  rfl
theorem sts_bts (l : List ByteArray) : sts (bts l) = l := by
  unfold sts bts
  rw [List.map_map]
  conv => rhs; rw [← List.map_id l]
  rfl
theorem bts_take (xs : List ByteArray) (k : Nat) : bts (xs.take k) = (bts xs).take k := by simp [bts, List.map_take]
theorem bts_snoc (l : List ByteArray) (x : ByteArray) : bts (l ++ [x]) = bts l ++ [x.data.toList] := by simp [bts]
theorem OwnT.some {B : Nat} {w : World} {v : Value} {x : List ByteArray} (h : OwnT B w v x) (hx : x ≠ []) : ∃ g cap, v = .slice (some ⟨g, 0, none⟩) x.length cap := by
  rcases h.2 with ⟨rfl, h0⟩ | ⟨g, cap, cur, rfl, _⟩
  · exact absurd (List.eq_nil_of_length_eq_zero h0) hx
  · exact ⟨_, _, rfl⟩
theorem OwnT.at {B : Nat} {w : World} {g cap n : Nat} {x : List ByteArray} (h : OwnT B w (.slice (Option.some ⟨g, 0, none⟩) n cap) x) {j : Nat} {b : ByteArray} (hb : x[j]? = Option.some b) : w.cell? ⟨g, j, none⟩ = Option.some (.string b) ∧ n = x.length := by
  have h' : w.ownsRow B 9 1 (.slice (Option.some ⟨g, 0, none⟩) n cap) x.length (strs x) := h
  have hn : n = x.length := by
    rcases h'.2 with ⟨e, _⟩ | ⟨_, _, _, e, _⟩
    · simp at e
    · simp at e; exact e.2.1
  subst hn
  exact ⟨by rw [h'.cellAt j (by have := (List.getElem?_eq_some_iff.1 hb).1; omega)]; exact strs_get hb, rfl⟩
theorem OwnT.cap {B : Nat} {w : World} {g cap n : Nat} {x : List ByteArray} (h : OwnT B w (.slice (Option.some ⟨g, 0, none⟩) n cap) x) : x.length ≤ cap ∧ cap ≤ maxLen := by
  rcases h.2 with ⟨e, _⟩ | ⟨g', cap', cur, e, _, _, h4, h5, _⟩
  · simp at e
  · simp at e
    rw [e.2.2]
    exact ⟨h4, h5⟩
theorem OwnT.weak {B B' : Nat} {w : World} {v : Value} {x : List ByteArray} (h : OwnT B w v x) (hB : B' ≤ B) : OwnT B' w v x :=
  ⟨h.1, h.2.imp id fun ⟨g, cap, cur, h1, h2, h3⟩ => ⟨g, cap, cur, h1, Nat.le_trans hB h2, h3⟩⟩
theorem grown_set {w : World} {b o : Nat} (u : Value) : w.grownBy (w.setCell ⟨b, o, none⟩ u) (some b) :=
  ⟨rfl, rfl, rfl, by simp [World.setCell], fun k _ hk => Below.heap_setCell _ _ _ _ (fun e => hk (by simp [e]))⟩

/-! ### rows that can be read -/
/-- v holds just these rows, below block B (nil and empty ones too). -/
def ReadTT (B : Nat) (w : World) (v : Value) (m : List (List ByteArray)) : Prop :=
  ∃ A cap, v = .slice A m.length cap ∧ (0 < m.length → ∃ ad : Addr, A = some ad ∧ ad.block < B ∧ ∀ i xs, m[i]? = some xs → ∃ u, w.cell? (ad.add i) = some u ∧ ReadT B w u xs)
theorem ReadTT.below {B : Nat} {w w' : World} {v : Value} {m : List (List ByteArray)} (h : ReadTT B w v m) (hb : Below B w w') : ReadTT B w' v m := by
  obtain ⟨A, cap, rfl, h2⟩ := h
  refine ⟨A, cap, rfl, fun h0 => ?_⟩
  obtain ⟨ad, rfl, hl, hc⟩ := h2 h0
  refine ⟨ad, rfl, hl, fun i xs hi => ?_⟩
  obtain ⟨u, h3, h4⟩ := hc i xs hi
  exact ⟨u, (hb.cell (by rw [addBlock]; exact hl)).trans h3, h4.below hb⟩
theorem ReadTT.more {B C : Nat} {w : World} {v : Value} {m : List (List ByteArray)} (h : ReadTT B w v m) (hB : B ≤ C) : ReadTT C w v m := by
  obtain ⟨A, cap, rfl, h2⟩ := h
  refine ⟨A, cap, rfl, fun h0 => ?_⟩
  obtain ⟨ad, rfl, hl, hc⟩ := h2 h0
  refine ⟨ad, rfl, by omega, fun i xs hi => ?_⟩
  obtain ⟨u, h3, h4⟩ := hc i xs hi
  exact ⟨u, h3, h4.more hB⟩
theorem ReadTT.nil (B : Nat) (w : World) (cap : Nat) : ReadTT B w (.slice none 0 cap) [] := ⟨none, cap, rfl, fun h => absurd h (by simp)⟩
theorem ReadTT.made {w : World} {g cap n : Nat} {m : List (List ByteArray)} (hn : m.length = n) (hg : g < w.heap.size) (hc : ∀ i xs, m[i]? = some xs → ∃ u, w.cell? ⟨g, i, none⟩ = some u ∧ ReadT w.heap.size w u xs) : ReadTT w.heap.size w (.slice (some ⟨g, 0, none⟩) n cap) m := by
  subst hn
  refine ⟨_, cap, rfl, fun _ => ⟨_, rfl, hg, fun i xs hi => ?_⟩⟩
  rw [add_at, Nat.zero_add]
  exact hc i xs hi

/-! ### rows that the call makes -/
/-- u holds the strings xs; they lie below B, or in a row of strings. -/
def RowAt (B : Nat) (w : World) (u : Value) (xs : List ByteArray) : Prop :=
  ∃ A cap, u = .slice A xs.length cap ∧ (0 < xs.length → ∃ ad : Addr, A = some ad ∧ ad.block < w.heap.size ∧ (ad.block < B ∨ ∃ cs fz, w.heap[ad.block]? = some (.cells cs 9 fz)) ∧ ∀ i b, xs[i]? = some b → w.cell? (ad.add i) = some (.string b))
theorem RowAt.keep {B : Nat} {w w' : World} {u : Value} {xs : List ByteArray} (h : RowAt B w u xs) (hs : w.heap.size ≤ w'.heap.size) (hb : ∀ k, k < w.heap.size → (k < B ∨ ∃ cs fz, w.heap[k]? = some (.cells cs 9 fz)) → w'.heap[k]? = w.heap[k]?) : RowAt B w' u xs := by
  obtain ⟨A, cap, rfl, h2⟩ := h
  refine ⟨A, cap, rfl, fun h0 => ?_⟩
  obtain ⟨ad, rfl, hl, ht, hc⟩ := h2 h0
  have e := hb ad.block hl ht
  refine ⟨ad, rfl, by omega, ?_, fun i b hi => ?_⟩
  · rw [e]; exact ht
  · rw [World.cell?_of_block (w := w) (by rw [addBlock]; exact e)]
    exact hc i b hi
theorem RowAt.reads {B : Nat} {w : World} {u : Value} {xs : List ByteArray} (h : RowAt B w u xs) : ReadT w.heap.size w u xs := by
  obtain ⟨A, cap, rfl, h2⟩ := h
  refine ⟨A, cap, rfl, fun h0 => ?_⟩
  obtain ⟨ad, rfl, hl, ht, hc⟩ := h2 h0
  exact ⟨ad, rfl, hl, hc⟩
theorem RowAt.of_read {B : Nat} {w : World} {u : Value} {xs : List ByteArray} (h : ReadT B w u xs) (hB : B ≤ w.heap.size) : RowAt B w u xs := by
  obtain ⟨A, cap, rfl, h2⟩ := h
  refine ⟨A, cap, rfl, fun h0 => ?_⟩
  obtain ⟨ad, rfl, hl, hc⟩ := h2 h0
  exact ⟨ad, rfl, by omega, .inl hl, hc⟩
theorem RowAt.of_own {B C : Nat} {w : World} {u : Value} {xs : List ByteArray} (h : OwnT C w u xs) : RowAt B w u xs := by
  have hr := h.reads
  rcases h.2 with ⟨rfl, h0⟩ | ⟨g, cap, cur, rfl, _, hh, _⟩
  · exact ⟨none, 0, by rw [h0], fun h => absurd h (by omega)⟩
  · obtain ⟨A, cap', e, h2⟩ := hr
    injection e with e1 e2 e3
    subst e1
    refine ⟨_, cap, rfl, fun h0 => ?_⟩
    obtain ⟨ad, e4, hl, hc⟩ := h2 h0
    injection e4 with e4
    subst e4
    exact ⟨_, rfl, hl, .inr ⟨cur, (0, 0), hh⟩, hc⟩
/-- The slice v, made by the call (above block B), holds just these rows. -/
def OwnTT (B : Nat) (w : World) (v : Value) (m : List (List ByteArray)) : Prop :=
  ∃ us : List Value, us.length = m.length ∧ w.ownsRow B 25 1 v us.length us ∧ ∀ (i : Nat) xs, m[i]? = some xs → ∃ u, us[i]? = some u ∧ RowAt B w u xs
theorem OwnTT.nil (B : Nat) (w : World) : OwnTT B w (.slice none 0 0) [] := ⟨[], rfl, World.ownsRow_nil _ _ _ _, fun i xs h => by simp at h⟩
theorem OwnTT.below {B : Nat} {w w' : World} {v : Value} {m : List (List ByteArray)} (h : OwnTT B w v m) (hb : Below w.heap.size w w') : OwnTT B w' v m := by
  obtain ⟨us, h1, h2, h3⟩ := h
  refine ⟨us, h1, ?_, fun i xs hi => ?_⟩
  · refine h2.kept (w' := w') (row := some w.heap.size) ⟨hb.os, hb.tape, hb.output, hb.size, fun i hi _ => hb.block i hi⟩ ?_
    cases ho : v.ownBlock with
    | none => exact .inl rfl
    | some g => exact .inr (fun e => by have := (h2.lt g ho).2; injection e with e; omega)
  · obtain ⟨u, h4, h5⟩ := h3 i xs hi
    exact ⟨u, h4, h5.keep hb.size fun k hk _ => hb.block k hk⟩
theorem OwnTT.low {B : Nat} {w : World} {v : Value} {m : List (List ByteArray)} (h : OwnTT B w v m) {j : Nat} (hj : v.ownBlock = some j) : B ≤ j ∧ j < w.heap.size := by
  obtain ⟨us, _, h2, _⟩ := h
  exact World.ownsRow.lt h2 j hj
/-- a store into a block that is no row -/
theorem OwnTT.stored {B g : Nat} {w : World} {v : Value} {m : List (List ByteArray)} {cs : Array Value} {t : TypeId} (h : OwnTT B w v m) (hg : B ≤ g) (hb : Bk w g t cs) (ht : t ≠ 9) (ht2 : t ≠ 25) (o : Nat) (x : Value) : OwnTT B (w.setCell ⟨g, o, none⟩ x) v m := by
  obtain ⟨us, h1, h2, h3⟩ := h
  refine ⟨us, h1, ?_, fun i xs hi => ?_⟩
  · refine h2.kept (w' := w.setCell ⟨g, o, none⟩ x) (row := some g) (grown_set x) ?_
    rcases h2.2 with ⟨rfl, _⟩ | ⟨g', cap, cur, rfl, _, hh, _⟩
    · exact .inl rfl
    · refine .inr fun e => ?_
      injection e with e
      subst e
      rw [hb] at hh
      simp at hh
      exact ht2 hh.2
  · obtain ⟨u, h4, h5⟩ := h3 i xs hi
    refine ⟨u, h4, h5.keep (by simp [World.setCell]) fun k _ hk => Below.heap_setCell _ _ _ _ fun e => ?_⟩
    simp only at e
    subst e
    rcases hk with hk | ⟨cs', fz, hk⟩
    · omega
    · rw [hb] at hk
      simp at hk
      exact ht hk.2.1
theorem pushedTT {B : Nat} {w w1 : World} {v v' : Value} {m : List (List ByteArray)} {us : List Value} {u : Value} {xs : List ByteArray} {o : Obj} (h1 : us.length = m.length) (h2 : w.ownsRow B 25 1 v us.length us) (h3 : ∀ (i : Nat) xs, m[i]? = some xs → ∃ u, us[i]? = some u ∧ RowAt B w u xs)
    (hu : RowAt B w u xs) (hown' : w1.ownsRow B 25 1 v' (us.length + 1) (us ++ [u])) (hg : (w.alloc o).grownBy w1 v.ownBlock) : OwnTT B w1 v' (m ++ [xs]) := by
  have hs : w.heap.size ≤ w1.heap.size := by have := hg.size; simp at this; omega
  have hk : ∀ k, k < w.heap.size → (k < B ∨ ∃ cs fz, w.heap[k]? = some (.cells cs 9 fz)) → w1.heap[k]? = w.heap[k]? := by
    intro k hk1 hk2
    rw [hg.block k (by simp; omega) ?_]
    · exact Below.heap_alloc w o k hk1
    · intro e
      rcases h2.2 with ⟨rfl, _⟩ | ⟨g, cap, cur, rfl, hBg, hh, _⟩
      · cases e
      · injection e with e
        subst e
        rcases hk2 with hk2 | ⟨cs, fz, hk2⟩
        · omega
        · rw [hh] at hk2
          simp at hk2
  refine ⟨us ++ [u], by simp [h1], by rw [List.length_append, List.length_singleton]; exact hown', fun i ys hi => ?_⟩
  rcases Nat.lt_trichotomy i m.length with hl | hl | hl
  · rw [List.getElem?_append_left hl] at hi
    obtain ⟨z, h4, h5⟩ := h3 i ys hi
    exact ⟨z, by rw [List.getElem?_append_left (by omega)]; exact h4, h5.keep hs hk⟩
  · subst hl
    simp at hi
    subst hi
    exact ⟨u, by rw [← h1]; simp, hu.keep hs hk⟩
  · rw [List.getElem?_eq_none (by simp; omega)] at hi
    cases hi
theorem OwnTT.reads {B : Nat} {w : World} {v : Value} {m : List (List ByteArray)} (h : OwnTT B w v m) : ReadTT w.heap.size w v m := by
  obtain ⟨us, h1, h2, h3⟩ := h
  rcases h2.2 with ⟨rfl, h0⟩ | ⟨g, cap, cur, rfl, _, hh, _⟩
  · exact ⟨none, 0, by rw [← h1, h0], fun h => absurd h (by omega)⟩
  · refine ⟨_, cap, by rw [h1], fun h0 => ⟨_, rfl, lt_of_block hh, fun i xs hi => ?_⟩⟩
    obtain ⟨u, h4, h5⟩ := h3 i xs hi
    exact ⟨u, h2.cells (g := g) rfl i _ h4, h5.reads⟩
theorem infoStrs : (Tryd.prog.info? 25).map (fun i => (i.zero, i.size, i.bytes)) = some (some (.slice none 0 0), 1, 24) := by kernel_rfl
/-- An append of one row. -/
theorem push_row {ops : Array Oper} {rest : List Oper} {o : Oper} {a : Act} {Q : Exit → Act → World → Prop} (hgd : o.guard = none) (s x : Operand) (ho : o.op = .call { callee := .builtin .append, args := #[s, x], argTypes := #[22, 22] })
    (B : Nat) (v : Value) (m : List (List ByteArray)) (u : Value) (xs : List ByteArray) (w0 : World) (hs : a.eval s = v) (hown : OwnTT B w0 v m) (hx : a.eval x = .slice (some ⟨w0.heap.size, 0, none⟩) 1 1) (hu : RowAt B w0 u xs) (hn : m.length ≤ 1000000000000) (hB : B ≤ w0.heap.size)
    (h : ∀ v' w', OwnTT B w' v' (m ++ [xs]) → (∀ k, k < w0.heap.size → some k ≠ v.ownBlock → w'.heap[k]? = w0.heap[k]?) → Below B w0 w' → wpList Tryd.prog ops Q rest (a.put o.dst v') w') : wpList Tryd.prog ops Q (o :: rest) a (w0.alloc (.cells #[u] 25)) := by
  obtain ⟨us, h1, h2, h3⟩ := hown
  obtain ⟨i0, hi, hz0, hz1, hz2⟩ := info_parts infoStrs
  have hu1 : u.oneCell' = true := by
    obtain ⟨A, cap, rfl, _⟩ := hu
    rfl
  refine wpList_append_own _ hgd s x _ ho B _ i0 _ 1 24 Tryd.underlying22 hi hz0 hz1 hz2 rfl (by decide) v us.length us hs (h2.alloc _) ⟨w0.heap.size, 0, none⟩ 1 1 [u] hx rfl ?_ ?_ ?_ (by omega) (by simp; omega) ?_
  · intro j y hj
    match j, hj with
    | 0, hj =>
      simp at hj
      subst hj
      rw [add_at0]
      exact cell_of_row _ _ 0 #[_] _ (0, 0) (heap_alloc_new w0 _)
    | j + 1, hj => simp at hj
  · intro y hy
    simp at hy
    subst hy
    exact hu1
  · unfold maxLen; omega
  · intro v' w' hown' hg _
    refine h v' w' (pushedTT h1 h2 h3 hu hown' hg) (fun k hk hne => ?_) (((Below.refl B w0).alloc hB _).grown hg (by simp; omega) (fun j hj => (World.ownsRow.lt h2 j hj).1))
    rw [hg.block k (by simp; omega) hne]
    exact Below.heap_alloc w0 _ k hk

/-! ### two held against each other -/
set_option maxHeartbeats 1000000 in
theorem sameTT_any (B : Nat) (v u : Value) (x y : List (List ByteArray)) (w : World) (hx : ReadTT B w v x) (hy : ReadTT B w u y) (hB : B ≤ w.heap.size) (hl : x.length ≤ 140737488355328) (hm : y.length ≤ 140737488355328)
    (hl2 : ∀ r ∈ x, r.length ≤ 140737488355328) (hm2 : ∀ r ∈ y, r.length ≤ 140737488355328) :
    Calls Tryd.prog 20 #[v, u, .func (.func 21) #[] #[]] w fun e w' => e = .returned (.bool (decide (x = y))) ∧ Below w.heap.size w w' := by
  obtain ⟨A, cap, rfl, hx2⟩ := hx
  obtain ⟨A', cap', rfl, hy2⟩ := hy
  by_cases hne : x.length = y.length
  · have HNE := Lib.hid hne
    have HX := Lib.hid hx2
    have HY := Lib.hid hy2
    have HL2 := Lib.hid hl2
    have HM2 := Lib.hid hm2
    have HPL := Lib.hid plainT_any
    have hbne : (((x.length : Nat) : Int) != ((y.length : Nat) : Int)) = false := by simp [hne]
    clear hne hx2 hy2 hl2 hm2
    go_enter Tryd.func20, Tryd.ntmps20
    go_wp2_with fail
    go_loopw [7] (fun i wr => ∃ (k : Nat), k ≤ x.length ∧ i = .int .i64 k ∧ Hid (x.take k = y.take k) ∧ Below w.heap.size w wr) (fun i _ => x.length - (intOf i).toNat)
    case atStart => exact ⟨0, Nat.zero_le _, rfl, Lib.hid (by simp), Below.refl _ _⟩
    case round =>
      obtain ⟨k, hk, rfl, hte, hbw⟩ := hrel
      have hsw := hbw.size
      by_cases hlt : k < x.length
      · have hlty : k < y.length := by rw [← HNE.out]; exact hlt
        obtain ⟨ad, rfl, hlb, hc⟩ := HX.out (by omega)
        obtain ⟨bd, rfl, hlb', hd⟩ := HY.out (by omega)
        obtain ⟨p, hp⟩ : ∃ p, x[k]? = some p := ⟨_, List.getElem?_eq_getElem hlt⟩
        obtain ⟨q, hq⟩ : ∃ q, y[k]? = some q := ⟨_, List.getElem?_eq_getElem hlty⟩
        obtain ⟨pv, c1, rp⟩ := hc k p hp
        obtain ⟨qv, d1, rq⟩ := hd k q hq
        rw [← hbw.cell (p := ad.add k) (by rw [addBlock]; omega)] at c1
        rw [← hbw.cell (p := bd.add k) (by rw [addBlock]; omega)] at d1
        have rp2 := rp.below (hbw.mono hB)
        have rq2 := rq.below (hbw.mono hB)
        have HPQ := Lib.hid (fun (W : World) (h : Below wr.heap.size wr W) => HPL.out B pv qv p q W (rp2.below (h.mono (by omega))) (rq2.below (h.mono (by omega))) (HL2.out p (List.mem_of_getElem? hp)) (HM2.out q (List.mem_of_getElem? hq)))
        have HP := Lib.hid hp
        have HQ := Lib.hid hq
        clear hp hq hc hd rp rq rp2 rq2
        go_wp2_with fail
        go_region_with ((go_at_call 21; refine (HPQ.out _ ?_).mono ?_; exact ⟨rfl, rfl, rfl, Nat.le_refl _, fun _ _ => rfl⟩; rintro e w2 ⟨rfl, b2⟩))
        all_goals
          by_cases hpq : p = q
          · have hd : decide (p = q) = true := decide_eq_true hpq
            have b3 : Below w.heap.size w w2 := hbw.drew.trans (b2.mono hsw)
            have hts := Lib.hid (take_succ_same HP.out HQ.out hte.out hpq)
            simp only [hd]
            clear b2
            go_wp2_with fail
            go_roundw
            case rel => exact ⟨k + 1, by omega, by go_num, hts, b3⟩
            case measure => simp [intOf]; omega
          · have hd : decide (p = q) = false := decide_eq_false hpq
            have hq2 : decide (x = y) = false := by
              refine decide_eq_false (fun e => ?_)
              subst e
              exact hpq (Option.some.inj (HP.out.symm.trans HQ.out))
            have b3 : Below w.heap.size w w2 := hbw.drew.trans (b2.mono hsw)
            simp only [hd]
            clear b2
            go_wp2_with fail
            go_ret
            exact ⟨ret_bool hq2.symm, b3⟩
      · have hke : k = x.length := by omega
        have hxy : decide (x = y) = true := by
          have h1 := hte.out
          rw [hke, List.take_length, HNE.out, List.take_length] at h1
          exact decide_eq_true h1
        clear hke
        go_wp2_with fail
        go_ret
        exact ⟨ret_bool hxy.symm, hbw⟩
  · have hbne : (((x.length : Nat) : Int) != ((y.length : Nat) : Int)) = true := by simp; omega
    have hq : decide (x = y) = false := decide_eq_false (fun e => hne (congrArg List.length e))
    rw [hq]
    clear hq hne
    go_enter Tryd.func20, Tryd.ntmps20
    go_wp2_with fail
    go_ret
    exact ⟨rfl, Below.refl _ _⟩
set_option maxHeartbeats 400000 in
/-- help.Rows: two lists of rows held against each other. -/
theorem rows_any (B : Nat) (v u : Value) (x y : List (List ByteArray)) (w : World) (hx : ReadTT B w v x) (hy : ReadTT B w u y) (hB : B ≤ w.heap.size) (hl : x.length ≤ 140737488355328) (hm : y.length ≤ 140737488355328)
    (hl2 : ∀ r ∈ x, r.length ≤ 140737488355328) (hm2 : ∀ r ∈ y, r.length ≤ 140737488355328) :
    Calls Tryd.prog 11 #[v, u] w fun e w' => e = .returned (.bool (decide (x = y))) ∧ Below w.heap.size w w' := by
  have HS := Lib.hid (sameTT_any B v u x y w hx hy hB hl hm hl2 hm2)
  clear hx hy hl hm hl2 hm2
  go_enter Tryd.func11, Tryd.ntmps11
  go_wp2_with (go_at_call 20; refine HS.out.mono ?_; rintro e w2 ⟨rfl, hb⟩)
  go_ret
  exact ⟨rfl, hb⟩
end Go.Proofs.YtakfcfjamgaekaaDoor
