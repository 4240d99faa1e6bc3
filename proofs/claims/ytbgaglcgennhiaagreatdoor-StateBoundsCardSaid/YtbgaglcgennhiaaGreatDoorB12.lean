import Derived.Test.YtbgaglcgennhiaaGreatDoorRows
import Derived.Test.YtbgaglcgennhiaaGreatDoorB05
import Derived.Test.YtbgaglcgennhiaaGreatDoorB02
import Derived.WalkKit
import Derived.WalkSpells
import Derived.WalkLawsBesides
import Derived.Laws.AppendOwn
import Derived.Laws.AppendOwnNone
import Derived.Laws.MakeOwn
import Derived.Deep.QuietTactic
import Derived.Deep.RegionWith
import Derived.BigQuiet
/- what is reached of it -/
namespace Go.Proofs.YtbgaglcgennhiaaGreatDoor
open Go.RowKit Rg
theorem infoRng : (Tryz.prog.info? 185).map (fun i => (i.zero, i.size, i.bytes)) = some (some (.agg #[.int .i64 0, .int .i64 0]), 2, 16) := by kernel_rfl

/-- A range's two cells. -/
def encR (r : R) : List Value := [.int .i64 r.1, .int .i64 r.2]
def prs (l : List R) : List Value := l.flatMap encR
theorem prs_nil : prs [] = [] := rfl
theorem prs_append (a b : List R) : prs (a ++ b) = prs a ++ prs b := by simp [prs]
theorem prs_one (r : R) : prs [r] = [.int .i64 r.1, .int .i64 r.2] := by simp [prs, encR]
theorem prs_cons (r : R) (l : List R) : prs (r :: l) = .int .i64 r.1 :: .int .i64 r.2 :: prs l := by simp [prs, encR]
theorem prs_length : ∀ (l : List R), (prs l).length = l.length * 2
  | [] => rfl
  | r :: l => by rw [prs_cons, List.length_cons, List.length_cons, prs_length l, List.length_cons]; omega
theorem prs_get : ∀ {l : List R} {j : Nat} {r : R}, l[j]? = some r → (prs l)[j * 2]? = some (.int .i64 r.1) ∧ (prs l)[j * 2 + 1]? = some (.int .i64 r.2)
  | [], j, r, h => by simp at h
  | a :: l, 0, r, h => by
    obtain rfl : a = r := by simpa using h
    rw [prs_cons]
    exact ⟨rfl, rfl⟩
  | a :: l, j + 1, r, h => by
    have := prs_get (l := l) (j := j) (r := r) (by simpa using h)
    rw [prs_cons, show (j + 1) * 2 = j * 2 + 1 + 1 by omega]
    simpa using this
theorem prs_cells (l : List R) : ∀ u ∈ prs l, u.oneCell' = true := by
  intro u hu
  obtain ⟨r, _, hr⟩ := List.mem_flatMap.1 hu
  simp [encR] at hr
  rcases hr with rfl | rfl <;> rfl
attribute [irreducible] prs
theorem drewN_below {B : Nat} {w w' : World} (h : Below B w w') (n : Nat) : Below B w (w'.drewN n) := ⟨h.os, h.tape, h.output, h.size, h.block⟩
/-- The slice v, made by the call (above block B), holds just the ranges l. -/
def OwnR (B : Nat) (w : World) (v : Value) (l : List R) : Prop := w.ownsRow B 185 2 v l.length (prs l)
theorem OwnR.nil (B : Nat) (w : World) : OwnR B w (.slice none 0 0) [] := by
  unfold OwnR
  rw [prs_nil]
  exact World.ownsRow_nil _ _ _ _
theorem OwnR.below {B : Nat} {w w' : World} {v : Value} {l : List R} (h : OwnR B w v l) (hb : Below w.heap.size w w') : OwnR B w' v l := by
  have h' : w.ownsRow B 185 2 v l.length (prs l) := h
  refine h'.kept (w' := w') (row := some w.heap.size) ⟨hb.os, hb.tape, hb.output, hb.size, fun i hi _ => hb.block i hi⟩ ?_
  cases ho : v.ownBlock with
  | none => exact .inl rfl
  | some g => exact .inr (fun e => by have := (h'.lt g ho).2; injection e with e; omega)
theorem OwnR.low {B : Nat} {w : World} {v : Value} {l : List R} (h : OwnR B w v l) {j : Nat} (hj : v.ownBlock = some j) : B ≤ j ∧ j < w.heap.size := World.ownsRow.lt h j hj
theorem OwnR.slice {B : Nat} {w : World} {v : Value} {l : List R} (h : OwnR B w v l) : ∃ A cap, v = .slice A l.length cap := by
  rcases h.2 with ⟨rfl, h0⟩ | ⟨g, cap, cur, rfl, _⟩
  · exact ⟨none, 0, by rw [h0]⟩
  · exact ⟨_, _, rfl⟩
theorem OwnR.weak {B B' : Nat} {w : World} {v : Value} {l : List R} (h : OwnR B w v l) (hB : B' ≤ B) : OwnR B' w v l :=
  ⟨h.1, h.2.imp id fun ⟨g, cap, cur, h1, h2, h3⟩ => ⟨g, cap, cur, h1, Nat.le_trans hB h2, h3⟩⟩
/-- one that is not empty: its block -/
theorem OwnR.full {B : Nat} {w : World} {v : Value} {l : List R} (h : OwnR B w v l) (hl : l ≠ []) : ∃ g cap cur, v = .slice (some ⟨g, 0, none⟩) l.length cap ∧ B ≤ g ∧ Bk w g 185 cur ∧ l.length ≤ cap ∧ cap ≤ maxLen ∧ cur.size = cap * 2 ∧ cur.toList.take (l.length * 2) = prs l := by
  rcases h.2 with ⟨rfl, h0⟩ | ⟨g, cap, cur, h1, h2, h3, h4, h5, h6, h7⟩
  · exact absurd (List.eq_nil_of_length_eq_zero h0) hl
  · exact ⟨g, cap, cur, h1, h2, h3, h4, h5, h6, h7⟩

theorem add_succ (ad : Addr) (n : Nat) : ad.add (n + 1) = ⟨(ad.add n).block, (ad.add n).off + 1, none⟩ := by
  rw [addBlock]
  unfold Addr.add
  by_cases h : n = 0
  · subst h
    simp
  · simp [h, Nat.add_assoc]
theorem prs_inv : ∀ {l : List R} {j : Nat} {u : Value}, (prs l)[j]? = some u → ∃ i r, l[i]? = some r ∧ (j = i * 2 ∧ u = .int .i64 r.1 ∨ j = i * 2 + 1 ∧ u = .int .i64 r.2)
  | [], j, u, h => by rw [prs_nil] at h; simp at h
  | a :: l, 0, u, h => by
    rw [prs_cons] at h
    simp at h
    exact ⟨0, a, rfl, .inl ⟨rfl, h.symm⟩⟩
  | a :: l, 1, u, h => by
    rw [prs_cons] at h
    simp at h
    exact ⟨0, a, rfl, .inr ⟨rfl, h.symm⟩⟩
  | a :: l, j + 2, u, h => by
    rw [prs_cons] at h
    obtain ⟨i, r, h1, h2⟩ := prs_inv (l := l) (j := j) (u := u) (by simpa using h)
    refine ⟨i + 1, r, by simpa using h1, ?_⟩
    rcases h2 with ⟨rfl, h3⟩ | ⟨rfl, h3⟩
    · exact .inl ⟨by omega, h3⟩
    · exact .inr ⟨by omega, h3⟩

/-- A slice that can be read: it holds just the ranges l, below block B (nil and empty ones too). -/
def ReadR (B : Nat) (w : World) (v : Value) (l : List R) : Prop :=
  ∃ A cap, v = .slice A l.length cap ∧ (l.length ≤ cap ∧ cap ≤ maxLen ∧ (A = none → cap = 0)) ∧ (0 < l.length → ∃ ad : Addr, A = some ad ∧ ad.block < B ∧ ∀ i r, l[i]? = some r → w.cell? (ad.add (i * 2)) = some (.int .i64 r.1) ∧ w.cell? ⟨(ad.add (i * 2)).block, (ad.add (i * 2)).off + 1, none⟩ = some (.int .i64 r.2))
theorem ReadR.below {B : Nat} {w w' : World} {v : Value} {l : List R} (h : ReadR B w v l) (hb : Below B w w') : ReadR B w' v l := by
  obtain ⟨A, cap, rfl, h1, h2⟩ := h
  refine ⟨A, cap, rfl, h1, fun h0 => ?_⟩
  obtain ⟨ad, rfl, hl, hc⟩ := h2 h0
  refine ⟨ad, rfl, hl, fun i r hi => ?_⟩
  have := hc i r hi
  rw [hb.cell (by rw [addBlock]; exact hl), hb.cell (by show (ad.add (i * 2)).block < B; rw [addBlock]; exact hl)]
  exact this
theorem ReadR.more {B C : Nat} {w : World} {v : Value} {l : List R} (h : ReadR B w v l) (hB : B ≤ C) : ReadR C w v l := by
  obtain ⟨A, cap, rfl, h1, h2⟩ := h
  refine ⟨A, cap, rfl, h1, fun h0 => ?_⟩
  obtain ⟨ad, rfl, hl, hc⟩ := h2 h0
  exact ⟨ad, rfl, by omega, hc⟩
theorem ReadR.nil (B : Nat) (w : World) : ReadR B w (.slice none 0 0) [] := ⟨none, 0, rfl, ⟨Nat.le_refl _, Nat.zero_le _, fun _ => rfl⟩, fun h => absurd h (by simp)⟩
/-- What an append reads of such a slice: nil, or its cells. -/
theorem ReadR.source {B : Nat} {w : World} {v : Value} {l : List R} (h : ReadR B w v l) : (v = .slice none 0 0 ∧ l = []) ∨ ∃ ad cap, v = .slice (some ad) l.length cap ∧ ∀ j u, (prs l)[j]? = some u → w.cell? (ad.add j) = some u := by
  obtain ⟨A, cap, rfl, h1, h2⟩ := h
  cases A with
  | none =>
    have hl : l = [] := List.eq_nil_of_length_eq_zero (by
      rcases Nat.eq_zero_or_pos l.length with h | h
      · exact h
      · obtain ⟨ad, e, _⟩ := h2 h
        cases e)
    subst hl
    rw [h1.2.2 rfl]
    exact .inl ⟨rfl, rfl⟩
  | some ad =>
    refine .inr ⟨ad, cap, rfl, fun j u hj => ?_⟩
    obtain ⟨i, r, hi, hu⟩ := prs_inv hj
    obtain ⟨ad', e, _, hc⟩ := h2 (by have := (List.getElem?_eq_some_iff.1 hi).1; omega)
    injection e with e
    subst e
    have := hc i r hi
    rcases hu with ⟨rfl, rfl⟩ | ⟨rfl, rfl⟩
    · exact this.1
    · rw [add_succ]; exact this.2
theorem OwnR.reads {B : Nat} {w : World} {v : Value} {l : List R} (h : OwnR B w v l) : ReadR w.heap.size w v l := by
  have h' : w.ownsRow B 185 2 v l.length (prs l) := h
  rcases h'.2 with ⟨rfl, h0⟩ | ⟨g, cap, cur, rfl, _, hh, hc1, hc2, _⟩
  · exact ⟨none, 0, by rw [h0], ⟨by omega, Nat.zero_le _, fun _ => rfl⟩, fun h => absurd h (by omega)⟩
  · refine ⟨_, cap, rfl, ⟨hc1, hc2, (fun e => by cases e)⟩, fun h0 => ⟨_, rfl, lt_of_block hh, fun i r hi => ?_⟩⟩
    have := prs_get hi
    have h2 := h'.cells (g := g) rfl _ _ this.2
    rw [add_at] at h2
    refine ⟨h'.cells (g := g) rfl _ _ this.1, ?_⟩
    rw [add_at, Nat.add_assoc]
    exact h2
/-- A list that lies in a block. -/
theorem ReadR.made {w : World} {g cap n : Nat} {l : List R} (hn : l.length = n) (h1 : n ≤ cap) (h2 : cap ≤ maxLen) (hg : g < w.heap.size) (hc : ∀ i r, l[i]? = some r → w.cell? ⟨g, i * 2, none⟩ = some (.int .i64 r.1) ∧ w.cell? ⟨g, i * 2 + 1, none⟩ = some (.int .i64 r.2)) : ReadR w.heap.size w (.slice (some ⟨g, 0, none⟩) n cap) l := by
  subst hn
  refine ⟨_, cap, rfl, ⟨h1, h2, (fun e => by cases e)⟩, fun _ => ⟨_, rfl, hg, fun i r hi => ?_⟩⟩
  rw [add_at, Nat.zero_add]
  exact hc i r hi
/-- A list that the text writes out: all of a new block. -/
theorem OwnR.made {w : World} {n : Nat} {cs : Array Value} {l : List R} (hn : l.length = n) (hc : cs.toList = prs l) (hm : n ≤ maxLen) : OwnR w.heap.size (w.alloc (.cells cs 185)) (.slice (Option.some ⟨w.heap.size, 0, none⟩) n n) l := by
  subst hn
  have hl := prs_length l
  refine ⟨hl, .inr ⟨w.heap.size, _, cs, rfl, Nat.le_refl _, heap_alloc_new w _, Nat.le_refl _, hm, ?_, ?_⟩⟩
  · rw [← Array.length_toList, hc, hl]
  · rw [hc, ← hl, List.take_length]
/-- An append of one range to a slice that the call has made. -/
theorem push_rng {ops : Array Oper} {rest : List Oper} {o : Oper} {a : Act} {Q : Exit → Act → World → Prop} (hgd : o.guard = none) (s x : Operand) (ho : o.op = .call { callee := .builtin .append, args := #[s, x], argTypes := #[166, 166] })
    (B : Nat) (v : Value) (l : List R) (p q : Int) (w0 : World) (hs : a.eval s = v) (hown : OwnR B w0 v l) (hx : a.eval x = .slice (Option.some ⟨w0.heap.size, 0, none⟩) 1 1) (hn : l.length ≤ 1000000000000) (hB : B ≤ w0.heap.size)
    (h : ∀ v' w', OwnR B w' v' (l ++ [(p, q)]) → Below B w0 w' → wpList Tryz.prog ops Q rest (a.put o.dst v') w') : wpList Tryz.prog ops Q (o :: rest) a (w0.alloc (.cells #[.int .i64 p, .int .i64 q] 185)) := by
  obtain ⟨i0, hi, hz0, hz1, hz2⟩ := info_parts infoRng
  have hown' : w0.ownsRow B 185 2 v l.length (prs l) := hown
  refine wpList_append_own _ hgd s x 166 ho B 185 i0 _ 2 16 Tryz.underlying166 hi hz0 hz1 hz2 rfl (by decide) v l.length (prs l) hs (hown'.alloc _) ⟨w0.heap.size, 0, none⟩ 1 1 [.int .i64 p, .int .i64 q] hx rfl ?_ ?_ ?_ (by omega) (by simp; omega) ?_
  · intro j y hj
    rw [add_at, cell_of_row _ _ _ #[_, _] _ (0, 0) (heap_alloc_new w0 _)]
    rw [Nat.zero_add]
    simpa using hj
  · intro y hy
    simp at hy
    rcases hy with rfl | rfl <;> rfl
  · unfold maxLen; omega
  · intro v' w' hown2 hg _
    refine h v' w' ?_ (((Below.refl B w0).alloc hB _).grown hg (by simp; omega) (fun j hj => (World.ownsRow.lt hown' j hj).1))
    unfold OwnR
    rw [prs_append, prs_one, List.length_append, List.length_singleton]
    exact hown2
/-- An append of all of a slice that can be read. -/
theorem push_all {ops : Array Oper} {rest : List Oper} {o : Oper} {a : Act} {Q : Exit → Act → World → Prop} (hgd : o.guard = none) (s x : Operand) (ho : o.op = .call { callee := .builtin .append, args := #[s, x], argTypes := #[166, 166] })
    (B : Nat) (v u : Value) (l m : List R) (w0 : World) (hs : a.eval s = v) (hown : OwnR B w0 v l) (hx : a.eval x = u) (hu : ReadR w0.heap.size w0 u m) (hn : l.length + m.length ≤ 1000000000000) (hB : B ≤ w0.heap.size)
    (h : ∀ v' w', OwnR B w' v' (l ++ m) → Below B w0 w' → wpList Tryz.prog ops Q rest (a.put o.dst v') w') : wpList Tryz.prog ops Q (o :: rest) a w0 := by
  obtain ⟨i0, hi, hz0, hz1, hz2⟩ := info_parts infoRng
  have hown' : w0.ownsRow B 185 2 v l.length (prs l) := hown
  rcases hu.source with ⟨rfl, rfl⟩ | ⟨ad, cap, rfl, hc⟩
  · refine wpList_append_own_none hgd s x 166 ho B 185 i0 2 Tryz.underlying166 hi v l.length (prs l) hs hown' hx (h _ _ ?_ (Below.refl _ _))
    rw [List.append_nil]
    exact hown
  · refine wpList_append_own _ hgd s x 166 ho B 185 i0 _ 2 16 Tryz.underlying166 hi hz0 hz1 hz2 rfl (by decide) v l.length (prs l) hs hown' ad m.length cap (prs m) hx (prs_length m) hc (prs_cells m) ?_ (by omega) hB ?_
    · unfold maxLen; omega
    · intro v' w' hown2 hg _
      refine h v' w' ?_ ((Below.refl B w0).grown hg hB (fun j hj => (World.ownsRow.lt hown' j hj).1))
      unfold OwnR
      rw [prs_append, List.length_append]
      exact hown2
theorem add_zero (a : Addr) : a.add 0 = a := by simp [Addr.add]
/-- the first of a list that can be read -/
theorem ReadR.first {B : Nat} {w : World} {A : Option Addr} {n cap : Nat} {p q : Int} {t : List R} (h : ReadR B w (.slice A n cap) ((p, q) :: t)) : n = t.length + 1 ∧ n ≤ cap ∧ cap ≤ maxLen ∧ ∃ ad, A = Option.some ad ∧ ad.block < B ∧ w.cell? ad = Option.some (.int .i64 p) ∧ w.cell? ⟨ad.block, ad.off + 1, none⟩ = Option.some (.int .i64 q) := by
  obtain ⟨A', cap', e, ⟨h1, h2, _⟩, h3⟩ := h
  injection e with e1 e2 e3
  subst e1
  subst e3
  obtain ⟨ad, rfl, hb, hc⟩ := h3 (by simp)
  have := hc 0 (p, q) rfl
  rw [Nat.zero_mul, add_zero] at this
  exact ⟨e2, by rw [e2]; exact h1, h2, ad, rfl, hb, this.1, this.2⟩
end Go.Proofs.YtbgaglcgennhiaaGreatDoor
