import Derived.Test.YtfbdnaclkfmiaaaGreatDoorRows
import Derived.Test.YtfbdnaclkfmiaaaGreatDoorG03
import Derived.Test.YtfbdnaclkfmiaaaGreatDoorG02
import Derived.WalkKit
import Derived.WalkSpells
import Derived.WalkLawsBesides
import Derived.Laws.AppendOwn
import Derived.Laws.AppendOwnNone
import Derived.Laws.MakeOwn
import Derived.Deep.QuietTactic
import Derived.Deep.RegionWith
import Derived.BigQuiet
import Derived.Test.YtfbdnaclkfmiaaaGreatDoorShelf
import Derived.Lib.Hide
section
/- what is reached of it -/
namespace Go.Proofs.YtfbdnaclkfmiaaaGreatDoor
open Go.RowKit Rg
theorem infoRng : (Tryz.prog.info? 224).map (fun i => (i.zero, i.size, i.bytes)) = some (some (.agg #[.int .i64 0, .int .i64 0]), 2, 16) := by kernel_rfl

/-- A range's two cells. -/
def encR (r : R) : List Value := [.int .i64 r.1, .int .i64 r.2]
def prs (l : List R) : List Value := l.flatMap encR
theorem prs_nil : prs [] = [] := rfl
theorem prs_append (a b : List R) : prs (a ++ b) = prs a ++ prs b := by simp [prs]
theorem prs_one (r : R) : prs [r] = [.int .i64 r.1, .int .i64 r.2] := by simp [prs, encR]
theorem prs_cons (r : R) (l : List R) : prs (r :: l) = .int .i64 r.1 :: .int .i64 r.2 :: prs l := by simp [prs, encR]
theorem prs_length : ∀ (l : List R), (prs l).length = l.length * 2
  | [] => rfl
  | r :: l => by rw [prs_cons, List.length_cons, List.length_cons, prs_length l, List.length_cons]; omega
theorem prs_get : ∀ {l : List R} {j : Nat} {r : R}, l[j]? = some r → (prs l)[j * 2]? = some (.int .i64 r.1) ∧ (prs l)[j * 2 + 1]? = some (.int .i64 r.2)
  | [], j, r, h => by simp at h
  | a :: l, 0, r, h => by
    obtain rfl : a = r := by simpa using h
    rw [prs_cons]
    exact ⟨rfl, rfl⟩
  | a :: l, j + 1, r, h => by
    have := prs_get (l := l) (j := j) (r := r) (by simpa using h)
    rw [prs_cons, show (j + 1) * 2 = j * 2 + 1 + 1 by omega]
    simpa using this
theorem prs_cells (l : List R) : ∀ u ∈ prs l, u.oneCell' = true := by
  intro u hu
  obtain ⟨r, _, hr⟩ := List.mem_flatMap.1 hu
  simp [encR] at hr
  rcases hr with rfl | rfl <;> rfl
attribute [irreducible] prs
theorem drewN_below {B : Nat} {w w' : World} (h : Below B w w') (n : Nat) : Below B w (w'.drewN n) := ⟨h.os, h.tape, h.output, h.size, h.block⟩
/-- The slice v, made by the call (above block B), holds just the ranges l. -/
def OwnR (B : Nat) (w : World) (v : Value) (l : List R) : Prop := w.ownsRow B 224 2 v l.length (prs l)
theorem OwnR.nil (B : Nat) (w : World) : OwnR B w (.slice none 0 0) [] := by
  unfold OwnR
  rw [prs_nil]
  exact World.ownsRow_nil _ _ _ _
theorem OwnR.below {B : Nat} {w w' : World} {v : Value} {l : List R} (h : OwnR B w v l) (hb : Below w.heap.size w w') : OwnR B w' v l := by
  have h' : w.ownsRow B 224 2 v l.length (prs l) := h
  refine h'.kept (w' := w') (row := some w.heap.size) ⟨hb.os, hb.tape, hb.output, hb.size, fun i hi _ => hb.block i hi⟩ ?_
  cases ho : v.ownBlock with
  | none => exact .inl rfl
  | some g => exact .inr (fun e => by have := (h'.lt g ho).2; injection e with e; omega)
theorem OwnR.low {B : Nat} {w : World} {v : Value} {l : List R} (h : OwnR B w v l) {j : Nat} (hj : v.ownBlock = some j) : B ≤ j ∧ j < w.heap.size := World.ownsRow.lt h j hj
theorem OwnR.slice {B : Nat} {w : World} {v : Value} {l : List R} (h : OwnR B w v l) : ∃ A cap, v = .slice A l.length cap := by
  rcases h.2 with ⟨rfl, h0⟩ | ⟨g, cap, cur, rfl, _⟩
  · exact ⟨none, 0, by rw [h0]⟩
  · exact ⟨_, _, rfl⟩
theorem OwnR.weak {B B' : Nat} {w : World} {v : Value} {l : List R} (h : OwnR B w v l) (hB : B' ≤ B) : OwnR B' w v l :=
  ⟨h.1, h.2.imp id fun ⟨g, cap, cur, h1, h2, h3⟩ => ⟨g, cap, cur, h1, Nat.le_trans hB h2, h3⟩⟩
/-- one that is not empty: its block -/
theorem OwnR.full {B : Nat} {w : World} {v : Value} {l : List R} (h : OwnR B w v l) (hl : l ≠ []) : ∃ g cap cur, v = .slice (some ⟨g, 0, none⟩) l.length cap ∧ B ≤ g ∧ Bk w g 224 cur ∧ l.length ≤ cap ∧ cap ≤ maxLen ∧ cur.size = cap * 2 ∧ cur.toList.take (l.length * 2) = prs l := by
  rcases h.2 with ⟨rfl, h0⟩ | ⟨g, cap, cur, h1, h2, h3, h4, h5, h6, h7⟩
  · exact absurd (List.eq_nil_of_length_eq_zero h0) hl
  · exact ⟨g, cap, cur, h1, h2, h3, h4, h5, h6, h7⟩

theorem add_succ (ad : Addr) (n : Nat) : ad.add (n + 1) = ⟨(ad.add n).block, (ad.add n).off + 1, none⟩ := by
  rw [addBlock]
  unfold Addr.add
  by_cases h : n = 0
  · subst h
    simp
  · simp [h, Nat.add_assoc]
theorem prs_inv : ∀ {l : List R} {j : Nat} {u : Value}, (prs l)[j]? = some u → ∃ i r, l[i]? = some r ∧ (j = i * 2 ∧ u = .int .i64 r.1 ∨ j = i * 2 + 1 ∧ u = .int .i64 r.2)
  | [], j, u, h => by rw [prs_nil] at h; simp at h
  | a :: l, 0, u, h => by
    rw [prs_cons] at h
    simp at h
    exact ⟨0, a, rfl, .inl ⟨rfl, h.symm⟩⟩
  | a :: l, 1, u, h => by
    rw [prs_cons] at h
    simp at h
    exact ⟨0, a, rfl, .inr ⟨rfl, h.symm⟩⟩
  | a :: l, j + 2, u, h => by
    rw [prs_cons] at h
    obtain ⟨i, r, h1, h2⟩ := prs_inv (l := l) (j := j) (u := u) (by simpa using h)
    refine ⟨i + 1, r, by simpa using h1, ?_⟩
    rcases h2 with ⟨rfl, h3⟩ | ⟨rfl, h3⟩
    · exact .inl ⟨by omega, h3⟩
    · exact .inr ⟨by omega, h3⟩

/-- A slice that can be read: it holds just the ranges l, below block B (nil and empty ones too). -/
def ReadR (B : Nat) (w : World) (v : Value) (l : List R) : Prop :=
  ∃ A cap, v = .slice A l.length cap ∧ (l.length ≤ cap ∧ cap ≤ maxLen ∧ (A = none → cap = 0)) ∧ (0 < l.length → ∃ ad : Addr, A = some ad ∧ ad.block < B ∧ ∀ i r, l[i]? = some r → w.cell? (ad.add (i * 2)) = some (.int .i64 r.1) ∧ w.cell? ⟨(ad.add (i * 2)).block, (ad.add (i * 2)).off + 1, none⟩ = some (.int .i64 r.2))
theorem ReadR.below {B : Nat} {w w' : World} {v : Value} {l : List R} (h : ReadR B w v l) (hb : Below B w w') : ReadR B w' v l := by
  obtain ⟨A, cap, rfl, h1, h2⟩ := h
  refine ⟨A, cap, rfl, h1, fun h0 => ?_⟩
  obtain ⟨ad, rfl, hl, hc⟩ := h2 h0
  refine ⟨ad, rfl, hl, fun i r hi => ?_⟩
  have := hc i r hi
  rw [hb.cell (by rw [addBlock]; exact hl), hb.cell (by show (ad.add (i * 2)).block < B; rw [addBlock]; exact hl)]
  exact this
theorem ReadR.more {B C : Nat} {w : World} {v : Value} {l : List R} (h : ReadR B w v l) (hB : B ≤ C) : ReadR C w v l := by
  obtain ⟨A, cap, rfl, h1, h2⟩ := h
  refine ⟨A, cap, rfl, h1, fun h0 => ?_⟩
  obtain ⟨ad, rfl, hl, hc⟩ := h2 h0
  exact ⟨ad, rfl, by omega, hc⟩
theorem ReadR.nil (B : Nat) (w : World) : ReadR B w (.slice none 0 0) [] := ⟨none, 0, rfl, ⟨Nat.le_refl _, Nat.zero_le _, fun _ => rfl⟩, fun h => absurd h (by simp)⟩
/-- What an append reads of such a slice: nil, or its cells. -/
theorem ReadR.source {B : Nat} {w : World} {v : Value} {l : List R} (h : ReadR B w v l) : (v = .slice none 0 0 ∧ l = []) ∨ ∃ ad cap, v = .slice (some ad) l.length cap ∧ ∀ j u, (prs l)[j]? = some u → w.cell? (ad.add j) = some u := by
  obtain ⟨A, cap, rfl, h1, h2⟩ := h
  cases A with
  | none =>
    have hl : l = [] := List.eq_nil_of_length_eq_zero (by
      rcases Nat.eq_zero_or_pos l.length with h | h
      · exact h
      · obtain ⟨ad, e, _⟩ := h2 h
        cases e)
    subst hl
    rw [h1.2.2 rfl]
    exact .inl ⟨rfl, rfl⟩
  | some ad =>
    refine .inr ⟨ad, cap, rfl, fun j u hj => ?_⟩
    obtain ⟨i, r, hi, hu⟩ := prs_inv hj
    obtain ⟨ad', e, _, hc⟩ := h2 (by have := (List.getElem?_eq_some_iff.1 hi).1; omega)
    injection e with e
    subst e
    have := hc i r hi
    rcases hu with ⟨rfl, rfl⟩ | ⟨rfl, rfl⟩
    · exact this.1
    · rw [add_succ]; exact this.2
theorem OwnR.reads {B : Nat} {w : World} {v : Value} {l : List R} (h : OwnR B w v l) : ReadR w.heap.size w v l := by
  have h' : w.ownsRow B 224 2 v l.length (prs l) := h
  rcases h'.2 with ⟨rfl, h0⟩ | ⟨g, cap, cur, rfl, _, hh, hc1, hc2, _⟩
  · exact ⟨none, 0, by rw [h0], ⟨by omega, Nat.zero_le _, fun _ => rfl⟩, fun h => absurd h (by omega)⟩
  · refine ⟨_, cap, rfl, ⟨hc1, hc2, (fun e => by cases e)⟩, fun h0 => ⟨_, rfl, lt_of_block hh, fun i r hi => ?_⟩⟩
    have := prs_get hi
    have h2 := h'.cells (g := g) rfl _ _ this.2
    rw [add_at] at h2
    refine ⟨h'.cells (g := g) rfl _ _ this.1, ?_⟩
    rw [add_at, Nat.add_assoc]
    exact h2
/-- A list that lies in a block. -/
theorem ReadR.made {w : World} {g cap n : Nat} {l : List R} (hn : l.length = n) (h1 : n ≤ cap) (h2 : cap ≤ maxLen) (hg : g < w.heap.size) (hc : ∀ i r, l[i]? = some r → w.cell? ⟨g, i * 2, none⟩ = some (.int .i64 r.1) ∧ w.cell? ⟨g, i * 2 + 1, none⟩ = some (.int .i64 r.2)) : ReadR w.heap.size w (.slice (some ⟨g, 0, none⟩) n cap) l := by
  subst hn
  refine ⟨_, cap, rfl, ⟨h1, h2, (fun e => by cases e)⟩, fun _ => ⟨_, rfl, hg, fun i r hi => ?_⟩⟩
  rw [add_at, Nat.zero_add]
  exact hc i r hi
/-- A list that the text writes out: all of a new block. -/
theorem OwnR.made {w : World} {n : Nat} {cs : Array Value} {l : List R} (hn : l.length = n) (hc : cs.toList = prs l) (hm : n ≤ maxLen) : OwnR w.heap.size (w.alloc (.cells cs 224)) (.slice (Option.some ⟨w.heap.size, 0, none⟩) n n) l := by
  subst hn
  have hl := prs_length l
  refine ⟨hl, .inr ⟨w.heap.size, _, cs, rfl, Nat.le_refl _, heap_alloc_new w _, Nat.le_refl _, hm, ?_, ?_⟩⟩
  · rw [← Array.length_toList, hc, hl]
  · rw [hc, ← hl, List.take_length]
/-- An append of one range to a slice that the call has made. -/
theorem push_rng {ops : Array Oper} {rest : List Oper} {o : Oper} {a : Act} {Q : Exit → Act → World → Prop} (hgd : o.guard = none) (s x : Operand) (ho : o.op = .call { callee := .builtin .append, args := #[s, x], argTypes := #[191, 191] })
    (B : Nat) (v : Value) (l : List R) (p q : Int) (w0 : World) (hs : a.eval s = v) (hown : OwnR B w0 v l) (hx : a.eval x = .slice (Option.some ⟨w0.heap.size, 0, none⟩) 1 1) (hn : l.length ≤ 1000000000000) (hB : B ≤ w0.heap.size)
    (h : ∀ v' w', OwnR B w' v' (l ++ [(p, q)]) → Below B w0 w' → wpList Tryz.prog ops Q rest (a.put o.dst v') w') : wpList Tryz.prog ops Q (o :: rest) a (w0.alloc (.cells #[.int .i64 p, .int .i64 q] 224)) := by
  obtain ⟨i0, hi, hz0, hz1, hz2⟩ := info_parts infoRng
  have hown' : w0.ownsRow B 224 2 v l.length (prs l) := hown
  refine wpList_append_own _ hgd s x 191 ho B 224 i0 _ 2 16 Tryz.underlying191 hi hz0 hz1 hz2 rfl (by decide) v l.length (prs l) hs (hown'.alloc _) ⟨w0.heap.size, 0, none⟩ 1 1 [.int .i64 p, .int .i64 q] hx rfl ?_ ?_ ?_ (by omega) (by simp; omega) ?_
  · intro j y hj
    rw [add_at, cell_of_row _ _ _ #[_, _] _ (0, 0) (heap_alloc_new w0 _)]
    rw [Nat.zero_add]
    simpa using hj
  · intro y hy
    simp at hy
    rcases hy with rfl | rfl <;> rfl
  · unfold maxLen; omega
  · intro v' w' hown2 hg _
    refine h v' w' ?_ (((Below.refl B w0).alloc hB _).grown hg (by simp; omega) (fun j hj => (World.ownsRow.lt hown' j hj).1))
    unfold OwnR
    rw [prs_append, prs_one, List.length_append, List.length_singleton]
    exact hown2
/-- An append of all of a slice that can be read. -/
theorem push_all {ops : Array Oper} {rest : List Oper} {o : Oper} {a : Act} {Q : Exit → Act → World → Prop} (hgd : o.guard = none) (s x : Operand) (ho : o.op = .call { callee := .builtin .append, args := #[s, x], argTypes := #[191, 191] })
    (B : Nat) (v u : Value) (l m : List R) (w0 : World) (hs : a.eval s = v) (hown : OwnR B w0 v l) (hx : a.eval x = u) (hu : ReadR w0.heap.size w0 u m) (hn : l.length + m.length ≤ 1000000000000) (hB : B ≤ w0.heap.size)
    (h : ∀ v' w', OwnR B w' v' (l ++ m) → Below B w0 w' → wpList Tryz.prog ops Q rest (a.put o.dst v') w') : wpList Tryz.prog ops Q (o :: rest) a w0 := by
  obtain ⟨i0, hi, hz0, hz1, hz2⟩ := info_parts infoRng
  have hown' : w0.ownsRow B 224 2 v l.length (prs l) := hown
  rcases hu.source with ⟨rfl, rfl⟩ | ⟨ad, cap, rfl, hc⟩
  · refine wpList_append_own_none hgd s x 191 ho B 224 i0 2 Tryz.underlying191 hi v l.length (prs l) hs hown' hx (h _ _ ?_ (Below.refl _ _))
    rw [List.append_nil]
    exact hown
  · refine wpList_append_own _ hgd s x 191 ho B 224 i0 _ 2 16 Tryz.underlying191 hi hz0 hz1 hz2 rfl (by decide) v l.length (prs l) hs hown' ad m.length cap (prs m) hx (prs_length m) hc (prs_cells m) ?_ (by omega) hB ?_
    · unfold maxLen; omega
    · intro v' w' hown2 hg _
      refine h v' w' ?_ ((Below.refl B w0).grown hg hB (fun j hj => (World.ownsRow.lt hown' j hj).1))
      unfold OwnR
      rw [prs_append, List.length_append]
      exact hown2
theorem add_zero (a : Addr) : a.add 0 = a := by simp [Addr.add]
/-- the first of a list that can be read -/
theorem ReadR.first {B : Nat} {w : World} {A : Option Addr} {n cap : Nat} {p q : Int} {t : List R} (h : ReadR B w (.slice A n cap) ((p, q) :: t)) : n = t.length + 1 ∧ n ≤ cap ∧ cap ≤ maxLen ∧ ∃ ad, A = Option.some ad ∧ ad.block < B ∧ w.cell? ad = Option.some (.int .i64 p) ∧ w.cell? ⟨ad.block, ad.off + 1, none⟩ = Option.some (.int .i64 q) := by
  obtain ⟨A', cap', e, ⟨h1, h2, _⟩, h3⟩ := h
  injection e with e1 e2 e3
  subst e1
  subst e3
  obtain ⟨ad, rfl, hb, hc⟩ := h3 (by simp)
  have := hc 0 (p, q) rfl
  rw [Nat.zero_mul, add_zero] at this
  exact ⟨e2, by rw [e2]; exact h1, h2, ad, rfl, hb, this.1, this.2⟩
end Go.Proofs.YtfbdnaclkfmiaaaGreatDoor
end
section
/- what is reached of it -/
namespace Go.Proofs.YtfbdnaclkfmiaaaGreatDoor
open Go.RowKit Rg
set_option maxHeartbeats 400000 in
theorem grow_any (n : Nat) (w : World) (hn : n ≤ 1000000000000) : Calls Tryz.prog 251 #[.slice none 0 0, .int .i64 n] w fun e w' => ∃ v, e = .returned v ∧ OwnR w.heap.size w' v [] ∧ Below w.heap.size w w' := by
  rcases Nat.eq_zero_or_pos n with rfl | h0
  · refine (Any8.slices_Grow_room Tryz.growRng none 0 0 0 w (Nat.le_refl _) (by omega) (by omega) (by omega)).mono ?_
    rintro e w' ⟨rfl, rfl⟩
    exact ⟨_, rfl, OwnR.nil _ _, Below.refl _ _⟩
  · obtain ⟨i0, hi, hz0, hz1, hz2⟩ := info_parts infoRng
    refine (Any8.slices_Grow_grow Tryz.growRng i0 _ hi hz0 (by omega) none 0 0 n [] w (Nat.le_refl _) (by omega) (by rw [hz2]; omega) (by omega) (by simp) (fun _ => rfl) (fun a h => by cases h)).mono ?_
    rintro e w' ⟨rfl, rfl⟩
    refine ⟨_, rfl, ?_, ?_⟩
    · have h1 := grownCap_ge w (0 + n) 0 224
      have h2 := grownCap_le_maxLen w (0 + n) 0 224 (by unfold maxLen; omega)
      unfold OwnR
      rw [prs_nil]
      refine World.ownsRow_made (size := 2) w.drew _ _ (Nat.le_refl _) h2 ?_
      rw [Array.size_append, Array.size_append, size_zeroCells, size_zeroCells]
      show 0 + (0 + n - 0) * 2 + (grownCap w (0 + n) 0 224 - (0 + n)) * 2 = grownCap w (0 + n) 0 224 * 2
      omega
    · exact (Below.refl w.heap.size w).drew.alloc (Nat.le_refl _) _

set_option maxHeartbeats 2000000 in
/-- What Concat is handed: two lists, in a block. -/
theorem concat_any (g : Nat) (va vb : Value) (a b : List R) (w : World) (t : TypeId) (hk : Bk w g t #[va, vb]) (ha : ReadR w.heap.size w va a) (hb : ReadR w.heap.size w vb b) (hl : a.length ≤ 100000000000) (hm : b.length ≤ 100000000000) :
    Calls Tryz.prog 217 #[.slice (some ⟨g, 0, none⟩) 2 2] w fun e w' => ∃ v, e = .returned v ∧ OwnR w.heap.size w' v (a ++ b) ∧ Below w.heap.size w w' := by
  have HG := Lib.hid grow_any
  obtain ⟨Aa, ca, rfl, ha1, ha2⟩ := ha
  obtain ⟨Ab, cb, rfl, hb1, hb2⟩ := hb
  have HA : Hid (ReadR w.heap.size w (.slice Aa a.length ca) a) := ⟨Aa, ca, rfl, ha1, ha2⟩
  have HB : Hid (ReadR w.heap.size w (.slice Ab b.length cb) b) := ⟨Ab, cb, rfl, hb1, hb2⟩
  have HK := Lib.hid hk
  have c0 := hk.cell 0
  have c1 := hk.cell 1
  simp at c0 c1
  clear ha1 ha2 hb1 hb2 hk
  go_enter Tryz.func217, Tryz.ntmps217
  go_wp2_with fail
  go_loop [3, 11] (fun s i => (i = .int .i64 0 ∧ s = .int .i64 0) ∨ (i = .int .i64 1 ∧ s = .int .i64 a.length) ∨ (i = .int .i64 2 ∧ s = .int .i64 (a.length + b.length : Nat))) (fun _ i => 2 - (intOf i).toNat)
  case atStart => exact .inl ⟨rfl, rfl⟩
  case round =>
    rcases hrel with ⟨rfl, rfl⟩ | ⟨rfl, rfl⟩ | ⟨rfl, rfl⟩
    · go_wp2_with fail
      go_round
      case rel => exact .inr (.inl ⟨rfl, by simp⟩)
      case measure => simp [intOf]
    · go_wp2_with fail
      go_round
      case rel => exact .inr (.inr ⟨rfl, by simp⟩)
      case measure => simp [intOf]
    · go_wp2_with (go_at_call 251; refine (HG.out (a.length + b.length) _ (by omega)).mono ?_; rintro e w1 ⟨v1, rfl, o1, b1⟩)
      have hs1 := b1.size
      have c0' := ((HK.out.below b1 HK.out.lt).cell 0)
      have c1' := ((HK.out.below b1 HK.out.lt).cell 1)
      simp at c0' c1'
      clear c0 c1
      go_wp2_with fail
      go_loopw [6, 27] (fun vv i wr => ∃ v, vv = v ∧ Below w.heap.size w wr ∧ ((i = .int .i64 0 ∧ Hid (OwnR w.heap.size wr v [])) ∨ (i = .int .i64 1 ∧ Hid (OwnR w.heap.size wr v a)) ∨ (i = .int .i64 2 ∧ Hid (OwnR w.heap.size wr v (a ++ b))))) (fun _ i _ => 2 - (intOf i).toNat)
      case atStart => exact ⟨_, rfl, b1, .inl ⟨rfl, o1⟩⟩
      case round =>
        obtain ⟨v, hv, bw, hr⟩ := hrel
        have hv2 := hv.symm
        clear hv
        subst hv2
        have hsw := bw.size
        have d0 := ((HK.out.below bw HK.out.lt).cell 0)
        have d1 := ((HK.out.below bw HK.out.lt).cell 1)
        simp at d0 d1
        rcases hr with ⟨rfl, ho⟩ | ⟨rfl, ho⟩ | ⟨rfl, ho⟩
        · obtain ⟨A2, c2, rfl⟩ := ho.out.slice
          have hR : Hid (ReadR wr.heap.size wr (.slice Aa a.length ca) a) := (HA.out.below bw).more hsw
          go_wp2_with (at_builtin; refine push_all rfl _ _ rfl w.heap.size (.slice A2 ([] : List R).length c2) (.slice Aa a.length ca) [] a wr rfl ho.out rfl hR.out (by simp; omega) hsw ?_)
          intro v2 w2 o2 b2
          have o2' : Hid (OwnR w.heap.size w2 v2 a) := o2
          have b2' := bw.trans b2
          clear o2 b2
          go_wp2_with fail
          go_roundw
          case rel => exact ⟨_, rfl, b2', .inr (.inl ⟨rfl, o2'⟩)⟩
          case measure => simp [intOf]
        · obtain ⟨A2, c2, rfl⟩ := ho.out.slice
          have hR : Hid (ReadR wr.heap.size wr (.slice Ab b.length cb) b) := (HB.out.below bw).more hsw
          go_wp2_with (at_builtin; refine push_all rfl _ _ rfl w.heap.size (.slice A2 a.length c2) (.slice Ab b.length cb) a b wr rfl ho.out rfl hR.out (by omega) hsw ?_)
          intro v2 w2 o2 b2
          have o2' : Hid (OwnR w.heap.size w2 v2 (a ++ b)) := o2
          have b2' := bw.trans b2
          clear o2 b2
          go_wp2_with fail
          go_roundw
          case rel => exact ⟨_, rfl, b2', .inr (.inr ⟨rfl, o2'⟩)⟩
          case measure => simp [intOf]
        · go_wp2_with fail
          go_ret
          exact ⟨_, rfl, ho.out, bw⟩
end Go.Proofs.YtfbdnaclkfmiaaaGreatDoor
end
section
/- what is reached of it -/
namespace Go.Proofs.YtfbdnaclkfmiaaaGreatDoor
open Go.RowKit Rg
theorem flat_get (l : List R) {j : Nat} (hj : j < l.length * 2) : (prs l)[j]? = some (Go.Sort.flatK encR 2 l.toArray)[j]! := by
  rw [Go.Sort.get_flatK _ _ _ _ (by simpa using hj)]
  have h2 : j / 2 < l.length := by omega
  have hp := prs_get (List.getElem?_eq_getElem h2)
  have e : l.toArray[j / 2]! = l[j / 2] := by
    rw [getElem!_pos l.toArray (j / 2) (by simpa using h2)]
    simp
  rw [e]
  rcases Nat.mod_two_eq_zero_or_one j with h | h
  · rw [h]
    have h3 : j / 2 * 2 = j := by omega
    rw [h3] at hp
    exact hp.1
  · rw [h]
    have h3 : j / 2 * 2 + 1 = j := by omega
    rw [h3] at hp
    exact hp.2
theorem flat_size (l : List R) : (Go.Sort.flatK encR 2 l.toArray).size = l.length * 2 := by simp

/-- the row that a slice of the call's own has, as the sort asks it -/
theorem holds_of {w : World} {g : Nat} {t : TypeId} {cur : Array Value} {l : List R} (hk : Bk w g t cur) (hc : cur.toList.take (l.length * 2) = prs l) : Go.Sort.HoldsK encR 2 w g 0 l.toArray := by
  intro j hj
  rw [flat_size] at hj
  have h := flat_get l hj
  rw [← hc, List.getElem?_take_of_lt hj] at h
  rw [Nat.zero_add, hk.cell, hk.free]
  exact ⟨by rw [← Array.getElem?_toList]; exact h, rfl⟩
/-- .. and behind it -/
theorem own_sorted {B : Nat} {w : World} {g cap n : Nat} {cur : Array Value} {l d : List R} {os : Array Obj} (hk : Bk w g 224 cur) (hB : B ≤ g) (hl : l.length ≤ cap) (hm : cap ≤ maxLen) (hs : cur.size = cap * 2) (hd : d.length = l.length) :
    OwnR B (Go.Proofs.sortWorldK encR 2 w g 0 n d.toArray os) (.slice (some ⟨g, 0, none⟩) l.length cap) d ∧ Below B w (Go.Proofs.sortWorldK encR 2 w g 0 n d.toArray os) := by
  have hgl := hk.lt
  have hh : (Go.Proofs.sortWorldK encR 2 w g 0 n d.toArray os).heap = (w.heap.modify g (Go.Sort.onCells (Go.Sort.putCells id 0 (Go.Sort.flatK encR 2 d.toArray)))) ++ os := rfl
  have hk' : w.heap[g]? = some (.cells cur 224 (0, 0)) := hk
  refine ⟨⟨prs_length d, .inr ⟨g, cap, Go.Sort.putCells id 0 (Go.Sort.flatK encR 2 d.toArray) cur, by rw [hd], hB, ?_, by omega, hm, ?_, ?_⟩⟩, rfl, rfl, rfl, ?_, fun k hkb => ?_⟩
  · rw [hh, Array.getElem?_append_left (by simpa using hgl), Array.getElem?_modify, if_pos rfl, hk']
    rfl
  · simp [Go.Sort.putCells, hs]
  · refine List.ext_getElem? fun j => ?_
    by_cases hj : j < d.length * 2
    · rw [List.getElem?_take_of_lt hj, flat_get d hj, Array.getElem?_toList]
      have hjs : j < cur.size := by omega
      simp [Go.Sort.putCells, hjs, hj]
    · rw [List.getElem?_eq_none (by rw [List.length_take]; omega), List.getElem?_eq_none (by rw [prs_length]; omega)]
  · rw [hh]
    simp
  · rw [hh, Array.getElem?_append_left (by simp; omega), Array.getElem?_modify, if_neg (by omega)]

theorem cmpLt (x y : R) : ltOf (fun x y : R => Lib.compareInt x.1 y.1) x y = decide (x.1 < y.1) := by
  unfold ltOf Lib.compareInt
  by_cases h1 : x.1 < y.1
  · simp [h1]
  · by_cases h2 : y.1 < x.1 <;> simp [h1, h2]
theorem swoR : Go.Sort.SWO (ltOf fun x y : R => Lib.compareInt x.1 y.1) where
  irrefl x := by rw [cmpLt]; simp
  trans x y z h1 h2 := by rw [cmpLt] at *; simp at *; omega
  ntrans x y z h1 h2 := by rw [cmpLt] at *; simp at *; omega
set_option maxHeartbeats 1000000 in
theorem less_any (x y : R) (W : World) : Calls Tryz.prog 219 #[.agg #[.int .i64 x.1, .int .i64 x.2], .agg #[.int .i64 y.1, .int .i64 y.2]] W fun e w' => e = .returned (.int .i64 (Lib.compareInt x.1 y.1)) ∧ ∃ q os', w' = Go.Sort.grow (W.drewN q) os' := by
  have hcon := fun W' => Tryz.cmp_Compare_int x.1 y.1 W'
  generalize Lib.compareInt x.1 y.1 = r at hcon ⊢
  go_enter Tryz.func219, Tryz.ntmps219
  go_wp2_with (go_at_call 220; refine (hcon _).mono ?_; rintro e w' ⟨rfl, rfl⟩)
  go_ret
  exact ⟨rfl, 0, _, by rw [Go.Sort.alloc_eq_grow, Go.Sort.alloc_eq_grow, Go.Sort.grow_grow]; rfl⟩

theorem sort_any (B : Nat) (v : Value) (l : List R) (w : World) (h : OwnR B w v l) (hl : l.length ≤ 1000000000000) :
    Calls Tryz.prog 218 #[v, .func (.func 219) #[] #[]] w fun e w' => e = .returned (.tuple #[]) ∧ ∃ d : List R, d.Perm l ∧ (d.Pairwise fun p q => p.1 ≤ q.1) ∧ OwnR B w' v d ∧ Below B w w' := by
  by_cases hne : l = []
  · subst hne
    obtain ⟨A, cap, rfl⟩ := h.slice
    refine (AnyF.slices_SortFunc_none Tryz.sortRng A cap (.func (.func 219) #[] #[]) w).mono ?_
    rintro e w' ⟨rfl, rfl⟩
    exact ⟨rfl, [], .refl _, .nil, h, Below.refl _ _⟩
  · obtain ⟨g, cap, cur, rfl, hB, hk, hc1, hc2, hc3, hc4⟩ := h.full hne
    have eg : ∀ args w, (callFunc 219 args).run Tryz.prog w = .ok (.enter 219 args) w := Go.Proofs.enters_of Tryz.func219 (by kernel_rfl) rfl
    have hcon := AnyQ.slices_SortFunc Tryz.sortRng 2 Tryz.isAgg224 Tryz.sizeOf224 encR (fun _ => rfl) (fun x v hv => by simp [encR] at hv; rcases hv with rfl | rfl <;> rfl) (fun x y => Lib.compareInt x.1 y.1) swoR 219 #[] g 0 cap l.toArray w eg
      (fun _ _ _ _ x y => less_any x y _) (holds_of hk hc4) hk.lt (by simp; omega)
    rw [List.size_toArray] at hcon
    refine hcon.mono ?_
    rintro e w' ⟨rfl, d', n, os, hp, hs, rfl⟩
    obtain ⟨hp1, _, hp3⟩ := hp
    have hlen : d'.toList.length = l.length := by simpa using hp1
    have ho := own_sorted (n := n) (os := os) hk hB hc1 hc2 hc3 hlen
    rw [Array.toArray_toList] at ho
    have e1 : d'.extract 0 l.length = d' := by rw [← hlen]; simp
    have e2 : l.toArray.extract 0 l.length = l.toArray := by simp
    rw [e1, e2] at hp3
    refine ⟨rfl, d'.toList, hp3, ?_, ho.1, ho.2⟩
    rw [List.pairwise_iff_getElem]
    intro i j hi hj hij
    have h3 := hs i j (Nat.zero_le _) hij (by rw [← hlen]; exact hj)
    rw [cmpLt] at h3
    rw [getElem!_pos d' i (by simpa using hi), getElem!_pos d' j (by simpa using hj)] at h3
    simp at h3 ⊢
    exact h3
end Go.Proofs.YtfbdnaclkfmiaaaGreatDoor
end
