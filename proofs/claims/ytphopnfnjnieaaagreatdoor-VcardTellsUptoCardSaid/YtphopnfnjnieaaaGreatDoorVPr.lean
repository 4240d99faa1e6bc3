/-
  MEMORY: properties of cards in rows: those that the call has made, those that stand, those that can be read; rows of such rows.
-/
import Derived.Test.YtphopnfnjnieaaaGreatDoorAtt
import Derived.Test.YtphopnfnjnieaaaGreatDoorVcd
import Derived.Laws.AppendOwn
namespace Go.Proofs.YtphopnfnjnieaaaGreatDoor
open Go.RowKit Vc

theorem infoPrp : (Tryz.prog.info? 41).map (fun i => (i.zero, i.size, i.bytes)) = some (some (.agg #[.string ⟨#[]⟩, .string ⟨#[]⟩, .slice none 0 0, .string ⟨#[]⟩]), 4, 72) := by kernel_rfl
/-- A property, and where its parameters lie. -/
abbrev PrV := Pr × Value
def encP (k : PrV) : List Value := [.string (bts k.1.1), .string (bts k.1.2.1), k.2, .string (bts k.1.2.2.2)]
abbrev agP (p : Pr) (u : Value) : Value := .agg #[.string (bts p.1), .string (bts p.2.1), u, .string (bts p.2.2.2)]
def prs (l : List PrV) : List Value := l.flatMap encP
theorem prs_nil : prs [] = [] := rfl
theorem prs_append (a b : List PrV) : prs (a ++ b) = prs a ++ prs b := by simp [prs]
theorem prs_one (k : PrV) : prs [k] = encP k := by simp [prs]
theorem prs_cons (k : PrV) (l : List PrV) : prs (k :: l) = encP k ++ prs l := by simp [prs]
theorem prs_length : ∀ (l : List PrV), (prs l).length = l.length * 4
  | [] => rfl
  | r :: l => by rw [prs_cons, List.length_append, prs_length l, List.length_cons]; simp [encP]; omega
theorem prs_get : ∀ {l : List PrV} {j i : Nat} {k : PrV}, l[j]? = some k → i < 4 → (prs l)[j * 4 + i]? = (encP k)[i]?
  | [], j, i, r, h, _ => by simp at h
  | a :: l, 0, i, r, h, hi => by
    obtain rfl : a = r := by simpa using h
    rw [prs_cons, Nat.zero_mul, Nat.zero_add, List.getElem?_append_left (by simp [encP]; omega)]
  | a :: l, j + 1, i, r, h, hi => by
    have := prs_get (l := l) (j := j) (i := i) (k := r) (by simpa using h) hi
    rw [prs_cons, List.getElem?_append_right (by simp [encP]; omega), ← this]
    congr 1
    simp [encP]
    omega
attribute [irreducible] prs
/-- Four cells of a property. -/
def AtP (w : World) (p : Addr) (x : Pr) (u : Value) : Prop := w.cell? p = some (.string (bts x.1)) ∧ w.cell? ⟨p.block, p.off + 1, none⟩ = some (.string (bts x.2.1)) ∧ w.cell? ⟨p.block, p.off + 2, none⟩ = some u ∧ w.cell? ⟨p.block, p.off + 3, none⟩ = some (.string (bts x.2.2.2))
theorem AtP.of {w w' : World} {p : Addr} {x : Pr} {u : Value} (h : AtP w p x u) (hb : w'.heap[p.block]? = w.heap[p.block]?) : AtP w' p x u := by
  have hk : ∀ j s, w'.cell? ⟨p.block, j, s⟩ = w.cell? ⟨p.block, j, s⟩ := fun j s => World.cell?_of_block (a := ⟨p.block, j, s⟩) hb
  obtain ⟨h0, h1, h2, h3⟩ := h
  refine ⟨?_, ?_, ?_, ?_⟩
  · exact (hk p.off p.spot).trans h0
  · rw [hk]; exact h1
  · rw [hk]; exact h2
  · rw [hk]; exact h3
/-- A slice of properties that can be read. -/
def ReadP (w : World) (v : Value) (ps : List Pr) : Prop := ∃ A cap, v = .slice A ps.length cap ∧ (0 < ps.length → ∃ ad : Addr, A = some ad ∧ ad.block < w.heap.size ∧ ∀ i x, ps[i]? = some x → ∃ u, AtP w (ad.add (i * 4)) x u ∧ ReadA w u x.2.2.1)
theorem ReadP.below {w w' : World} {v : Value} {ps : List Pr} (h : ReadP w v ps) (hb : Below w.heap.size w w') : ReadP w' v ps := by
  obtain ⟨A, cap, rfl, h2⟩ := h
  refine ⟨A, cap, rfl, fun h0 => ?_⟩
  obtain ⟨ad, rfl, hl, hc⟩ := h2 h0
  refine ⟨ad, rfl, Nat.lt_of_lt_of_le hl hb.size, fun i x hi => ?_⟩
  obtain ⟨u, h3, h4⟩ := hc i x hi
  exact ⟨u, h3.of (hb.block _ (by rw [addBlock]; exact hl)), h4.below hb⟩
theorem ReadP.nil (w : World) : ReadP w (.slice none 0 0) [] := ⟨none, 0, rfl, fun h => absurd h (Nat.not_lt_zero _)⟩
theorem ReadP.slice {w : World} {v : Value} {ps : List Pr} (h : ReadP w v ps) : ∃ A cap, v = .slice A ps.length cap := by
  obtain ⟨A, cap, rfl, _⟩ := h
  exact ⟨A, cap, rfl⟩
theorem ReadP.one {w : World} {v : Value} {ps : List Pr} (h : ReadP w v ps) : v.oneCell' = true := by
  obtain ⟨A, cap, rfl, _⟩ := h
  rfl

/-! ### made -/
/-- The slice v, made by the call (above block B), holds just these properties. -/
def OwnP (B : Nat) (w : World) (v : Value) (ps : List Pr) : Prop := ∃ ks : List PrV, ks.map (·.1) = ps ∧ w.ownsRow B 41 4 v ks.length (prs ks) ∧ ∀ k ∈ ks, RowA w k.2 k.1.2.2.1
theorem OwnP.nil (B : Nat) (w : World) : OwnP B w (.slice none 0 0) [] := ⟨[], rfl, by rw [prs_nil]; exact World.ownsRow_nil _ _ _ _, fun k h => by cases h⟩
theorem OwnP.slice {B : Nat} {w : World} {v : Value} {ps : List Pr} (h : OwnP B w v ps) : ∃ A cap, v = .slice A ps.length cap := by
  obtain ⟨ks, rfl, h, _⟩ := h
  rw [List.length_map]
  rcases h.2 with ⟨rfl, h0⟩ | ⟨g, cap, cur, rfl, _⟩
  · exact ⟨none, 0, by rw [h0]⟩
  · exact ⟨_, _, rfl⟩
theorem OwnP.one {B : Nat} {w : World} {v : Value} {ps : List Pr} (h : OwnP B w v ps) : v.oneCell' = true := by
  obtain ⟨A, cap, rfl⟩ := h.slice
  rfl
/-- All blocks of properties stay. -/
def KeepP (w w' : World) : Prop := ∀ k cs, Bk w k 41 cs → Bk w' k 41 cs
theorem KeepP.below {w w' : World} (h : Below w.heap.size w w') : KeepP w w' := fun _ _ hg => (h.block _ hg.lt).trans hg
theorem KeepP.set {w : World} {g : Nat} {t : TypeId} {cs : Array Value} (h : Bk w g t cs) (ht : t ≠ 41) (o : Nat) (x : Value) : KeepP w (w.setCell ⟨g, o, none⟩ x) := fun _ _ hk =>
  (Below.heap_setCell _ _ _ _ (Bk.type_ne hk h (fun e => ht e.symm))).trans hk
theorem KeepP.trans {a b c : World} (h : KeepP a b) (k : KeepP b c) : KeepP a c := fun g cs hg => k g cs (h g cs hg)
theorem OwnP.keep {B : Nat} {w w' : World} {v : Value} {ps : List Pr} (h : OwnP B w v ps) (hb : KeepP w w') (ha : KeepA w w') : OwnP B w' v ps := by
  obtain ⟨ks, h1, h2, h3⟩ := h
  exact ⟨ks, h1, ⟨h2.1, h2.2.imp id fun ⟨g, cap, cur, k1, k2, k3, k4⟩ => ⟨g, cap, cur, k1, k2, hb g cur k3, k4⟩⟩, fun k hk => (h3 k hk).keep ha⟩
theorem OwnP.below {B : Nat} {w w' : World} {v : Value} {ps : List Pr} (h : OwnP B w v ps) (hb : Below w.heap.size w w') : OwnP B w' v ps := h.keep (KeepP.below hb) (KeepA.below hb)
theorem OwnP.weak {B B' : Nat} {w : World} {v : Value} {ps : List Pr} (h : OwnP B w v ps) (hB : B' ≤ B) : OwnP B' w v ps := by
  obtain ⟨ks, h1, h2, h3⟩ := h
  exact ⟨ks, h1, ⟨h2.1, h2.2.imp id fun ⟨g, cap, cur, k1, k2, k3⟩ => ⟨g, cap, cur, k1, Nat.le_trans hB k2, k3⟩⟩, h3⟩
/-- The slice v stands (below block C): these properties. -/
def RowP (C : Nat) (w : World) (v : Value) (ps : List Pr) : Prop := ∃ A cap, v = .slice A ps.length cap ∧ (0 < ps.length → ∃ (g : Nat) (cs : Array Value) (ks : List PrV), A = some ⟨g, 0, none⟩ ∧ g < C ∧ Bk w g 41 cs ∧ ks.map (·.1) = ps ∧ cs.toList.take (ks.length * 4) = prs ks ∧ ∀ k ∈ ks, RowA w k.2 k.1.2.2.1)
theorem RowP.nil (C : Nat) (w : World) : RowP C w (.slice none 0 0) [] := ⟨none, 0, rfl, fun h => absurd h (Nat.not_lt_zero _)⟩
theorem RowP.more {C D : Nat} {w : World} {v : Value} {ps : List Pr} (h : RowP C w v ps) (hC : C ≤ D) : RowP D w v ps := by
  obtain ⟨A, cap, rfl, h2⟩ := h
  refine ⟨A, cap, rfl, fun h0 => ?_⟩
  obtain ⟨g, cs, ks, e, hg, h3⟩ := h2 h0
  exact ⟨g, cs, ks, e, by omega, h3⟩
theorem OwnP.row {B : Nat} {w : World} {v : Value} {ps : List Pr} (h : OwnP B w v ps) : RowP w.heap.size w v ps := by
  obtain ⟨ks, rfl, h', hr⟩ := h
  rcases h'.2 with ⟨rfl, h0⟩ | ⟨g, cap, cur, rfl, hg, hh, h1, h2, h3, h4⟩
  · exact ⟨none, 0, by rw [List.length_map, h0], fun h => by rw [List.length_map] at h; omega⟩
  · exact ⟨_, cap, by rw [List.length_map], fun _ => ⟨g, cur, ks, rfl, lt_of_block hh, hh, rfl, h4, hr⟩⟩
theorem RowP.keep {C : Nat} {w w' : World} {v : Value} {ps : List Pr} (h : RowP C w v ps) (hb : ∀ g cs, g < C → Bk w g 41 cs → Bk w' g 41 cs) (ha : KeepA w w') : RowP C w' v ps := by
  obtain ⟨A, cap, rfl, h2⟩ := h
  refine ⟨A, cap, rfl, fun h0 => ?_⟩
  obtain ⟨g, cs, ks, e, hg, h3, h4, h5, h6⟩ := h2 h0
  exact ⟨g, cs, ks, e, hg, hb g cs hg h3, h4, h5, fun k hk => (h6 k hk).keep ha⟩
theorem RowP.reads {C : Nat} {w : World} {v : Value} {ps : List Pr} (h : RowP C w v ps) : ReadP w v ps := by
  obtain ⟨A, cap, rfl, h2⟩ := h
  refine ⟨A, cap, rfl, fun h0 => ?_⟩
  obtain ⟨g, cs, ks, rfl, _, hh, hm, h4, hr⟩ := h2 h0
  subst hm
  refine ⟨_, rfl, hh.lt, fun i x hi => ?_⟩
  rw [List.getElem?_map] at hi
  obtain ⟨k, hk, rfl⟩ := Option.map_eq_some_iff.1 hi
  have hlt := (List.getElem?_eq_some_iff.1 hk).1
  have hc : ∀ j, j < 4 → w.cell? ⟨g, i * 4 + j, none⟩ = (encP k)[j]? := fun j hj => by
    rw [hh.cell, ← Array.getElem?_toList, ← prs_get hk hj, ← h4, List.getElem?_take_of_lt (by omega)]
  refine ⟨k.2, ?_, (hr k (List.mem_of_getElem? hk)).reads⟩
  rw [add_at, Nat.zero_add]
  exact ⟨hc 0 (by omega), hc 1 (by omega), hc 2 (by omega), hc 3 (by omega)⟩
theorem OwnP.reads {B : Nat} {w : World} {v : Value} {ps : List Pr} (h : OwnP B w v ps) : ReadP w v ps := h.row.reads

/-! ### an append of one property -/
theorem OwnP.pushed {B : Nat} {w w1 : World} {v' : Value} {ps : List Pr} {ks : List PrV} (x : Pr) (av : Value) (hks : ks.map (·.1) = ps) (h3 : ∀ k ∈ ks, RowA w k.2 k.1.2.2.1) (hu : RowA w av x.2.2.1)
    (hown : w1.ownsRow B 41 4 v' (ks.length + 1) (prs ks ++ encP (x, av))) (hA : KeepA w w1) : OwnP B w1 v' (ps ++ [x]) := by
  subst hks
  refine ⟨ks ++ [(x, av)], by simp, ?_, fun k hk => ?_⟩
  · rw [prs_append, prs_one, List.length_append, List.length_singleton]
    exact hown
  · rcases List.mem_append.1 hk with hk | hk
    · exact (h3 k hk).keep hA
    · rw [List.mem_singleton] at hk
      subst hk
      exact hu.keep hA
theorem RowA.one {w : World} {u : Value} {l : List Att} (h : RowA w u l) : u.oneCell' = true := by
  obtain ⟨A, cap, rfl, _⟩ := h
  rfl
/-- What an append of properties leaves as it was: every block of another type, every block below B. -/
def Grew (B : Nat) (w w' : World) : Prop := Below B w w' ∧ ∀ k cs t, Bk w k t cs → t ≠ 41 → Bk w' k t cs
theorem wp_push_prp {o : Oper} {a : Act} {K : Act → World → Prop} {Q : Exit → Act → World → Prop} (s y : Operand) (ho : o.op = .call { callee := .builtin .append, args := #[s, y], argTypes := #[25, 25] })
    (B : Nat) (v : Value) (ps : List Pr) (x : Pr) (av : Value) (s0 s1 s3 : ByteArray) (e0 : bts x.1 = s0) (e1 : bts x.2.1 = s1) (e3 : bts x.2.2.2 = s3) (w0 : World)
    (hs : a.eval s = v) (hown : OwnP B w0 v ps) (hu : RowA w0 av x.2.2.1) (hy : a.eval y = .slice (some ⟨w0.heap.size, 0, none⟩) 1 1) (hn : ps.length ≤ 1000000000) (hB : B ≤ w0.heap.size)
    (h : ∀ v' w', OwnP B w' v' (ps ++ [x]) → Grew B w0 w' → K (a.put o.dst v') w') : o.wp Tryz.prog a (w0.alloc (.cells #[.string s0, .string s1, av, .string s3] 41)) K Q := by
  subst e0 e1 e3
  obtain ⟨i0, hi, hz0, hz1, hz2⟩ := info_parts infoPrp
  obtain ⟨ks, hks, hown', hr⟩ := hown
  have hl : ps.length = ks.length := by rw [← hks, List.length_map]
  refine wp_append_own _ s y 25 ho B 41 i0 _ 4 72 Tryz.underlying25 hi hz0 hz1 hz2 rfl (by decide) v ks.length (prs ks) hs (hown'.alloc _) ⟨w0.heap.size, 0, none⟩ 1 1 (encP (x, av)) hy rfl ?_ ?_ ?_ (by omega) (by simp; omega) ?_
  · intro j u hj
    rw [add_at, cell_of_row _ _ _ #[_, _, _, _] _ (0, 0) (heap_alloc_new w0 _), Nat.zero_add]
    simpa [encP] using hj
  · intro u hy
    simp [encP] at hy
    rcases hy with rfl | rfl | rfl | rfl
    · rfl
    · rfl
    · exact hu.one
    · rfl
  · unfold maxLen; omega
  · intro v' w' hown2 hg _
    have hK : ∀ k cs t, Bk w0 k t cs → t ≠ 41 → Bk w' k t cs := fun k cs t hk ht => by
      refine (hg.block k (by simp; have := hk.lt; omega) (fun e => ?_)).trans (hk.alloc _)
      rcases hown'.2 with ⟨rfl, _⟩ | ⟨g', cap, cur, rfl, _, hh, _⟩
      · cases e
      · injection e with e
        subst e
        exact Bk.type_ne hk (show Bk w0 _ 41 cur from hh) ht rfl
    exact h v' w' (OwnP.pushed x av hks hr hu hown2 (fun k cs hk => hK k cs _ hk (by decide))) ⟨((Below.refl B w0).alloc hB _).grown hg (by simp; omega) (fun j hj => (World.ownsRow.lt hown' j hj).1), hK⟩
theorem push_prp {ops : Array Oper} {rest : List Oper} {o : Oper} {a : Act} {Q : Exit → Act → World → Prop} (hgd : o.guard = none) (s y : Operand) (ho : o.op = .call { callee := .builtin .append, args := #[s, y], argTypes := #[25, 25] })
    (B : Nat) (v : Value) (ps : List Pr) (x : Pr) (av : Value) (s0 s1 s3 : ByteArray) (e0 : bts x.1 = s0) (e1 : bts x.2.1 = s1) (e3 : bts x.2.2.2 = s3) (w0 : World)
    (hs : a.eval s = v) (hown : OwnP B w0 v ps) (hu : RowA w0 av x.2.2.1) (hy : a.eval y = .slice (some ⟨w0.heap.size, 0, none⟩) 1 1) (hn : ps.length ≤ 1000000000) (hB : B ≤ w0.heap.size)
    (h : ∀ v' w', OwnP B w' v' (ps ++ [x]) → Grew B w0 w' → wpList Tryz.prog ops Q rest (a.put o.dst v') w') : wpList Tryz.prog ops Q (o :: rest) a (w0.alloc (.cells #[.string s0, .string s1, av, .string s3] 41)) :=
  wpList_plain hgd (fun _ hK => wp_push_prp s y ho B v ps x av s0 s1 s3 e0 e1 e3 w0 hs hown hu hy hn hB (fun v' w' h1 h2 => hK _ _ (h v' w' h1 h2)))
theorem step_prp {ops : Array Oper} {o : Oper} {a : Act} {K : Act → World → Prop} {Q : Exit → Act → World → Prop} {E : Prop} (hgd : o.guard = none) (s y : Operand) (ho : o.op = .call { callee := .builtin .append, args := #[s, y], argTypes := #[25, 25] })
    (B : Nat) (v : Value) (ps : List Pr) (x : Pr) (av : Value) (s0 s1 s3 : ByteArray) (e0 : bts x.1 = s0) (e1 : bts x.2.1 = s1) (e3 : bts x.2.2.2 = s3) (w0 : World)
    (hs : a.eval s = v) (hown : OwnP B w0 v ps) (hu : RowA w0 av x.2.2.1) (hy : a.eval y = .slice (some ⟨w0.heap.size, 0, none⟩) 1 1) (hn : ps.length ≤ 1000000000) (hB : B ≤ w0.heap.size)
    (h : ∀ v' w', OwnP B w' v' (ps ++ [x]) → Grew B w0 w' → K (a.put o.dst v') w') : if Region.wanted o (yielded ops a.tmps) = true then Oper.wp Tryz.prog o a (w0.alloc (.cells #[.string s0, .string s1, av, .string s3] 41)) K Q else E := by
  rw [if_pos (by simp [Region.wanted, hgd])]
  exact wp_push_prp s y ho B v ps x av s0 s1 s3 e0 e1 e3 w0 hs hown hu hy hn hB h
end Go.Proofs.YtphopnfnjnieaaaGreatDoor
