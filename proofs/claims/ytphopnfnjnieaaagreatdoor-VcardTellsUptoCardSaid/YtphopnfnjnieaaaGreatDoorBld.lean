/-
  A strings.Builder THAT THE CALL HAS MADE: what it holds, what each write adds, what turns beside it: its own block, and blocks from C on.
-/
import Derived.Test.YtphopnfnjnieaaaGreatDoorRows
import Derived.Test.YtphopnfnjnieaaaGreatDoorMem
import Derived.Test.YtphopnfnjnieaaaGreatDoorShelf
import Derived.Lib.FrozenHead2
import Derived.WalkKit
import Derived.WalkSpells
import Derived.WalkLawsBesides
namespace Go.Proofs.YtphopnfnjnieaaaGreatDoor
open Go.RowKit

/-- What a builder's call may turn: block b, and blocks from C on. -/
structure Btw (b C : Nat) (w w' : World) : Prop where
  below : Below b w w'
  mid : ∀ g, b < g → g < C → w'.heap[g]? = w.heap[g]?
theorem Btw.refl (b C : Nat) (w : World) : Btw b C w w := ⟨Below.refl _ _, fun _ _ _ => rfl⟩
theorem Btw.trans {b C : Nat} {w x y : World} (h : Btw b C w x) (k : Btw b C x y) : Btw b C w y := ⟨h.below.trans k.below, fun g h1 h2 => (k.mid g h1 h2).trans (h.mid g h1 h2)⟩
theorem Btw.of {b C D : Nat} {w x : World} (h : Below D w x) (h1 : b ≤ D) (h2 : C ≤ D) : Btw b C w x := ⟨h.mono h1, fun g _ hg => h.block g (by omega)⟩
theorem Btw.keeps {b C g : Nat} {w x : World} (h : Btw b C w x) (h1 : g ≠ b) (h2 : g < C) : x.heap[g]? = w.heap[g]? := by
  rcases Nat.lt_or_ge g b with h3 | h3
  · exact h.below.block g h3
  · exact h.mid g (by omega) h2
/-- The builder at b, its first word p, its bytes l in a row of its own from C on. -/
def Holding (b C : Nat) (p : Value) (l : List UInt8) (w : World) : Prop :=
  ∃ v, w.heap[b]? = some (.cells #[p, v] 83 (0, 0)) ∧ w.ownsRowF C 5 1 v l.length (Lib.byteCells l) ∧ b < C ∧ C ≤ w.heap.size
def Bld (b C : Nat) (l : List UInt8) (w : World) : Prop := ∃ p, (p = .pointer none ∨ p = .pointer (some ⟨b, 0, none⟩)) ∧ Holding b C p l w
theorem Holding.below {b C : Nat} {p : Value} {l : List UInt8} {w w' : World} (h : Holding b C p l w) (hb : Below w.heap.size w w') : Holding b C p l w' := by
  obtain ⟨v, h1, h2, h3, h4⟩ := h
  exact ⟨v, by rw [hb.block b (by omega)]; exact h1, h2.kept (row := none) ⟨hb.os, hb.tape, hb.output, hb.size, fun k hk _ => hb.block k hk⟩ (by cases v.ownBlock <;> simp), h3, Nat.le_trans h4 hb.size⟩
theorem Bld.below {b C : Nat} {l : List UInt8} {w w' : World} (h : Bld b C l w) (hb : Below w.heap.size w w') : Bld b C l w' := by
  obtain ⟨p, hp, h⟩ := h
  exact ⟨p, hp, h.below hb⟩
theorem Bld.start (w : World) : Bld w.heap.size (w.heap.size + 1) [] (w.alloc (.cells #[.pointer none, .slice none 0 0] 83)) :=
  ⟨_, .inl rfl, _, heap_alloc_new w _, World.ownsRowF_nil _ _ _ _, Nat.lt_succ_self _, by simp⟩
theorem Bld.lt {b C : Nat} {l : List UInt8} {w : World} (h : Bld b C l w) : b < C ∧ C ≤ w.heap.size := by
  obtain ⟨p, _, v, _, _, h3, h4⟩ := h
  exact ⟨h3, h4⟩
/-- an empty builder may be given a later C -/
theorem Bld.later {b C D : Nat} {w : World} (h : Bld b C [] w) (h1 : C ≤ D) (h2 : D ≤ w.heap.size) (hv : ∀ p v, w.heap[b]? = some (.cells #[p, v] 83 (0, 0)) → v = .slice none 0 0) : Bld b D [] w := by
  obtain ⟨p, hp, v, h3, h4, h5, h6⟩ := h
  obtain rfl := hv p v h3
  exact ⟨p, hp, _, h3, World.ownsRowF_nil _ _ _ _, by omega, h2⟩
theorem ownsRowF_mono {w : World} {C D : Nat} {e : TypeId} {v : Value} {n : Nat} {xs : List Value} (h : w.ownsRowF C e 1 v n xs) (hD : D ≤ C) : w.ownsRowF D e 1 v n xs := by
  refine ⟨h.1, ?_⟩
  rcases h.2 with hn | ⟨g, cap, cur, fz, hv, hb, rest⟩
  · exact .inl hn
  · exact .inr ⟨g, cap, cur, fz, hv, Nat.le_trans hD hb, rest⟩
theorem Bld.is {b C : Nat} {l : List UInt8} {w : World} (h : Bld b C l w) : Lib.IsBuilderF 83 5 b b (Lib.byteCells l) w := by
  obtain ⟨p, hp, v, h1, h2, h3, h4⟩ := h
  have hne : v.ownBlock ≠ some b := fun e => by have := (h2.lt b e).1; omega
  have h2' : w.ownsRowF b 5 1 v (Lib.byteCells l).length (Lib.byteCells l) := by rw [Lib.byteCells_length]; exact ownsRowF_mono h2 (by omega)
  rcases hp with rfl | rfl
  · exact .inl ⟨Nat.le_refl _, v, h1, h2', hne⟩
  · exact .inr ⟨Nat.le_refl _, v, h1, h2', hne⟩
/-- (*strings.Builder).String -/
theorem bld_String (b C : Nat) (l : List UInt8) (w : World) (h : Bld b C l w) :
    Calls Tryz.prog 49 #[.pointer (some ⟨b, 0, none⟩)] w fun e w' => e = .returned (.string ⟨l.toArray⟩) ∧ Below b w w' :=
  (Tryz.Builder_String_any_f b b l w h.is (by have := h.lt; omega)).mono fun e w' ⟨h1, _, h2⟩ => ⟨h1, h2⟩


set_option maxHeartbeats 1000000 in
set_option maxRecDepth 100000 in
theorem bld_check (b C : Nat) (l : List UInt8) (w : World) (h : Bld b C l w) :
    Calls Tryz.prog 65 #[.pointer (some ⟨b, 0, none⟩)] w fun e w' => e = .returned (.tuple #[]) ∧ Holding b C (.pointer (some ⟨b, 0, none⟩)) l w' ∧ Btw b C w w' := by
  obtain ⟨p, hp, v, h1, h2, h3, h4⟩ := h
  have HH := Lib.hid h2
  have B1 : Bk w b 83 #[p, v] := h1
  have hshape : w.shape? b = some (83, 2) := by unfold World.shape?; rw [h1]; rfl
  clear h1 h2
  have c0 := B1.cell 0
  have f0 := B1.free 0
  simp only [Nat.reduceLT, List.size_toArray, List.length_cons, List.length_nil, getElem?_pos, Nat.reduceAdd, List.getElem_toArray, List.getElem_cons_zero] at c0
  rcases hp with rfl | rfl
  · obtain ⟨i0, hi0, hi2⟩ := Option.map_eq_some_iff.1 (show (Tryz.prog.info? 83).map (·.size) = some 2 by kernel_rfl)
    have hlies : liesAt Tryz.prog Tryz.prog.depth 83 (2 / Tryz.prog.cellsOf 83) 0 83 1 = true := by kernel_rfl
    go_enter Tryz.func65, Tryz.ntmps65
    go_wp2
    rw [Lib.run_to_unsafe w ⟨b, 0, none⟩ Tryz.underlying81 Tryz.underlying122 hi0 (by rw [hi2]; decide) hshape (Nat.zero_lt_succ 1)]
    simp only [Result.andThen]
    rw [Oper.upon_value]
    go_wp2
    rw [run_callFunc_extern Tryz.func83 (by kernel_rfl) (by kernel_rfl) (by kernel_rfl) (e := Extern.AbiNoEscape.same) (by kernel_rfl)]
    rw [Lib.run_noEscape]
    simp only [Result.andThen]
    rw [Oper.upon_value]
    go_wp2
    rw [Lib.run_from_unsafe w ⟨b, 0, none⟩ Tryz.underlying122 Tryz.underlying81 hi0 hshape hlies]
    simp only [Result.andThen]
    rw [Oper.upon_value]
    go_wp2
    go_end0
    have hne : v.ownBlock = none ∨ v.ownBlock ≠ some b := .inr (fun e => by have := (HH.out.lt b e).1; omega)
    refine ⟨rfl, ⟨v, B1.put 0 (.pointer (some ⟨b, 0, none⟩)), HH.out.kept (row := some b) ⟨rfl, rfl, rfl, by simp [World.setCell], fun k _ hk => Below.heap_setCell _ _ _ _ (fun e => hk (by simp [e]))⟩ hne, h3, by simpa [World.setCell] using h4⟩, ?_⟩
    exact ⟨(Below.refl _ _).setCell (p := ⟨b, 0, none⟩) (Nat.le_refl _) _, fun g hg _ => Below.heap_setCell _ _ _ _ (fun e => by simp at e; omega)⟩
  · go_enter Tryz.func65, Tryz.ntmps65
    go_wp2
    obtain ⟨i1, hi1, _⟩ := Option.map_eq_some_iff.1 (show (Tryz.prog.info? 83).map (·.size) = some 2 by kernel_rfl)
    rw [Lib.run_neq_ptr_same w _ Tryz.underlying81 hi1]
    go_wp2
    go_end0
    exact ⟨rfl, ⟨v, B1, HH.out, h3, h4⟩, Btw.refl _ _ _⟩

theorem gtrans {a x y : World} {row : Option Nat} (h : a.grownBy x row) (k : x.grownBy y row) : a.grownBy y row :=
  ⟨k.os.trans h.os, k.tape.trans h.tape, k.output.trans h.output, Nat.le_trans h.size k.size, fun i h1 h2 => (k.block i (Nat.lt_of_lt_of_le h1 h.size) h2).trans (h.block i h1 h2)⟩
/-- what an append to the buffer, and its storing, leave behind -/
theorem wrote {b C : Nat} {p v v' : Value} {l more : List UInt8} {w w2 : World} (hb : Bk w b 83 #[p, v]) (hown : w.ownsRowF C 5 1 v l.length (Lib.byteCells l)) (h3 : b < C) (h4 : C ≤ w.heap.size)
    (hown' : w2.ownsRowF C 5 1 v' (l.length + more.length) (Lib.byteCells l ++ Lib.byteCells more)) (hg : w.grownBy w2 v.ownBlock) :
    Bk w2 b 83 #[p, v] ∧ Holding b C p (l ++ more) (w2.setCell ⟨b, 1, none⟩ v') ∧ Btw b C w (w2.setCell ⟨b, 1, none⟩ v') := by
  have hlow : ∀ k, v.ownBlock = some k → C ≤ k := fun k hk => (hown.lt k hk).1
  have hne : some b ≠ v.ownBlock := fun e => by have := hlow b e.symm; omega
  have hb2 := hb.grown hg hne
  have hne' : v'.ownBlock ≠ some b := fun e => by have := (hown'.lt b e).1; omega
  refine ⟨hb2, ⟨v', ?_, ?_, h3, ?_⟩, ?_, ?_⟩
  · have := hb2.put 1 v'
    exact this
  · have := hown'.kept (row := some b) (w' := w2.setCell ⟨b, 1, none⟩ v') ⟨rfl, rfl, rfl, by simp [World.setCell], fun k _ hk => Below.heap_setCell _ _ _ _ (fun e => hk (by simp [e]))⟩ (.inr hne')
    rw [List.length_append, Lib.byteCells_append]
    exact this
  · have := hg.size
    simp [World.setCell]; omega
  · exact ((Below.refl b w).grown hg (by omega) (fun k hk => by have := hlow k hk; omega)).setCell (p := ⟨b, 1, none⟩) (Nat.le_refl _) _
  · intro g h5 h6
    rw [Below.heap_setCell _ _ _ _ (by simp; omega)]
    exact hg.block g (by omega) (fun e => by have := hlow g e.symm; omega)

theorem infoByte : (Tryz.prog.info? 5).map (fun i => (i.zero, i.size, i.bytes)) = some (some (.int .u8 0), 1, 1) := by kernel_rfl
/-- what a walk asks of the two words of a builder -/
theorem words {b : Nat} {p v : Value} {w : World} (h : Bk w b 83 #[p, v]) : w.cell? ⟨b, 0, none⟩ = some p ∧ w.cell? ⟨b, 1, none⟩ = some v ∧ w.frozen? ⟨b, 1, none⟩ = false := by
  have c0 := h.cell 0
  have c1 := h.cell 1
  simp only [Nat.reduceLT, List.size_toArray, List.length_cons, List.length_nil, getElem?_pos, Nat.reduceAdd, List.getElem_toArray, List.getElem_cons_zero, List.getElem_cons_succ] at c0 c1
  exact ⟨c0, c1, h.free 1⟩
theorem slice_of {w : World} {C n : Nat} {v : Value} {xs : List Value} (h : w.ownsRowF C 5 1 v n xs) : ∃ a n' c, v = .slice a n' c := by
  rcases h.2 with ⟨hv, _⟩ | ⟨g, cap, cur, fz, hv, _⟩
  · exact ⟨_, _, _, hv⟩
  · exact ⟨_, _, _, hv⟩

set_option maxHeartbeats 1000000 in
set_option maxRecDepth 100000 in
/-- (*strings.Builder).WriteString -/
theorem bld_string (b C : Nat) (l : List UInt8) (s : ByteArray) (w : World) (h : Bld b C l w) (hlen : l.length + s.size ≤ 140737488355328 - 4096) :
    Calls Tryz.prog 46 #[.pointer (some ⟨b, 0, none⟩), .string s] w fun e w' => e = .returned (.tuple #[.int .i64 s.size, .nilIface]) ∧ Bld b C (l ++ s.data.toList) w' ∧ Btw b C w w' := by
  obtain ⟨i0, hi, hz0, hz1, hz2⟩ := info_parts infoByte
  go_enter Tryz.func46, Tryz.ntmps46
  go_wp2_with (go_at_call 65; refine (bld_check b C l _ h).mono ?_)
  rintro e w1 ⟨rfl, ⟨v, hb, hown, h3, h4⟩, ht⟩
  obtain ⟨c0, c1, _⟩ := words hb
  go_wp2_with (at_builtin; refine Lib.wpList_append_own_stringF _ rfl _ _ 35 9 rfl C 5 i0 Tryz.underlying35 Tryz.underlying9 hi hz0 hz1 hz2 _ _ _ rfl hown s rfl ?c3 ?c4 ?c5 ?_)
  case c3 => unfold maxLen; omega
  case c4 => omega
  case c5 => omega
  intro v' w2 hown' hgrow _
  have R := wrote (more := s.data.toList) hb hown h3 h4 (by rw [← Lib.strCells_eq, ← Lib.size_eq]; exact hown') hgrow
  obtain ⟨d0, d1, f1⟩ := words R.1
  obtain ⟨a', n', cap', rfl⟩ := slice_of hown'
  have RR := Lib.hid R
  clear R hown' hgrow
  go_wp2
  go_ret2
  exact ⟨rfl, ⟨_, .inr rfl, RR.out.2.1⟩, ht.trans RR.out.2.2⟩
end Go.Proofs.YtphopnfnjnieaaaGreatDoor
