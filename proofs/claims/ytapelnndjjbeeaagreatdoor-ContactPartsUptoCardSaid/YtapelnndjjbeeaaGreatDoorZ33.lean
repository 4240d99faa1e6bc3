import Derived.Test.YtapelnndjjbeeaaGreatDoorZ18
import Derived.Test.YtapelnndjjbeeaaGreatDoorZ03
import Derived.Test.YtapelnndjjbeeaaGreatDoorZ28
import Derived.Test.YtapelnndjjbeeaaGreatDoorZ31
import Derived.Test.YtapelnndjjbeeaaGreatDoorZ32
import Derived.Laws.EntriesVeiled
import Derived.Test.YtapelnndjjbeeaaGreatDoorZ17
import Derived.Deep.RegionWith
import Derived.Deep.RegionLaw
import Derived.Deep.QuietTactic
import Derived.BigQuiet
section
/- what is reached of it -/
namespace Go.Proofs.YtapelnndjjbeeaaGreatDoor
open Go.RowKit Vc Ct
/-- An append of one thing, whatever it is. -/
theorem push_gen {ops : Array Oper} {rest : List Oper} {o : Oper} {a : Act} {Q : Exit → Act → World → Prop} {S T : TypeId} {z : Value} {k bytes : Nat} (hS : Tryz.prog.underlying S = some (.slice T)) (hi : (Tryz.prog.info? T).map (fun i => (i.zero, i.size, i.bytes)) = some (some z, k, bytes)) (hzc : z.cells.size = k) (hk0 : 0 < k)
    (hgd : o.guard = none) (s x : Operand) (ho : o.op = .call { callee := .builtin .append, args := #[s, x], argTypes := #[S, S] })
    (B : Nat) (v : Value) (n : Nat) (xs ys : List Value) (cs : Array Value) (hcs : cs.toList = ys) (hyl : ys.length = k) (w0 : World) (hs : a.eval s = v) (hown : w0.ownsRow B T k v n xs) (hx : a.eval x = .slice (some ⟨w0.heap.size, 0, none⟩) 1 1) (h1 : ∀ u ∈ ys, u.oneCell' = true)
    (hb : (n + 1) * bytes ≤ 140737488355328) (hn : n ≤ 1000000000) (hB : B ≤ w0.heap.size)
    (h : ∀ v' w', w'.ownsRow B T k v' (n + 1) (xs ++ ys) → Below B w0 w' → (∀ g, g < w0.heap.size → some g ≠ v.ownBlock → w'.heap[g]? = w0.heap[g]?) → wpList Tryz.prog ops Q rest (a.put o.dst v') w') : wpList Tryz.prog ops Q (o :: rest) a (w0.alloc (.cells cs T)) := by
  obtain ⟨i0, hi, hz0, hz1, hz2⟩ := info_parts hi
  subst hcs
  refine wpList_append_own _ hgd s x S ho B T i0 z k bytes hS hi hz0 hz1 hz2 hzc hk0 v n xs hs (hown.alloc _) ⟨w0.heap.size, 0, none⟩ 1 1 cs.toList hx (by omega) ?_ h1 ?_ hb (by simp; omega) ?_
  · intro j u hj
    rw [add_at, cell_of_row _ _ _ cs _ (0, 0) (heap_alloc_new w0 _), Nat.zero_add]
    simpa using hj
  · unfold maxLen; omega
  · intro v' w' h1 hg _
    refine h v' w' h1 (((Below.refl B w0).alloc hB _).grown hg (by simp; omega) (fun j hj => (World.ownsRow.lt hown j hj).1)) (fun g hg2 hne => ?_)
    exact (hg.block g (by simp; omega) hne).trans (Below.heap_alloc w0 _ g hg2)

def conCells (c : Con) (g o : Value) : Array Value := #[.string (bts c.name), .string (bts c.family), .string (bts c.given), .string (bts c.nick), .string (bts c.jid), .string (bts c.email), .string (bts c.tel), .string (bts c.note), .string (bts c.uid), g, o]
abbrev agC (c : Con) (g o : Value) : Value := .agg (conCells c g o)
/-- Attributes, properties that can be read, each at a place of its own. -/
def SeenA (w : World) (u : Value) (l : List Att) : Prop := ∃ A cap, u = .slice A l.length cap ∧ (0 < l.length → ∃ b o : Nat, A = some ⟨b, o, none⟩ ∧ b < w.heap.size ∧ ∀ i a, l[i]? = some a → w.cell? ⟨b, o + i * 2, none⟩ = some (.string (bts a.1)) ∧ w.cell? ⟨b, o + i * 2 + 1, none⟩ = some (.string (bts a.2)))
theorem SeenA.reads {w : World} {u : Value} {l : List Att} (h : SeenA w u l) : ReadA w u l := by
  obtain ⟨A, cap, rfl, h2⟩ := h
  refine ⟨A, cap, rfl, fun h0 => ?_⟩
  obtain ⟨b, o, rfl, hl, hc⟩ := h2 h0
  refine ⟨_, rfl, hl, fun i a hi => ?_⟩
  rw [add_at]
  exact hc i a hi
theorem SeenA.below {w w' : World} {u : Value} {l : List Att} (h : SeenA w u l) (hb : Below w.heap.size w w') : SeenA w' u l := by
  obtain ⟨A, cap, rfl, h2⟩ := h
  refine ⟨A, cap, rfl, fun h0 => ?_⟩
  obtain ⟨b, o, rfl, hl, hc⟩ := h2 h0
  refine ⟨b, o, rfl, Nat.lt_of_lt_of_le hl hb.size, fun i a hi => ?_⟩
  rw [hb.cell (p := ⟨b, o + i * 2, none⟩) hl, hb.cell (p := ⟨b, o + i * 2 + 1, none⟩) hl]
  exact hc i a hi
theorem RowA.seen {w : World} {u : Value} {l : List Att} (h : RowA w u l) : SeenA w u l := by
  obtain ⟨A, cap, rfl, h2⟩ := h.cells
  refine ⟨A, cap, rfl, fun h0 => ?_⟩
  obtain ⟨g, rfl, hl, hc⟩ := h2 h0
  refine ⟨g, 0, rfl, hl, fun i a hi => ?_⟩
  rw [Nat.zero_add]
  exact hc i a hi
def SeenP (w : World) (v : Value) (ps : List Pr) : Prop := ∃ A cap, v = .slice A ps.length cap ∧ (0 < ps.length → ∃ ad : Addr, A = some ad ∧ ad.block < w.heap.size ∧ ∀ i x, ps[i]? = some x → ∃ u, AtP w (ad.add (i * 4)) x u ∧ SeenA w u x.2.2.1)
theorem SeenP.reads {w : World} {v : Value} {ps : List Pr} (h : SeenP w v ps) : ReadP w v ps := by
  obtain ⟨A, cap, rfl, h2⟩ := h
  refine ⟨A, cap, rfl, fun h0 => ?_⟩
  obtain ⟨ad, rfl, hl, hc⟩ := h2 h0
  refine ⟨ad, rfl, hl, fun i x hi => ?_⟩
  obtain ⟨u, h3, h4⟩ := hc i x hi
  exact ⟨u, h3, h4.reads⟩
theorem SeenP.below {w w' : World} {v : Value} {ps : List Pr} (h : SeenP w v ps) (hb : Below w.heap.size w w') : SeenP w' v ps := by
  obtain ⟨A, cap, rfl, h2⟩ := h
  refine ⟨A, cap, rfl, fun h0 => ?_⟩
  obtain ⟨ad, rfl, hl, hc⟩ := h2 h0
  refine ⟨ad, rfl, Nat.lt_of_lt_of_le hl hb.size, fun i x hi => ?_⟩
  obtain ⟨u, h3, h4⟩ := hc i x hi
  exact ⟨u, h3.of (hb.block _ (by rw [addBlock]; exact hl)), h4.below hb⟩
theorem SeenP.nil (w : World) : SeenP w (.slice none 0 0) [] := ⟨none, 0, rfl, fun h => absurd h (Nat.not_lt_zero _)⟩
/-- a row of properties that the call has made, whose parameters can be read -/
theorem seen_row {B : Nat} {w : World} {v : Value} {ks : List PrV} (h : w.ownsRow B 41 4 v ks.length (prv ks)) (hr : ∀ k ∈ ks, SeenA w k.2 k.1.2.2.1) : SeenP w v (ks.map (·.1)) := by
  rcases h.2 with ⟨rfl, h0⟩ | ⟨g, cap, cur, rfl, hg, hh, _⟩
  · exact ⟨none, 0, by rw [List.length_map, h0], fun h => by rw [List.length_map] at h; omega⟩
  · refine ⟨_, cap, by rw [List.length_map], fun _ => ⟨_, rfl, lt_of_block hh, fun i x hi => ?_⟩⟩
    rw [List.getElem?_map] at hi
    obtain ⟨k, hk, rfl⟩ := Option.map_eq_some_iff.1 hi
    have hc : ∀ j v, j < 4 → (encP k)[j]? = some v → w.cell? ⟨g, i * 4 + j, none⟩ = some v := fun j v hj hv => by
      have := h.cells (g := g) rfl (i * 4 + j) v (by rw [prv_get hk hj]; exact hv)
      rw [add_at, Nat.zero_add] at this
      exact this
    refine ⟨k.2, ?_, hr k (List.mem_of_getElem? hk)⟩
    rw [add_at, Nat.zero_add]
    exact ⟨hc 0 _ (by decide) rfl, hc 1 _ (by decide) rfl, hc 2 _ (by decide) rfl, hc 3 _ (by decide) rfl⟩
theorem OwnP.seen {B : Nat} {w : World} {v : Value} {ps : List Pr} (h : OwnP B w v ps) : SeenP w v ps := by
  obtain ⟨ks, rfl, h2, h3⟩ := h
  exact seen_row h2 fun k hk => (h3 k hk).seen
/-- A contact that can be read. -/
def SeenC (w : World) (v : Value) (c : Con) : Prop := ∃ g o, v = agC c g o ∧ ReadT w.heap.size w g (sts c.groups) ∧ SeenP w o c.other
theorem ReadT.upon {w w' : World} {v : Value} {x : List ByteArray} (h : ReadT w.heap.size w v x) (hb : Below w.heap.size w w') : ReadT w'.heap.size w' v x := (h.below hb).more hb.size
theorem SeenC.below {w w' : World} {v : Value} {c : Con} (h : SeenC w v c) (hb : Below w.heap.size w w') : SeenC w' v c := by
  obtain ⟨g, o, rfl, h1, h2⟩ := h
  exact ⟨g, o, rfl, h1.upon hb, h2.below hb⟩
theorem seen_none (w : World) : SeenC w (agC noneC (.slice none 0 0) (.slice none 0 0)) noneC := ⟨_, _, rfl, ReadT.nil _ _ _, SeenP.nil _⟩
end Go.Proofs.YtapelnndjjbeeaaGreatDoor
end
section
/- what is reached of it -/
namespace Go.Proofs.YtapelnndjjbeeaaGreatDoor
open Go.RowKit Vc Ct
/-- the function that tells a kind's field; its place in a contact -/
def fieldF : Nat → Nat
  | 0 => 90
  | 2 => 93
  | 4 => 96
  | 5 => 97
  | 7 => 100
  | _ => 101
def isT (i : Nat) : Bool := i != 1 && i != 3 && i != 6
def putV (b : Nat → Nat) : Nat → Value
  | 1 => .func (.func 91) #[] #[]
  | 3 => .func (.func 94) #[] #[]
  | 6 => .func (.func 98) #[] #[]
  | i => .func (.func 153) #[] #[.pointer (some ⟨b i, 0, none⟩)]
def textsV (b : Nat → Nat) : Nat → Value
  | 1 => .func (.func 92) #[] #[]
  | 3 => .func (.func 95) #[] #[]
  | 6 => .func (.func 99) #[] #[]
  | i => .func (.func 154) #[] #[.pointer (some ⟨b i, 0, none⟩)]
/-- a kind's five cells -/
def encK (b : Nat → Nat) (i : Nat) : List Value := [.string (bts (kname i)), .string (bts (kstart i)), .string (bts (ksep i)), putV b i, textsV b i]
theorem encK_len (b : Nat → Nat) (i : Nat) : (encK b i).length = 5 := rfl
/-- what the kinds' functions have taken along -/
def KindsAt (b : Nat → Nat) (w : World) : Prop := ∀ i, i < 9 → isT i = true → Bk w (b i) 130 #[.func (.func (fieldF i)) #[] #[]]
theorem KindsAt.below {b : Nat → Nat} {w w' : World} (h : KindsAt b w) (hb : Below w.heap.size w w') : KindsAt b w' := fun i hi ht => (h i hi ht).below hb (h i hi ht).lt
set_option maxHeartbeats 1000000 in
theorem ctText_any (n : ByteArray) (F : Nat) (w : World) :
    Calls Tryz.prog 89 #[.string n, .func (.func F) #[] #[]] w fun e w' => e = .returned (.agg #[.string n, .string ⟨#[]⟩, .string ⟨#[]⟩, .func (.func 153) #[] #[.pointer (some ⟨w.heap.size, 0, none⟩)], .func (.func 154) #[] #[.pointer (some ⟨w.heap.size, 0, none⟩)]]) ∧
      Bk w' w.heap.size 130 #[.func (.func F) #[] #[]] ∧ Below w.heap.size w w' := by
  go_enter Tryz.func89, Tryz.ntmps89
  go_wp2_with fail
  obtain ⟨W2, hW2⟩ : ∃ W2, (w.alloc (.cells #[.func (.func F) #[] #[]] 130)).alloc (.cells #[.string n, .string ⟨#[]⟩, .string ⟨#[]⟩, .func (.func 153) #[] #[.pointer (some ⟨w.heap.size, 0, none⟩)], .func (.func 154) #[] #[.pointer (some ⟨w.heap.size, 0, none⟩)]] 81) = W2 := ⟨_, rfl⟩
  have k2 : Bk W2 (w.heap.size + 1) 81 #[.string n, .string ⟨#[]⟩, .string ⟨#[]⟩, .func (.func 153) #[] #[.pointer (some ⟨w.heap.size, 0, none⟩)], .func (.func 154) #[] #[.pointer (some ⟨w.heap.size, 0, none⟩)]] := by rw [← hW2]; exact Bk.new1 _ _ _ _
  have k1 : Bk W2 w.heap.size 130 #[.func (.func F) #[] #[]] := by rw [← hW2]; exact (Bk.new _ _ _).alloc _
  have b2 : Below w.heap.size w W2 := by rw [← hW2]; exact ((Below.refl _ w).alloc (Nat.le_refl _) _).alloc (by simp) _
  have q0 := k2.cell 0
  have q1 := k2.cell 1
  have q2 := k2.cell 2
  have q3 := k2.cell 3
  have q4 := k2.cell 4
  rw [hW2]
  refine bodyPost_ret (v := .agg #[.string n, .string ⟨#[]⟩, .string ⟨#[]⟩, .func (.func 153) #[] #[.pointer (some ⟨w.heap.size, 0, none⟩)], .func (.func 154) #[] #[.pointer (some ⟨w.heap.size, 0, none⟩)]]) (by simp [results, Tryz.results89, go_sem, q0, q1, q2, q3, q4]) rfl ⟨rfl, k1, b2⟩
/-- what kinds answers -/
def KindsV (B : Nat) (e : Ending) (w' : World) : Prop := ∃ (b : Nat → Nat) (gk : Nat), e = .returned (.slice (some ⟨gk, 0, none⟩) 9 9) ∧ B ≤ gk ∧ Bk w' gk 81 ((allK.flatMap (encK b)).toArray) ∧ KindsAt b w' ∧ ∀ i, i < 9 → isT i = true → B ≤ b i
set_option maxHeartbeats 4000000 in
set_option maxRecDepth 100000 in
theorem kinds_any (w : World) : Calls Tryz.prog 42 #[] w fun e w' => KindsV w.heap.size e w' ∧ Below w.heap.size w w' := by
  go_enter Tryz.func42, Tryz.ntmps42
  go_wp2_with fail
  refine (ctText_any _ _ _).mono ?_
  rintro e w0 ⟨rfl, k0, b0⟩
  have K0 := Lib.hid k0
  have B0 := Lib.hid b0
  clear k0 b0
  go_wp2_with fail
  refine (ctText_any _ _ _).mono ?_
  rintro e w1 ⟨rfl, k1, b1⟩
  have K1 := Lib.hid k1
  have B1 := Lib.hid b1
  clear k1 b1
  go_wp2_with fail
  refine (ctText_any _ _ _).mono ?_
  rintro e w2 ⟨rfl, k2, b2⟩
  have K2 := Lib.hid k2
  have B2 := Lib.hid b2
  clear k2 b2
  go_wp2_with fail
  refine (ctText_any _ _ _).mono ?_
  rintro e w3 ⟨rfl, k3, b3⟩
  have K3 := Lib.hid k3
  have B3 := Lib.hid b3
  clear k3 b3
  go_wp2_with fail
  refine (ctText_any _ _ _).mono ?_
  rintro e w4 ⟨rfl, k4, b4⟩
  have K4 := Lib.hid k4
  have B4 := Lib.hid b4
  clear k4 b4
  go_wp2_with fail
  refine (ctText_any _ _ _).mono ?_
  rintro e w5 ⟨rfl, k5, b5⟩
  have K5 := Lib.hid k5
  have B5 := Lib.hid b5
  clear k5 b5
  go_wp2_with fail
  go_ret
  obtain ⟨b, hb⟩ : ∃ b : Nat → Nat, b = fun i => if i = 0 then w.heap.size else if i = 2 then w0.heap.size else if i = 4 then w1.heap.size else if i = 5 then w2.heap.size else if i = 7 then w3.heap.size else w4.heap.size := ⟨_, rfl⟩
  have z0 := B0.out.size
  have z1 := B1.out.size
  have z2 := B2.out.size
  have z3 := B3.out.size
  have z4 := B4.out.size
  have z5 := B5.out.size
  have c1 := B1.out
  have c2 := c1.trans (B2.out.mono z1)
  have c3 := c2.trans (B3.out.mono (by omega))
  have c4 := c3.trans (B4.out.mono (by omega))
  have c5 := c4.trans (B5.out.mono (by omega))
  refine ⟨⟨b, w5.heap.size, rfl, by omega, ?_, ?_, ?_⟩, ((B0.out.trans (c5.mono z0)).alloc (by omega) _)⟩
  · subst hb
    exact Bk.new _ _ _
  · intro i hi ht
    refine Bk.alloc ?_ _
    have d5 := B5.out
    have d4 := B4.out.trans (d5.mono z4)
    have d3 := B3.out.trans (d4.mono z3)
    have d2 := B2.out.trans (d3.mono z2)
    rcases kcases hi with rfl | rfl | rfl | rfl | rfl | rfl | rfl | rfl | rfl
    · subst hb; exact K0.out.below c5 K0.out.lt
    · cases ht
    · subst hb; exact K1.out.below d2 K1.out.lt
    · cases ht
    · subst hb; exact K2.out.below d3 K2.out.lt
    · subst hb; exact K3.out.below d4 K3.out.lt
    · cases ht
    · subst hb; exact K4.out.below d5 K4.out.lt
    · subst hb; exact K5.out
  · intro i hi ht
    rcases kcases hi with rfl | rfl | rfl | rfl | rfl | rfl | rfl | rfl | rfl <;> subst hb <;> first | (cases ht; done) | (simp; omega) | simp
end Go.Proofs.YtapelnndjjbeeaaGreatDoor
end
section
/- what is reached of it -/
namespace Go.Proofs.YtapelnndjjbeeaaGreatDoor
open Go.RowKit Vc Ct
/-- a kind's place in a contact -/
def fieldO : Nat → Nat
  | 0 => 0
  | 2 => 3
  | 4 => 5
  | 5 => 6
  | 7 => 7
  | _ => 8
theorem grown_setD (w : World) {g : Nat} (o : Nat) (u : Value) (row : Nat) (hr : row = g := by rfl) : w.grownBy ((w.setCell ⟨g, o, none⟩ u).drew) (some row) := by
  subst hr
  have h := grown_set (w := w) (b := row) (o := o) u
  exact ⟨h.os, h.tape, h.output, h.size, h.block⟩
set_option maxHeartbeats 1000000 in
theorem field_any {i : Nat} (hi : i < 9) (ht : isT i = true) (g : Nat) (w : World) : Calls Tryz.prog (fieldF i) #[.pointer (some ⟨g, 0, none⟩)] w fun e w' => e = .returned (.pointer (some ⟨g, fieldO i, none⟩)) ∧ w' = w := by
  rcases kcases hi with rfl | rfl | rfl | rfl | rfl | rfl | rfl | rfl | rfl
  · show Calls Tryz.prog 90 _ _ _
    go_enter Tryz.func90, Tryz.ntmps90
    go_wp2_with fail
    go_ret
    exact ⟨rfl, rfl⟩
  · cases ht
  · show Calls Tryz.prog 93 _ _ _
    go_enter Tryz.func93, Tryz.ntmps93
    go_wp2_with fail
    go_ret
    exact ⟨rfl, rfl⟩
  · cases ht
  · show Calls Tryz.prog 96 _ _ _
    go_enter Tryz.func96, Tryz.ntmps96
    go_wp2_with fail
    go_ret
    exact ⟨rfl, rfl⟩
  · show Calls Tryz.prog 97 _ _ _
    go_enter Tryz.func97, Tryz.ntmps97
    go_wp2_with fail
    go_ret
    exact ⟨rfl, rfl⟩
  · cases ht
  · show Calls Tryz.prog 100 _ _ _
    go_enter Tryz.func100, Tryz.ntmps100
    go_wp2_with fail
    go_ret
    exact ⟨rfl, rfl⟩
  · show Calls Tryz.prog 101 _ _ _
    go_enter Tryz.func101, Tryz.ntmps101
    go_wp2_with fail
    go_ret
    exact ⟨rfl, rfl⟩
/-- What becomes of a contact whose kind has been put in: err 0, the cells, all other blocks as they were. -/
def PutV (g : Nat) (c : Con) (gv o : Value) (W : World) (e : Ending) (W' : World) : Prop := e = .returned (.int .i64 0) ∧ Bk W' g 25 (conCells c gv o) ∧ W.grownBy W' (some g)
set_option maxHeartbeats 1000000 in
theorem putText0 (b : Nat) (g : Nat) (c : Con) (gv o : Value) (ta : Addr) (cap : Nat) (x : List UInt8) (W : World) (hk : Bk W g 25 (conCells c gv o)) (hb : Bk W b 130 #[.func (.func (fieldF 0)) #[] #[]]) (hx : W.cell? ta = some (.string (bts x))) :
    Calls Tryz.prog 153 #[.pointer (some ⟨g, 0, none⟩), .slice (some ta) 1 cap, .pointer (some ⟨b, 0, none⟩)] W (PutV g (setC (kname 0) x c) gv o W) := by
  have hb0 : W.cell? ⟨b, 0, none⟩ = some (.func (.func 90) #[] #[]) := hb.cell 0
  obtain ⟨X, hX⟩ : ∃ X, bts x = X := ⟨_, rfl⟩
  have HS : Hid ((conCells c gv o).setIfInBounds 0 (.string X) = conCells (setC (kname 0) x c) gv o) := by rw [← hX]; rfl
  have HC : Hid (∀ w, Calls Tryz.prog 90 #[.pointer (some ⟨g, 0, none⟩)] w fun e w' => e = .returned (.pointer (some ⟨g, 0, none⟩)) ∧ w' = w) := fun w => field_any (i := 0) (by omega) rfl g w
  rw [hX] at hx
  have HK := Lib.hid hk
  have hfz : W.frozen? ⟨g, 0, none⟩ = false := hk.free 0
  have hcl : W.cell? ⟨g, 0, none⟩ = some (.string (bts c.name)) := hk.cell 0
  clear hk hX
  go_enter Tryz.func153, Tryz.ntmps153
  go_wp2_with fail
  go_region_with ((go_at_call 90; refine (HC.out _).mono ?_; rintro e w1 ⟨rfl, rfl⟩))
  all_goals
    go_wp2_with fail
    go_ret
    have k9 := HK.out.put 0 (.string X)
    rw [HS.out] at k9
    exact ⟨rfl, k9, grown_setD _ 0 _ g⟩
set_option maxHeartbeats 1000000 in
theorem putText2 (b : Nat) (g : Nat) (c : Con) (gv o : Value) (ta : Addr) (cap : Nat) (x : List UInt8) (W : World) (hk : Bk W g 25 (conCells c gv o)) (hb : Bk W b 130 #[.func (.func (fieldF 2)) #[] #[]]) (hx : W.cell? ta = some (.string (bts x))) :
    Calls Tryz.prog 153 #[.pointer (some ⟨g, 0, none⟩), .slice (some ta) 1 cap, .pointer (some ⟨b, 0, none⟩)] W (PutV g (setC (kname 2) x c) gv o W) := by
  have hb0 : W.cell? ⟨b, 0, none⟩ = some (.func (.func 93) #[] #[]) := hb.cell 0
  obtain ⟨X, hX⟩ : ∃ X, bts x = X := ⟨_, rfl⟩
  have HS : Hid ((conCells c gv o).setIfInBounds 3 (.string X) = conCells (setC (kname 2) x c) gv o) := by rw [← hX]; rfl
  have HC : Hid (∀ w, Calls Tryz.prog 93 #[.pointer (some ⟨g, 0, none⟩)] w fun e w' => e = .returned (.pointer (some ⟨g, 3, none⟩)) ∧ w' = w) := fun w => field_any (i := 2) (by omega) rfl g w
  rw [hX] at hx
  have HK := Lib.hid hk
  have hfz : W.frozen? ⟨g, 3, none⟩ = false := hk.free 3
  have hcl : W.cell? ⟨g, 3, none⟩ = some (.string (bts c.nick)) := hk.cell 3
  clear hk hX
  go_enter Tryz.func153, Tryz.ntmps153
  go_wp2_with fail
  go_region_with ((go_at_call 93; refine (HC.out _).mono ?_; rintro e w1 ⟨rfl, rfl⟩))
  all_goals
    go_wp2_with fail
    go_ret
    have k9 := HK.out.put 3 (.string X)
    rw [HS.out] at k9
    exact ⟨rfl, k9, grown_setD _ 3 _ g⟩
set_option maxHeartbeats 1000000 in
theorem putText4 (b : Nat) (g : Nat) (c : Con) (gv o : Value) (ta : Addr) (cap : Nat) (x : List UInt8) (W : World) (hk : Bk W g 25 (conCells c gv o)) (hb : Bk W b 130 #[.func (.func (fieldF 4)) #[] #[]]) (hx : W.cell? ta = some (.string (bts x))) :
    Calls Tryz.prog 153 #[.pointer (some ⟨g, 0, none⟩), .slice (some ta) 1 cap, .pointer (some ⟨b, 0, none⟩)] W (PutV g (setC (kname 4) x c) gv o W) := by
  have hb0 : W.cell? ⟨b, 0, none⟩ = some (.func (.func 96) #[] #[]) := hb.cell 0
  obtain ⟨X, hX⟩ : ∃ X, bts x = X := ⟨_, rfl⟩
  have HS : Hid ((conCells c gv o).setIfInBounds 5 (.string X) = conCells (setC (kname 4) x c) gv o) := by rw [← hX]; rfl
  have HC : Hid (∀ w, Calls Tryz.prog 96 #[.pointer (some ⟨g, 0, none⟩)] w fun e w' => e = .returned (.pointer (some ⟨g, 5, none⟩)) ∧ w' = w) := fun w => field_any (i := 4) (by omega) rfl g w
  rw [hX] at hx
  have HK := Lib.hid hk
  have hfz : W.frozen? ⟨g, 5, none⟩ = false := hk.free 5
  have hcl : W.cell? ⟨g, 5, none⟩ = some (.string (bts c.email)) := hk.cell 5
  clear hk hX
  go_enter Tryz.func153, Tryz.ntmps153
  go_wp2_with fail
  go_region_with ((go_at_call 96; refine (HC.out _).mono ?_; rintro e w1 ⟨rfl, rfl⟩))
  all_goals
    go_wp2_with fail
    go_ret
    have k9 := HK.out.put 5 (.string X)
    rw [HS.out] at k9
    exact ⟨rfl, k9, grown_setD _ 5 _ g⟩
set_option maxHeartbeats 1000000 in
theorem putText5 (b : Nat) (g : Nat) (c : Con) (gv o : Value) (ta : Addr) (cap : Nat) (x : List UInt8) (W : World) (hk : Bk W g 25 (conCells c gv o)) (hb : Bk W b 130 #[.func (.func (fieldF 5)) #[] #[]]) (hx : W.cell? ta = some (.string (bts x))) :
    Calls Tryz.prog 153 #[.pointer (some ⟨g, 0, none⟩), .slice (some ta) 1 cap, .pointer (some ⟨b, 0, none⟩)] W (PutV g (setC (kname 5) x c) gv o W) := by
  have hb0 : W.cell? ⟨b, 0, none⟩ = some (.func (.func 97) #[] #[]) := hb.cell 0
  obtain ⟨X, hX⟩ : ∃ X, bts x = X := ⟨_, rfl⟩
  have HS : Hid ((conCells c gv o).setIfInBounds 6 (.string X) = conCells (setC (kname 5) x c) gv o) := by rw [← hX]; rfl
  have HC : Hid (∀ w, Calls Tryz.prog 97 #[.pointer (some ⟨g, 0, none⟩)] w fun e w' => e = .returned (.pointer (some ⟨g, 6, none⟩)) ∧ w' = w) := fun w => field_any (i := 5) (by omega) rfl g w
  rw [hX] at hx
  have HK := Lib.hid hk
  have hfz : W.frozen? ⟨g, 6, none⟩ = false := hk.free 6
  have hcl : W.cell? ⟨g, 6, none⟩ = some (.string (bts c.tel)) := hk.cell 6
  clear hk hX
  go_enter Tryz.func153, Tryz.ntmps153
  go_wp2_with fail
  go_region_with ((go_at_call 97; refine (HC.out _).mono ?_; rintro e w1 ⟨rfl, rfl⟩))
  all_goals
    go_wp2_with fail
    go_ret
    have k9 := HK.out.put 6 (.string X)
    rw [HS.out] at k9
    exact ⟨rfl, k9, grown_setD _ 6 _ g⟩
set_option maxHeartbeats 1000000 in
theorem putText7 (b : Nat) (g : Nat) (c : Con) (gv o : Value) (ta : Addr) (cap : Nat) (x : List UInt8) (W : World) (hk : Bk W g 25 (conCells c gv o)) (hb : Bk W b 130 #[.func (.func (fieldF 7)) #[] #[]]) (hx : W.cell? ta = some (.string (bts x))) :
    Calls Tryz.prog 153 #[.pointer (some ⟨g, 0, none⟩), .slice (some ta) 1 cap, .pointer (some ⟨b, 0, none⟩)] W (PutV g (setC (kname 7) x c) gv o W) := by
  have hb0 : W.cell? ⟨b, 0, none⟩ = some (.func (.func 100) #[] #[]) := hb.cell 0
  obtain ⟨X, hX⟩ : ∃ X, bts x = X := ⟨_, rfl⟩
  have HS : Hid ((conCells c gv o).setIfInBounds 7 (.string X) = conCells (setC (kname 7) x c) gv o) := by rw [← hX]; rfl
  have HC : Hid (∀ w, Calls Tryz.prog 100 #[.pointer (some ⟨g, 0, none⟩)] w fun e w' => e = .returned (.pointer (some ⟨g, 7, none⟩)) ∧ w' = w) := fun w => field_any (i := 7) (by omega) rfl g w
  rw [hX] at hx
  have HK := Lib.hid hk
  have hfz : W.frozen? ⟨g, 7, none⟩ = false := hk.free 7
  have hcl : W.cell? ⟨g, 7, none⟩ = some (.string (bts c.note)) := hk.cell 7
  clear hk hX
  go_enter Tryz.func153, Tryz.ntmps153
  go_wp2_with fail
  go_region_with ((go_at_call 100; refine (HC.out _).mono ?_; rintro e w1 ⟨rfl, rfl⟩))
  all_goals
    go_wp2_with fail
    go_ret
    have k9 := HK.out.put 7 (.string X)
    rw [HS.out] at k9
    exact ⟨rfl, k9, grown_setD _ 7 _ g⟩
set_option maxHeartbeats 1000000 in
theorem putText8 (b : Nat) (g : Nat) (c : Con) (gv o : Value) (ta : Addr) (cap : Nat) (x : List UInt8) (W : World) (hk : Bk W g 25 (conCells c gv o)) (hb : Bk W b 130 #[.func (.func (fieldF 8)) #[] #[]]) (hx : W.cell? ta = some (.string (bts x))) :
    Calls Tryz.prog 153 #[.pointer (some ⟨g, 0, none⟩), .slice (some ta) 1 cap, .pointer (some ⟨b, 0, none⟩)] W (PutV g (setC (kname 8) x c) gv o W) := by
  have hb0 : W.cell? ⟨b, 0, none⟩ = some (.func (.func 101) #[] #[]) := hb.cell 0
  obtain ⟨X, hX⟩ : ∃ X, bts x = X := ⟨_, rfl⟩
  have HS : Hid ((conCells c gv o).setIfInBounds 8 (.string X) = conCells (setC (kname 8) x c) gv o) := by rw [← hX]; rfl
  have HC : Hid (∀ w, Calls Tryz.prog 101 #[.pointer (some ⟨g, 0, none⟩)] w fun e w' => e = .returned (.pointer (some ⟨g, 8, none⟩)) ∧ w' = w) := fun w => field_any (i := 8) (by omega) rfl g w
  rw [hX] at hx
  have HK := Lib.hid hk
  have hfz : W.frozen? ⟨g, 8, none⟩ = false := hk.free 8
  have hcl : W.cell? ⟨g, 8, none⟩ = some (.string (bts c.uid)) := hk.cell 8
  clear hk hX
  go_enter Tryz.func153, Tryz.ntmps153
  go_wp2_with fail
  go_region_with ((go_at_call 101; refine (HC.out _).mono ?_; rintro e w1 ⟨rfl, rfl⟩))
  all_goals
    go_wp2_with fail
    go_ret
    have k9 := HK.out.put 8 (.string X)
    rw [HS.out] at k9
    exact ⟨rfl, k9, grown_setD _ 8 _ g⟩
theorem putText_any {i : Nat} (hi : i < 9) (ht : isT i = true) (b : Nat) (g : Nat) (c : Con) (gv o : Value) (ta : Addr) (cap : Nat) (x : List UInt8) (W : World) (hk : Bk W g 25 (conCells c gv o)) (hb : Bk W b 130 #[.func (.func (fieldF i)) #[] #[]]) (hx : W.cell? ta = some (.string (bts x))) :
    Calls Tryz.prog 153 #[.pointer (some ⟨g, 0, none⟩), .slice (some ta) 1 cap, .pointer (some ⟨b, 0, none⟩)] W (PutV g (setC (kname i) x c) gv o W) := by
  rcases kcases hi with rfl | rfl | rfl | rfl | rfl | rfl | rfl | rfl | rfl
  · exact putText0 b g c gv o ta cap x W hk hb hx
  · cases ht
  · exact putText2 b g c gv o ta cap x W hk hb hx
  · cases ht
  · exact putText4 b g c gv o ta cap x W hk hb hx
  · exact putText5 b g c gv o ta cap x W hk hb hx
  · cases ht
  · exact putText7 b g c gv o ta cap x W hk hb hx
  · exact putText8 b g c gv o ta cap x W hk hb hx
end Go.Proofs.YtapelnndjjbeeaaGreatDoor
end
