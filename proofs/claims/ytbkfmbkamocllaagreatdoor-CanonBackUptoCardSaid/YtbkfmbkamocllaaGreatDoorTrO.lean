/- Texts laid together: OwN TrO TrP -/
import Derived.Test.YtbkfmbkamocllaaGreatDoorTrM
import Derived.Laws.AppendOwn
import Derived.Test.YtbkfmbkamocllaaGreatDoorTkS
import Derived.Test.YtbkfmbkamocllaaGreatDoorTrK
import Derived.Shelf.Strings.OnBuilder
/-
  NODES that the call has made: appended to, their texts told, read; cardexhelp's Node and Same at them.
-/
namespace Go.Proofs.YtbkfmbkamocllaaGreatDoor
open Go.RowKit Tk Tr

theorem infoNod : (Tryz.prog.info? 32).map (fun i => (i.zero, i.size, i.bytes)) = some (some (.agg #[.int .i64 0, .int .i64 0, .string ⟨#[]⟩, .string ⟨#[]⟩, .slice none 0 0, .string ⟨#[]⟩]), 6, 88) := by kernel_rfl
def encN (k : Nd × Value) : List Value := [.int .i64 k.1.1, .int .i64 k.1.2.1, .string (bts k.1.2.2.1), .string (bts k.1.2.2.2.1), k.2, .string (bts k.1.2.2.2.2.2)]
def nds (l : List (Nd × Value)) : List Value := l.flatMap encN
theorem nds_nil : nds [] = [] := rfl
theorem nds_append (a b : List (Nd × Value)) : nds (a ++ b) = nds a ++ nds b := by simp [nds]
theorem nds_one (k : Nd × Value) : nds [k] = encN k := by simp [nds]
theorem nds_cons (k : Nd × Value) (l : List (Nd × Value)) : nds (k :: l) = encN k ++ nds l := by simp [nds]
theorem nds_get : ∀ {l : List (Nd × Value)} {j i : Nat} {k : Nd × Value}, l[j]? = some k → i < 6 → (nds l)[j * 6 + i]? = (encN k)[i]?
  | [], j, i, r, h, _ => by simp at h
  | a :: l, 0, i, r, h, hi => by
    obtain rfl : a = r := by simpa using h
    rw [nds_cons, Nat.zero_mul, Nat.zero_add, List.getElem?_append_left (by simp [encN]; omega)]
  | a :: l, j + 1, i, r, h, hi => by
    have := nds_get (l := l) (j := j) (i := i) (k := r) (by simpa using h) hi
    rw [nds_cons, List.getElem?_append_right (by simp [encN]; omega), ← this]
    congr 1
    simp [encN]
    omega
theorem nds_set {l : List (Nd × Value)} {j i : Nat} {k k' : Nd × Value} {u : Value} (h : l[j]? = some k) (hi : i < 6) (hk : encN k' = (encN k).set i u) : nds (l.set j k') = (nds l).set (j * 6 + i) u := by
  induction l generalizing j with
  | nil => simp at h
  | cons a l ih =>
    cases j with
    | zero =>
      obtain rfl : a = k := by simpa using h
      rw [List.set_cons_zero, nds_cons, nds_cons, hk, Nat.zero_mul, Nat.zero_add, List.set_append_left _ _ (by simp [encN]; omega)]
    | succ j =>
      rw [List.set_cons_succ, nds_cons, nds_cons, ih (by simpa using h), List.set_append_right _ _ (by simp [encN]; omega)]
      congr 2
      simp [encN]
      omega
attribute [irreducible] nds
/-- The slice v, made by the call (above block B), holds just these nodes. -/
def OwnN (B : Nat) (w : World) (v : Value) (ns : List Nd) : Prop :=
  ∃ ks : List (Nd × Value), ks.map (·.1) = ns ∧ w.ownsRow B 32 6 v ks.length (nds ks) ∧ ∀ k ∈ ks, RowA w k.2 k.1.2.2.2.2.1
theorem OwnN.nil (B : Nat) (w : World) : OwnN B w (.slice none 0 0) [] := ⟨[], rfl, by rw [nds_nil]; exact World.ownsRow_nil _ _ _ _, fun k h => by cases h⟩
theorem OwnN.slice {B : Nat} {w : World} {v : Value} {ns : List Nd} (h : OwnN B w v ns) : ∃ A cap, v = .slice A ns.length cap := by
  obtain ⟨ks, rfl, h, _⟩ := h
  rw [List.length_map]
  rcases h.2 with ⟨rfl, h0⟩ | ⟨g, cap, cur, rfl, _⟩
  · exact ⟨none, 0, by rw [h0]⟩
  · exact ⟨_, _, rfl⟩
theorem OwnN.keep {B : Nat} {w w' : World} {v : Value} {ns : List Nd} (h : OwnN B w v ns) (hb : ∀ g cs, Bk w g 32 cs → Bk w' g 32 cs) (ha : KeepA w w') : OwnN B w' v ns := by
  obtain ⟨ks, h1, h2, h3⟩ := h
  exact ⟨ks, h1, ⟨h2.1, h2.2.imp id fun ⟨g, cap, cur, k1, k2, k3, k4⟩ => ⟨g, cap, cur, k1, k2, hb g cur k3, k4⟩⟩, fun k hk => (h3 k hk).keep ha⟩
theorem OwnN.below {B : Nat} {w w' : World} {v : Value} {ns : List Nd} (h : OwnN B w v ns) (hb : Below w.heap.size w w') : OwnN B w' v ns := h.keep (fun _ _ hg => (hb.block _ hg.lt).trans hg) (KeepA.below hb)
theorem OwnN.weak {B B' : Nat} {w : World} {v : Value} {ns : List Nd} (h : OwnN B w v ns) (hB : B' ≤ B) : OwnN B' w v ns := by
  obtain ⟨ks, h1, h2, h3⟩ := h
  exact ⟨ks, h1, ⟨h2.1, h2.2.imp id fun ⟨g, cap, cur, k1, k2, k3⟩ => ⟨g, cap, cur, k1, Nat.le_trans hB k2, k3⟩⟩, h3⟩
theorem OwnN.reads {B : Nat} {w : World} {v : Value} {ns : List Nd} (h : OwnN B w v ns) : ReadN w v ns := by
  obtain ⟨ks, rfl, h', hr⟩ := h
  rcases h'.2 with ⟨rfl, h0⟩ | ⟨g, cap, cur, rfl, hg, hh, h1, h2, h3, h4⟩
  · exact ⟨none, 0, by rw [List.length_map, h0], fun h => by rw [List.length_map] at h; omega⟩
  · refine ⟨_, cap, by rw [List.length_map], fun _ => ⟨_, rfl, lt_of_block hh, fun i x hi => ?_⟩⟩
    rw [List.getElem?_map] at hi
    obtain ⟨k, hk, rfl⟩ := Option.map_eq_some_iff.1 hi
    have hlt := (List.getElem?_eq_some_iff.1 hk).1
    have hc : ∀ j, j < 6 → w.cell? ⟨g, i * 6 + j, none⟩ = (encN k)[j]? := fun j hj => by
      rw [show w.cell? ⟨g, i * 6 + j, none⟩ = cur[i * 6 + j]? from Bk.cell (show Bk w g 32 cur from hh) _, ← Array.getElem?_toList, ← nds_get hk hj, ← h4, List.getElem?_take_of_lt (by omega)]
    refine ⟨k.2, ?_, (hr k (List.mem_of_getElem? hk)).reads⟩
    rw [add_at, Nat.zero_add]
    refine ⟨?_, ?_, ?_, ?_, ?_, ?_⟩
    · exact hc 0 (by omega)
    · exact hc 1 (by omega)
    · exact hc 2 (by omega)
    · exact hc 3 (by omega)
    · exact hc 4 (by omega)
    · exact hc 5 (by omega)
/-- An append of one node. -/
theorem OwnN.pushed {B : Nat} {w w1 : World} {v' : Value} {ns : List Nd} {ks : List (Nd × Value)} (x : Nd) (av : Value) (hks : ks.map (·.1) = ns) (h3 : ∀ k ∈ ks, RowA w k.2 k.1.2.2.2.2.1) (hu : RowA w av x.2.2.2.2.1)
    (hown : w1.ownsRow B 32 6 v' (ks.length + 1) (nds ks ++ encN (x, av))) (hA : KeepA w w1) : OwnN B w1 v' (ns ++ [x]) := by
  subst hks
  refine ⟨ks ++ [(x, av)], by simp, ?_, fun k hk => ?_⟩
  · rw [nds_append, nds_one, List.length_append, List.length_singleton]
    exact hown
  · rcases List.mem_append.1 hk with hk | hk
    · exact (h3 k hk).keep hA
    · rw [List.mem_singleton] at hk
      subst hk
      exact hu.keep hA
theorem push_node {ops : Array Oper} {rest : List Oper} {o : Oper} {a : Act} {Q : Exit → Act → World → Prop} (hgd : o.guard = none) (s y : Operand) (ho : o.op = .call { callee := .builtin .append, args := #[s, y], argTypes := #[22, 22] })
    (B : Nat) (v : Value) (ns : List Nd) (x : Nd) (av : Value) (k0 k1 : Int) (s2 s3 s5 : ByteArray) (e0 : x.1 = k0) (e1 : x.2.1 = k1) (e2 : bts x.2.2.1 = s2) (e3 : bts x.2.2.2.1 = s3) (e5 : bts x.2.2.2.2.2 = s5) (w0 : World)
    (hs : a.eval s = v) (hown : OwnN B w0 v ns) (hu : RowA w0 av x.2.2.2.2.1) (hy : a.eval y = .slice (some ⟨w0.heap.size, 0, none⟩) 1 1) (hn : ns.length ≤ 1000000000) (hB : B ≤ w0.heap.size)
    (h : ∀ v' w', OwnN B w' v' (ns ++ [x]) → Below B w0 w' → (∀ k cs t, Bk w0 k t cs → t ≠ 32 → Bk w' k t cs) → wpList Tryz.prog ops Q rest (a.put o.dst v') w') : wpList Tryz.prog ops Q (o :: rest) a (w0.alloc (.cells #[.int .i64 k0, .int .i64 k1, .string s2, .string s3, av, .string s5] 32)) := by
  subst e0 e1 e2 e3 e5
  obtain ⟨i0, hi, hz0, hz1, hz2⟩ := info_parts infoNod
  obtain ⟨ks, hks, hown', hr⟩ := hown
  have hl : ns.length = ks.length := by rw [← hks, List.length_map]
  refine wpList_append_own _ hgd s y 22 ho B 32 i0 _ 6 88 Tryz.underlying22 hi hz0 hz1 hz2 rfl (by decide) v ks.length (nds ks) hs (hown'.alloc _) ⟨w0.heap.size, 0, none⟩ 1 1 (encN (x, av)) hy rfl ?_ ?_ ?_ (by omega) (by simp; omega) ?_
  · intro j u hj
    rw [add_at, cell_of_row _ _ _ #[_, _, _, _, _, _] _ (0, 0) (heap_alloc_new w0 _), Nat.zero_add]
    simpa [encN] using hj
  · intro u hy
    simp [encN] at hy
    rcases hy with rfl | rfl | rfl | rfl | rfl | rfl
    · rfl
    · rfl
    · rfl
    · rfl
    · exact hu.one
    · rfl
  · unfold maxLen; omega
  · intro v' w' hown2 hg _
    have hK : ∀ k cs t, Bk w0 k t cs → t ≠ 32 → Bk w' k t cs := fun k cs t hk ht => by
      refine (hg.block k (by simp; have := hk.lt; omega) (fun e => ?_)).trans (hk.alloc _)
      rcases hown'.2 with ⟨rfl, _⟩ | ⟨g', cap, cur, rfl, _, hh, _⟩
      · cases e
      · injection e with e
        subst e
        exact Bk.type_ne hk (show Bk w0 _ 32 cur from hh) ht rfl
    exact h v' w' (OwnN.pushed x av hks hr hu hown2 (fun k cs hk => hK k cs _ hk (by decide))) (((Below.refl B w0).alloc hB _).grown hg (by simp; omega) (fun j hj => (World.ownsRow.lt hown' j hj).1)) hK
end Go.Proofs.YtbkfmbkamocllaaGreatDoor
/-
  NODES that the call has made (XOwN), with cardexhelp's Same at attributes beside them.
-/
namespace Go.Proofs.YtbkfmbkamocllaaGreatDoor
end Go.Proofs.YtbkfmbkamocllaaGreatDoor
/-
  package tree: an element's text; is it mixed? its node, done.
-/
namespace Go.Proofs.YtbkfmbkamocllaaGreatDoor
open Go.RowKit Tk Tr

theorem join_flat : ∀ l : List (List UInt8), Lib.join l [] = l.flatten
  | [] => rfl
  | x :: r => by
    rw [Lib.join_cons, List.flatten_cons]
    unfold Lib.joinTail
    simp
/-- what is left of a text, if there are elements beside it -/
def leftT (f : Bool) (l : List UInt8) : List UInt8 := if f then [] else l
/-- An element in a block of its own. -/
def BkE (w : World) (Y : Nat) (x : Nd) (av tv : Value) (f : Bool) : Prop := Bk w Y 75 #[.int .i64 x.1, .int .i64 x.2.1, .string (bts x.2.2.1), .string (bts x.2.2.2.1), av, .string ⟨#[]⟩, tv, .bool f]
set_option maxHeartbeats 1000000 in
theorem text_any (B Y : Nat) (x : Nd) (av tv : Value) (f : Bool) (l : List (List UInt8)) (w : World) (h : BkE w Y x av tv f) (ht : OwnT B w tv l) (hl : l.flatten.length ≤ 1000000000) (hn : l.length ≤ 1000000000) :
    Calls Tryz.prog 57 #[.pointer (some ⟨Y, 0, none⟩)] w fun e w' => e = .returned (.string (bts l.flatten)) ∧ Below w.heap.size w w' := by
  have c6 : w.cell? ⟨Y, 6, none⟩ = some tv := Bk.cell h 6
  have HJ : Calls Tryz.prog 77 #[tv, .string ⟨#[]⟩] w fun e w' => e = .returned (.string (bts l.flatten)) ∧ Below w.heap.size w w' := by
    rcases ht.cells with ⟨rfl, rfl⟩ | ⟨g, cap, rfl, hlt, hcap, hc⟩
    · exact (Any.strings_Join_none Tryz.lays156 Tryz.Builder_Extra_156 none 0 ⟨#[]⟩ w).mono fun e w' ⟨h1, h2⟩ => ⟨h1, by rw [h2]; exact Below.refl _ _⟩
    · have hm : (l.map bts).map (fun s => s.data.toList) = l := by rw [List.map_map]; exact (List.map_congr_left (fun s _ => rfl)).trans (List.map_id l)
      have hj : Lib.join ((l.map bts).map (fun s => s.data.toList)) (⟨#[]⟩ : ByteArray).data.toList = l.flatten := by rw [hm]; exact join_flat l
      have := Tryz.strings_Join g 0 cap (l.map bts) ⟨#[]⟩ w (fun j y hy => by
        rw [List.getElem?_map] at hy
        obtain ⟨b, hb, rfl⟩ := Option.map_eq_some_iff.1 hy
        rw [Nat.zero_add]
        exact hc j b hb) hlt (by rw [List.length_map]; omega) (by rw [List.length_map]; exact hcap) (by rw [hj]; omega)
      rw [hj, List.length_map] at this
      exact this
  obtain ⟨TA, tcap, rfl⟩ := ht.slice
  have HJJ := Lib.hid HJ
  generalize bts l.flatten = R at *
  generalize l.length = n at *
  clear HJ ht h hl hn
  go_enter Tryz.func57, Tryz.ntmps57
  go_wp2_with (go_at_call 77; refine HJJ.out.mono ?_; rintro e w1 ⟨rfl, b1⟩)
  go_ret
  exact ⟨rfl, b1⟩
set_option maxHeartbeats 1000000 in
theorem mixed_any (B Y : Nat) (x : Nd) (av tv : Value) (f : Bool) (l : List (List UInt8)) (w : World) (h : BkE w Y x av tv f) (ht : OwnT B w tv l) (hl : l.flatten.length ≤ 1000000000) (hn : l.length ≤ 1000000000) :
    Calls Tryz.prog 32 #[.pointer (some ⟨Y, 0, none⟩)] w fun e w' => e = .returned (.bool (f && !blankL l.flatten)) ∧ Below w.heap.size w w' := by
  have c7 : w.cell? ⟨Y, 7, none⟩ = some (.bool f) := Bk.cell h 7
  have HT := Lib.hid (text_any B Y x av tv f l w h ht hl hn)
  have HB := Lib.hid (fun W => blankTr_any l.flatten W (by omega))
  generalize bts l.flatten = R at *
  generalize blankL l.flatten = q at *
  clear ht h hl hn
  cases f with
  | false =>
    go_enter Tryz.func32, Tryz.ntmps32
    go_wp2_with fail
    go_ret
    exact ⟨rfl, Below.refl _ _⟩
  | true =>
    go_enter Tryz.func32, Tryz.ntmps32
    go_wp2_with (first | (go_at_call 57; refine HT.out.mono ?_; rintro e w1 ⟨rfl, b1⟩) | (go_at_call 56; refine (HB.out _).mono ?_; rintro e w2 ⟨rfl, b2⟩))
    go_ret
    exact ⟨rfl, b1.trans (b2.mono b1.size)⟩
set_option maxHeartbeats 4000000 in
set_option maxRecDepth 100000 in
theorem done_any (B Y : Nat) (x : Nd) (av tv : Value) (f : Bool) (l : List (List UInt8)) (w : World) (h : BkE w Y x av tv f) (ht : OwnT B w tv l) (hu : RowA w av x.2.2.2.2.1) (hl : l.flatten.length ≤ 1000000000) (hn : l.length ≤ 1000000000) :
    Calls Tryz.prog 33 #[.pointer (some ⟨Y, 0, none⟩)] w fun e w' => e = .returned (.agg #[.int .i64 x.1, .int .i64 x.2.1, .string (bts x.2.2.1), .string (bts x.2.2.2.1), av, .string (bts (leftT f l.flatten))]) ∧ Below w.heap.size w w' := by
  obtain ⟨VA, vcap, rfl, -⟩ := id hu
  obtain ⟨vn, hvn⟩ : ∃ n, x.2.2.2.2.1.length = n := ⟨_, rfl⟩
  rw [hvn] at h ⊢
  have HTX := fun W (hb : Below w.heap.size w W) => text_any B Y x (.slice VA vn vcap) tv f l W (Bk.below h hb (Bk.lt h)) (ht.keep (.below hb)) hl hn
  have KY0 : Bk w Y 75 #[.int .i64 x.1, .int .i64 x.2.1, .string (bts x.2.2.1), .string (bts x.2.2.2.1), .slice VA vn vcap, .string ⟨#[]⟩, tv, .bool f] := h
  obtain ⟨a0, h0⟩ : ∃ a : Int, x.1 = a := ⟨_, rfl⟩
  obtain ⟨a1, h1⟩ : ∃ a : Int, x.2.1 = a := ⟨_, rfl⟩
  obtain ⟨a2, h2⟩ : ∃ a, bts x.2.2.1 = a := ⟨_, rfl⟩
  obtain ⟨a3, h3⟩ : ∃ a, bts x.2.2.2.1 = a := ⟨_, rfl⟩
  rw [h0, h1, h2, h3] at KY0 ⊢
  have HTT := Lib.hid HTX
  obtain ⟨lf, hlf⟩ : ∃ lf, l.flatten = lf := ⟨_, rfl⟩
  rw [hlf] at HTT ⊢
  clear HTX h ht hu hl hn hvn h0 h1 h2 h3 hlf
  -- the two blocks that are made first
  obtain ⟨R, hR⟩ : ∃ R, w.heap.size = R := ⟨_, rfl⟩
  obtain ⟨X, hX⟩ : ∃ X, R + 1 = X := ⟨_, rfl⟩
  obtain ⟨W2, hW2⟩ : ∃ W2, (w.alloc (.cells #[.int .i64 0, .int .i64 0, .string ⟨#[]⟩, .string ⟨#[]⟩, .slice none 0 0, .string ⟨#[]⟩] 32)).alloc (.cells #[.int .i64 a0, .int .i64 a1, .string a2, .string a3, .slice VA vn vcap, .string ⟨#[]⟩] 32) = W2 := ⟨_, rfl⟩
  have kr : Bk W2 R 32 #[.int .i64 0, .int .i64 0, .string ⟨#[]⟩, .string ⟨#[]⟩, .slice none 0 0, .string ⟨#[]⟩] := by rw [← hW2, ← hR]; exact (Bk.new _ _ _).alloc _
  have kx : Bk W2 X 32 #[.int .i64 a0, .int .i64 a1, .string a2, .string a3, .slice VA vn vcap, .string ⟨#[]⟩] := by rw [← hW2, ← hX, ← hR]; exact Bk.new1 _ _ _ _
  have B2 : Hid (Below R w W2) := by rw [← hW2, ← hR]; exact ((Below.refl _ w).alloc (Nat.le_refl _) _).alloc (by simp) _
  have hYR : Y < R := by rw [← hR]; exact KY0.lt
  have KY2 := Lib.hid (KY0.below (w' := W2) (by rw [hR]; exact B2.out) KY0.lt)
  obtain ⟨r0, r1, r2, r3, r4, r5, kr'⟩ : ∃ r0 r1 r2 r3 r4 r5, Bk W2 R 32 #[r0, r1, r2, r3, r4, r5] := ⟨_, _, _, _, _, _, kr⟩
  have KR2 := Lib.hid kr'
  have KX2 := Lib.hid kx
  have HRX : Hid (R < X) := by unfold Hid; omega
  have HW2 := Lib.hid hW2
  have HRE := Lib.hid hR
  have HXE := Lib.hid hX
  have HTX2 := Lib.hid (HTT.out W2 (by rw [hR]; exact B2.out))
  have y0 : w.cell? ⟨Y, 0, none⟩ = some (.int .i64 a0) := KY0.cell 0
  have y1 : w.cell? ⟨Y, 1, none⟩ = some (.int .i64 a1) := KY0.cell 1
  have y2 : w.cell? ⟨Y, 2, none⟩ = some (.string a2) := KY0.cell 2
  have y3 : w.cell? ⟨Y, 3, none⟩ = some (.string a3) := KY0.cell 3
  have y4 : w.cell? ⟨Y, 4, none⟩ = some (.slice VA vn vcap) := KY0.cell 4
  have y5 : w.cell? ⟨Y, 5, none⟩ = some (.string ⟨#[]⟩) := KY0.cell 5
  have yz : ∀ o j, (w.alloc o).cell? ⟨Y, j, none⟩ = w.cell? ⟨Y, j, none⟩ := fun o j => by rw [(KY0.alloc o).cell, KY0.cell]
  have HSZ : Hid (X < W2.heap.size) := kx.lt
  clear kr kr' kx hW2 hR hX hYR KY0 HTT
  go_enter Tryz.func33, Tryz.ntmps33
  go_upto_region 2 with fail
  rw [HW2.out, HRE.out, HXE.out]
  clear y0 y1 y2 y3 y4 y5 yz
  have y7 : W2.cell? ⟨Y, 7, none⟩ = some (.bool f) := KY2.out.cell 7
  cases f with
  | true =>
    go_upto_region 4 with fail
    obtain ⟨w5, hw5⟩ : ∃ w5, W2 = w5 := ⟨_, rfl⟩
    obtain ⟨s5, hs5⟩ : ∃ s5, (⟨#[]⟩ : ByteArray) = s5 := ⟨_, rfl⟩
    have KX5 := KX2
    have KR5 := KR2
    have B5 := B2
    rw [hw5] at KX5 KR5 B5 ⊢
    rw [hs5] at KX5
    have HS5 : Hid (bts (leftT true lf) = s5) := hs5
    clear hw5 hs5 KX2 KR2 B2 KY2 HTX2 y7 HW2 HXE HSZ
    have x0 : w5.cell? ⟨X, 0, none⟩ = some (.int .i64 a0) := KX5.out.cell 0
    have x1 : w5.cell? ⟨X, 1, none⟩ = some (.int .i64 a1) := KX5.out.cell 1
    have x2 : w5.cell? ⟨X, 2, none⟩ = some (.string a2) := KX5.out.cell 2
    have x3 : w5.cell? ⟨X, 3, none⟩ = some (.string a3) := KX5.out.cell 3
    have x4 : w5.cell? ⟨X, 4, none⟩ = some (.slice VA vn vcap) := KX5.out.cell 4
    have x5 : w5.cell? ⟨X, 5, none⟩ = some (.string s5) := KX5.out.cell 5
    have e0 : w5.cell? ⟨R, 0, none⟩ = some r0 := KR5.out.cell 0
    have e1 : w5.cell? ⟨R, 1, none⟩ = some r1 := KR5.out.cell 1
    have e2 : w5.cell? ⟨R, 2, none⟩ = some r2 := KR5.out.cell 2
    have e3 : w5.cell? ⟨R, 3, none⟩ = some r3 := KR5.out.cell 3
    have e4 : w5.cell? ⟨R, 4, none⟩ = some r4 := KR5.out.cell 4
    have e5 : w5.cell? ⟨R, 5, none⟩ = some r5 := KR5.out.cell 5
    have f0 : w5.frozen? ⟨R, 0, none⟩ = false := KR5.out.free 0
    have f1 : w5.frozen? ⟨R, 1, none⟩ = false := KR5.out.free 1
    have f2 : w5.frozen? ⟨R, 2, none⟩ = false := KR5.out.free 2
    have f3 : w5.frozen? ⟨R, 3, none⟩ = false := KR5.out.free 3
    have f4 : w5.frozen? ⟨R, 4, none⟩ = false := KR5.out.free 4
    have f5 : w5.frozen? ⟨R, 5, none⟩ = false := KR5.out.free 5
    have KF := KR5.out.six (.int .i64 a0) (.int .i64 a1) (.string a2) (.string a3) (.slice VA vn vcap) (.string s5)
    have q0 : World.cell? (six R w5 (.int .i64 a0) (.int .i64 a1) (.string a2) (.string a3) (.slice VA vn vcap) (.string s5)) ⟨R, 0, none⟩ = some (.int .i64 a0) := KF.cell 0
    have q1 : World.cell? (six R w5 (.int .i64 a0) (.int .i64 a1) (.string a2) (.string a3) (.slice VA vn vcap) (.string s5)) ⟨R, 1, none⟩ = some (.int .i64 a1) := KF.cell 1
    have q2 : World.cell? (six R w5 (.int .i64 a0) (.int .i64 a1) (.string a2) (.string a3) (.slice VA vn vcap) (.string s5)) ⟨R, 2, none⟩ = some (.string a2) := KF.cell 2
    have q3 : World.cell? (six R w5 (.int .i64 a0) (.int .i64 a1) (.string a2) (.string a3) (.slice VA vn vcap) (.string s5)) ⟨R, 3, none⟩ = some (.string a3) := KF.cell 3
    have q4 : World.cell? (six R w5 (.int .i64 a0) (.int .i64 a1) (.string a2) (.string a3) (.slice VA vn vcap) (.string s5)) ⟨R, 4, none⟩ = some (.slice VA vn vcap) := KF.cell 4
    have q5 : World.cell? (six R w5 (.int .i64 a0) (.int .i64 a1) (.string a2) (.string a3) (.slice VA vn vcap) (.string s5)) ⟨R, 5, none⟩ = some (.string s5) := KF.cell 5
    have hRX : R ≠ X := by have := HRX.out; omega
    have hXR : X ≠ R := fun e => hRX e.symm
    clear KF KX5
    go_wp2_with fail
    refine bodyPost_ret (v := .agg #[.int .i64 a0, .int .i64 a1, .string a2, .string a3, .slice VA vn vcap, .string s5]) (by simp [results, Tryz.results33, go_sem, q0, q1, q2, q3, q4, q5]) rfl ⟨by rw [HS5.out], ?_⟩
    rw [HRE.out]
    exact (six_tn (T := R) (B := R) (Tn.of B5.out) (Nat.le_refl _) _ _ _ _ _ _).below (Nat.le_refl _)
  | false =>
    go_wp2_with fail
    refine HTX2.out.mono ?_
    rintro e w4 ⟨rfl, b4⟩
    obtain ⟨s5, hs5⟩ : ∃ s5, bts lf = s5 := ⟨_, rfl⟩
    have HS5 : Hid (bts (leftT false lf) = s5) := hs5
    rw [hs5]
    have KX4 := Lib.hid (KX2.out.below b4 KX2.out.lt)
    have KR4 := Lib.hid (KR2.out.below b4 KR2.out.lt)
    have B4 : Hid (Below R w w4) := B2.out.trans (b4.mono (by have := HSZ.out; have := HRX.out; omega))
    have f5 : w4.frozen? ⟨X, 5, none⟩ = false := KX4.out.free 5
    obtain ⟨v5, x5⟩ : ∃ v, w4.cell? ⟨X, 5, none⟩ = some v := ⟨_, KX4.out.cell 5⟩
    clear hs5 b4 KX2 KR2 B2 KY2 HTX2 y7 HW2 HXE HSZ
    go_upto_region 4 with fail
    obtain ⟨w5, hw5⟩ : ∃ w5, w4.setCell ⟨X, 5, none⟩ (.string s5) = w5 := ⟨_, rfl⟩
    have KX5 : Hid (Bk w5 X 32 #[.int .i64 a0, .int .i64 a1, .string a2, .string a3, .slice VA vn vcap, .string s5]) := by
      rw [← hw5]
      have h := Bk.put KX4.out 5 (.string s5)
      unfold Hid
      simpa using h
    have KR5 : Hid (Bk w5 R 32 #[r0, r1, r2, r3, r4, r5]) := by rw [← hw5]; exact KR4.out.far (p := ⟨X, 5, none⟩) (by have := HRX.out; show R ≠ X; omega) _
    have B5 : Hid (Below R w w5) := by rw [← hw5]; exact B4.out.setCell (by show R ≤ X; have := HRX.out; omega) _
    rw [hw5]
    clear hw5 KX4 KR4 B4 f5 x5
    have x0 : w5.cell? ⟨X, 0, none⟩ = some (.int .i64 a0) := KX5.out.cell 0
    have x1 : w5.cell? ⟨X, 1, none⟩ = some (.int .i64 a1) := KX5.out.cell 1
    have x2 : w5.cell? ⟨X, 2, none⟩ = some (.string a2) := KX5.out.cell 2
    have x3 : w5.cell? ⟨X, 3, none⟩ = some (.string a3) := KX5.out.cell 3
    have x4 : w5.cell? ⟨X, 4, none⟩ = some (.slice VA vn vcap) := KX5.out.cell 4
    have x5 : w5.cell? ⟨X, 5, none⟩ = some (.string s5) := KX5.out.cell 5
    have e0 : w5.cell? ⟨R, 0, none⟩ = some r0 := KR5.out.cell 0
    have e1 : w5.cell? ⟨R, 1, none⟩ = some r1 := KR5.out.cell 1
    have e2 : w5.cell? ⟨R, 2, none⟩ = some r2 := KR5.out.cell 2
    have e3 : w5.cell? ⟨R, 3, none⟩ = some r3 := KR5.out.cell 3
    have e4 : w5.cell? ⟨R, 4, none⟩ = some r4 := KR5.out.cell 4
    have e5 : w5.cell? ⟨R, 5, none⟩ = some r5 := KR5.out.cell 5
    have f0 : w5.frozen? ⟨R, 0, none⟩ = false := KR5.out.free 0
    have f1 : w5.frozen? ⟨R, 1, none⟩ = false := KR5.out.free 1
    have f2 : w5.frozen? ⟨R, 2, none⟩ = false := KR5.out.free 2
    have f3 : w5.frozen? ⟨R, 3, none⟩ = false := KR5.out.free 3
    have f4 : w5.frozen? ⟨R, 4, none⟩ = false := KR5.out.free 4
    have f5 : w5.frozen? ⟨R, 5, none⟩ = false := KR5.out.free 5
    have KF := KR5.out.six (.int .i64 a0) (.int .i64 a1) (.string a2) (.string a3) (.slice VA vn vcap) (.string s5)
    have q0 : World.cell? (six R w5 (.int .i64 a0) (.int .i64 a1) (.string a2) (.string a3) (.slice VA vn vcap) (.string s5)) ⟨R, 0, none⟩ = some (.int .i64 a0) := KF.cell 0
    have q1 : World.cell? (six R w5 (.int .i64 a0) (.int .i64 a1) (.string a2) (.string a3) (.slice VA vn vcap) (.string s5)) ⟨R, 1, none⟩ = some (.int .i64 a1) := KF.cell 1
    have q2 : World.cell? (six R w5 (.int .i64 a0) (.int .i64 a1) (.string a2) (.string a3) (.slice VA vn vcap) (.string s5)) ⟨R, 2, none⟩ = some (.string a2) := KF.cell 2
    have q3 : World.cell? (six R w5 (.int .i64 a0) (.int .i64 a1) (.string a2) (.string a3) (.slice VA vn vcap) (.string s5)) ⟨R, 3, none⟩ = some (.string a3) := KF.cell 3
    have q4 : World.cell? (six R w5 (.int .i64 a0) (.int .i64 a1) (.string a2) (.string a3) (.slice VA vn vcap) (.string s5)) ⟨R, 4, none⟩ = some (.slice VA vn vcap) := KF.cell 4
    have q5 : World.cell? (six R w5 (.int .i64 a0) (.int .i64 a1) (.string a2) (.string a3) (.slice VA vn vcap) (.string s5)) ⟨R, 5, none⟩ = some (.string s5) := KF.cell 5
    have hRX : R ≠ X := by have := HRX.out; omega
    have hXR : X ≠ R := fun e => hRX e.symm
    clear KF KX5
    go_wp2_with fail
    refine bodyPost_ret (v := .agg #[.int .i64 a0, .int .i64 a1, .string a2, .string a3, .slice VA vn vcap, .string s5]) (by simp [results, Tryz.results33, go_sem, q0, q1, q2, q3, q4, q5]) rfl ⟨by rw [HS5.out], ?_⟩
    rw [HRE.out]
    exact (six_tn (T := R) (B := R) (Tn.of B5.out) (Nat.le_refl _) _ _ _ _ _ _).below (Nat.le_refl _)
end Go.Proofs.YtbkfmbkamocllaaGreatDoor
