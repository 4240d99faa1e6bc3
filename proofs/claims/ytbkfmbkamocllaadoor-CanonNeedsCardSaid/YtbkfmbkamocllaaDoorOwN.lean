/-
  NODES that the call has made: appended to, their texts told, read; cardexhelp's Node and Same at them.
-/
import Derived.Test.YtbkfmbkamocllaaDoorTrM
import Derived.Laws.AppendOwn
namespace Go.Proofs.YtbkfmbkamocllaaDoor
open Go.RowKit Tk Tr

theorem infoNod : (Tryd.prog.info? 32).map (fun i => (i.zero, i.size, i.bytes)) = some (some (.agg #[.int .i64 0, .int .i64 0, .string ⟨#[]⟩, .string ⟨#[]⟩, .slice none 0 0, .string ⟨#[]⟩]), 6, 88) := by kernel_rfl
def encN (k : Nd × Value) : List Value := [.int .i64 k.1.1, .int .i64 k.1.2.1, .string (bts k.1.2.2.1), .string (bts k.1.2.2.2.1), k.2, .string (bts k.1.2.2.2.2.2)]
def nds (l : List (Nd × Value)) : List Value := l.flatMap encN
theorem nds_nil : nds [] = [] := rfl
theorem nds_append (a b : List (Nd × Value)) : nds (a ++ b) = nds a ++ nds b := by simp [nds]
theorem nds_one (k : Nd × Value) : nds [k] = encN k := by simp [nds]
theorem nds_cons (k : Nd × Value) (l : List (Nd × Value)) : nds (k :: l) = encN k ++ nds l := by simp [nds]
theorem nds_get : ∀ {l : List (Nd × Value)} {j i : Nat} {k : Nd × Value}, l[j]? = some k → i < 6 → (nds l)[j * 6 + i]? = (encN k)[i]?
  | [], j, i, r, h, _ => by simp at h
  | a :: l, 0, i, r, h, hi => by
    obtain rfl : a = r := by simpa using h
    rw [nds_cons, Nat.zero_mul, Nat.zero_add, List.getElem?_append_left (by simp [encN]; omega)]
  | a :: l, j + 1, i, r, h, hi => by
    have := nds_get (l := l) (j := j) (i := i) (k := r) (by simpa using h) hi
    rw [nds_cons, List.getElem?_append_right (by simp [encN]; omega), ← this]
    congr 1
    simp [encN]
    omega
theorem nds_set {l : List (Nd × Value)} {j i : Nat} {k k' : Nd × Value} {u : Value} (h : l[j]? = some k) (hi : i < 6) (hk : encN k' = (encN k).set i u) : nds (l.set j k') = (nds l).set (j * 6 + i) u := by
  induction l generalizing j with
  | nil => simp at h
  | cons a l ih =>
    cases j with
    | zero =>
      obtain rfl : a = k := by simpa using h
      rw [List.set_cons_zero, nds_cons, nds_cons, hk, Nat.zero_mul, Nat.zero_add, List.set_append_left _ _ (by simp [encN]; omega)]
    | succ j =>
      rw [List.set_cons_succ, nds_cons, nds_cons, ih (by simpa using h), List.set_append_right _ _ (by simp [encN]; omega)]
      congr 2
      simp [encN]
      omega
attribute [irreducible] nds
/-- The slice v, made by the call (above block B), holds just these nodes. -/
def OwnN (B : Nat) (w : World) (v : Value) (ns : List Nd) : Prop :=
  ∃ ks : List (Nd × Value), ks.map (·.1) = ns ∧ w.ownsRow B 32 6 v ks.length (nds ks) ∧ ∀ k ∈ ks, RowA w k.2 k.1.2.2.2.2.1
theorem OwnN.nil (B : Nat) (w : World) : OwnN B w (.slice none 0 0) [] := ⟨[], rfl, by rw [nds_nil]; exact World.ownsRow_nil _ _ _ _, fun k h => by cases h⟩
theorem OwnN.slice {B : Nat} {w : World} {v : Value} {ns : List Nd} (h : OwnN B w v ns) : ∃ A cap, v = .slice A ns.length cap := by
  obtain ⟨ks, rfl, h, _⟩ := h
  rw [List.length_map]
  rcases h.2 with ⟨rfl, h0⟩ | ⟨g, cap, cur, rfl, _⟩
  · exact ⟨none, 0, by rw [h0]⟩
  · exact ⟨_, _, rfl⟩
theorem OwnN.keep {B : Nat} {w w' : World} {v : Value} {ns : List Nd} (h : OwnN B w v ns) (hb : ∀ g cs, Bk w g 32 cs → Bk w' g 32 cs) (ha : KeepA w w') : OwnN B w' v ns := by
  obtain ⟨ks, h1, h2, h3⟩ := h
  exact ⟨ks, h1, ⟨h2.1, h2.2.imp id fun ⟨g, cap, cur, k1, k2, k3, k4⟩ => ⟨g, cap, cur, k1, k2, hb g cur k3, k4⟩⟩, fun k hk => (h3 k hk).keep ha⟩
theorem OwnN.below {B : Nat} {w w' : World} {v : Value} {ns : List Nd} (h : OwnN B w v ns) (hb : Below w.heap.size w w') : OwnN B w' v ns := h.keep (fun _ _ hg => (hb.block _ hg.lt).trans hg) (KeepA.below hb)
theorem OwnN.weak {B B' : Nat} {w : World} {v : Value} {ns : List Nd} (h : OwnN B w v ns) (hB : B' ≤ B) : OwnN B' w v ns := by
  obtain ⟨ks, h1, h2, h3⟩ := h
  exact ⟨ks, h1, ⟨h2.1, h2.2.imp id fun ⟨g, cap, cur, k1, k2, k3⟩ => ⟨g, cap, cur, k1, Nat.le_trans hB k2, k3⟩⟩, h3⟩
theorem OwnN.reads {B : Nat} {w : World} {v : Value} {ns : List Nd} (h : OwnN B w v ns) : ReadN w v ns := by
  obtain ⟨ks, rfl, h', hr⟩ := h
  rcases h'.2 with ⟨rfl, h0⟩ | ⟨g, cap, cur, rfl, hg, hh, h1, h2, h3, h4⟩
  · exact ⟨none, 0, by rw [List.length_map, h0], fun h => by rw [List.length_map] at h; omega⟩
  · refine ⟨_, cap, by rw [List.length_map], fun _ => ⟨_, rfl, lt_of_block hh, fun i x hi => ?_⟩⟩
    rw [List.getElem?_map] at hi
    obtain ⟨k, hk, rfl⟩ := Option.map_eq_some_iff.1 hi
    have hlt := (List.getElem?_eq_some_iff.1 hk).1
    have hc : ∀ j, j < 6 → w.cell? ⟨g, i * 6 + j, none⟩ = (encN k)[j]? := fun j hj => by
      rw [show w.cell? ⟨g, i * 6 + j, none⟩ = cur[i * 6 + j]? from Bk.cell (show Bk w g 32 cur from hh) _, ← Array.getElem?_toList, ← nds_get hk hj, ← h4, List.getElem?_take_of_lt (by omega)]
    refine ⟨k.2, ?_, (hr k (List.mem_of_getElem? hk)).reads⟩
    rw [add_at, Nat.zero_add]
    refine ⟨?_, ?_, ?_, ?_, ?_, ?_⟩
    · exact hc 0 (by omega)
    · exact hc 1 (by omega)
    · exact hc 2 (by omega)
    · exact hc 3 (by omega)
    · exact hc 4 (by omega)
    · exact hc 5 (by omega)
/-- An append of one node. -/
theorem OwnN.pushed {B : Nat} {w w1 : World} {v' : Value} {ns : List Nd} {ks : List (Nd × Value)} (x : Nd) (av : Value) (hks : ks.map (·.1) = ns) (h3 : ∀ k ∈ ks, RowA w k.2 k.1.2.2.2.2.1) (hu : RowA w av x.2.2.2.2.1)
    (hown : w1.ownsRow B 32 6 v' (ks.length + 1) (nds ks ++ encN (x, av))) (hA : KeepA w w1) : OwnN B w1 v' (ns ++ [x]) := by
  subst hks
  refine ⟨ks ++ [(x, av)], by simp, ?_, fun k hk => ?_⟩
  · rw [nds_append, nds_one, List.length_append, List.length_singleton]
    exact hown
  · rcases List.mem_append.1 hk with hk | hk
    · exact (h3 k hk).keep hA
    · rw [List.mem_singleton] at hk
      subst hk
      exact hu.keep hA
theorem push_node {ops : Array Oper} {rest : List Oper} {o : Oper} {a : Act} {Q : Exit → Act → World → Prop} (hgd : o.guard = none) (s y : Operand) (ho : o.op = .call { callee := .builtin .append, args := #[s, y], argTypes := #[22, 22] })
    (B : Nat) (v : Value) (ns : List Nd) (x : Nd) (av : Value) (k0 k1 : Int) (s2 s3 s5 : ByteArray) (e0 : x.1 = k0) (e1 : x.2.1 = k1) (e2 : bts x.2.2.1 = s2) (e3 : bts x.2.2.2.1 = s3) (e5 : bts x.2.2.2.2.2 = s5) (w0 : World)
    (hs : a.eval s = v) (hown : OwnN B w0 v ns) (hu : RowA w0 av x.2.2.2.2.1) (hy : a.eval y = .slice (some ⟨w0.heap.size, 0, none⟩) 1 1) (hn : ns.length ≤ 1000000000) (hB : B ≤ w0.heap.size)
    (h : ∀ v' w', OwnN B w' v' (ns ++ [x]) → Below B w0 w' → (∀ k cs t, Bk w0 k t cs → t ≠ 32 → Bk w' k t cs) → wpList Tryd.prog ops Q rest (a.put o.dst v') w') : wpList Tryd.prog ops Q (o :: rest) a (w0.alloc (.cells #[.int .i64 k0, .int .i64 k1, .string s2, .string s3, av, .string s5] 32)) := by
  subst e0 e1 e2 e3 e5
  obtain ⟨i0, hi, hz0, hz1, hz2⟩ := info_parts infoNod
  obtain ⟨ks, hks, hown', hr⟩ := hown
  have hl : ns.length = ks.length := by rw [← hks, List.length_map]
  refine wpList_append_own _ hgd s y 22 ho B 32 i0 _ 6 88 Tryd.underlying22 hi hz0 hz1 hz2 rfl (by decide) v ks.length (nds ks) hs (hown'.alloc _) ⟨w0.heap.size, 0, none⟩ 1 1 (encN (x, av)) hy rfl ?_ ?_ ?_ (by omega) (by simp; omega) ?_
  · intro j u hj
    rw [add_at, cell_of_row _ _ _ #[_, _, _, _, _, _] _ (0, 0) (heap_alloc_new w0 _), Nat.zero_add]
    simpa [encN] using hj
  · intro u hy
    simp [encN] at hy
    rcases hy with rfl | rfl | rfl | rfl | rfl | rfl
    · rfl
    · rfl
    · rfl
    · rfl
    · exact hu.one
    · rfl
  · unfold maxLen; omega
  · intro v' w' hown2 hg _
    have hK : ∀ k cs t, Bk w0 k t cs → t ≠ 32 → Bk w' k t cs := fun k cs t hk ht => by
      refine (hg.block k (by simp; have := hk.lt; omega) (fun e => ?_)).trans (hk.alloc _)
      rcases hown'.2 with ⟨rfl, _⟩ | ⟨g', cap, cur, rfl, _, hh, _⟩
      · cases e
      · injection e with e
        subst e
        exact Bk.type_ne hk (show Bk w0 _ 32 cur from hh) ht rfl
    exact h v' w' (OwnN.pushed x av hks hr hu hown2 (fun k cs hk => hK k cs _ hk (by decide))) (((Below.refl B w0).alloc hB _).grown hg (by simp; omega) (fun j hj => (World.ownsRow.lt hown' j hj).1)) hK
end Go.Proofs.YtbkfmbkamocllaaDoor
