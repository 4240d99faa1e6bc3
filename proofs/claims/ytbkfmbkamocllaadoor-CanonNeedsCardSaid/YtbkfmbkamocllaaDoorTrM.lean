/-
  MEMORY OF A TREE: tokens and nodes that came in; elements that grow, each with its texts; nodes that the call has made.
-/
import Derived.Test.YtbkfmbkamocllaaDoorTkM
import Derived.Test.YtbkfmbkamocllaaDoorTre
import Derived.Test.YtbkfmbkamocllaaDoorIntsO
import Derived.Deep.AppendLies
namespace Go.Proofs.YtbkfmbkamocllaaDoor
open Go.RowKit Tk Tr

theorem add_succ (ad : Addr) (n j : Nat) (hj : 0 < j) : ad.add (n + j) = ⟨(ad.add n).block, (ad.add n).off + j, none⟩ := by
  unfold Addr.add
  rw [if_neg (by omega)]
  split
  · rename_i h; subst h; simp
  · simp [Nat.add_assoc]
/-! ### what came in -/
/-- u is a slice that can be read: these attributes. -/
def ReadA (w : World) (u : Value) (l : List Att) : Prop := ∃ A cap, u = .slice A l.length cap ∧ (0 < l.length → ∃ ad : Addr, A = some ad ∧ ad.block < w.heap.size ∧ ∀ i a, l[i]? = some a → w.cell? (ad.add (i * 2)) = some (.string (bts a.1)) ∧ w.cell? ⟨(ad.add (i * 2)).block, (ad.add (i * 2)).off + 1, none⟩ = some (.string (bts a.2)))
theorem ReadA.below {w w' : World} {u : Value} {l : List Att} (h : ReadA w u l) (hb : Below w.heap.size w w') : ReadA w' u l := by
  obtain ⟨A, cap, rfl, h2⟩ := h
  refine ⟨A, cap, rfl, fun h0 => ?_⟩
  obtain ⟨ad, rfl, hl, hc⟩ := h2 h0
  refine ⟨ad, rfl, Nat.lt_of_lt_of_le hl hb.size, fun i a hi => ?_⟩
  rw [hb.cell (by rw [addBlock]; exact hl), hb.cell (by show (ad.add (i * 2)).block < _; rw [addBlock]; exact hl)]
  exact hc i a hi
theorem RowA.reads {w : World} {u : Value} {l : List Att} (h : RowA w u l) : ReadA w u l := by
  obtain ⟨A, cap, rfl, h2⟩ := h.cells
  refine ⟨A, cap, rfl, fun h0 => ?_⟩
  obtain ⟨g, rfl, hl, hc⟩ := h2 h0
  refine ⟨_, rfl, hl, fun i a hi => ?_⟩
  rw [add_at, Nat.zero_add]
  exact hc i a hi
theorem ReadA.one {w : World} {u : Value} {l : List Att} (h : ReadA w u l) : u.oneCell' = true := by
  obtain ⟨A, cap, rfl, _⟩ := h
  rfl
/-- Six cells of a token. -/
def AtT (w : World) (p : Addr) (t : TokI) (u : Value) : Prop := w.cell? p = some (.int .i64 t.1) ∧ w.cell? ⟨p.block, p.off + 1, none⟩ = some (.int .i64 t.2.1) ∧ w.cell? ⟨p.block, p.off + 2, none⟩ = some (.string (bts t.2.2.1)) ∧
  w.cell? ⟨p.block, p.off + 3, none⟩ = some (.string (bts t.2.2.2.1)) ∧ w.cell? ⟨p.block, p.off + 4, none⟩ = some u ∧ w.cell? ⟨p.block, p.off + 5, none⟩ = some (.bool t.2.2.2.2.2)
theorem AtT.of {w w' : World} {p : Addr} {t : TokI} {u : Value} (h : AtT w p t u) (hb : w'.heap[p.block]? = w.heap[p.block]?) : AtT w' p t u := by
  have hk : ∀ j s, w'.cell? ⟨p.block, j, s⟩ = w.cell? ⟨p.block, j, s⟩ := fun j s => World.cell?_of_block (a := ⟨p.block, j, s⟩) hb
  obtain ⟨h0, h1, h2, h3, h4, h5⟩ := h
  refine ⟨?_, ?_, ?_, ?_, ?_, ?_⟩
  · exact (hk p.off p.spot).trans h0
  · rw [hk]; exact h1
  · rw [hk]; exact h2
  · rw [hk]; exact h3
  · rw [hk]; exact h4
  · rw [hk]; exact h5
/-- A slice of tokens that can be read. -/
def ReadI (w : World) (v : Value) (ts : List TokI) : Prop := ∃ A cap, v = .slice A ts.length cap ∧ (0 < ts.length → ∃ ad : Addr, A = some ad ∧ ad.block < w.heap.size ∧ ∀ i t, ts[i]? = some t → ∃ u, AtT w (ad.add (i * 6)) t u ∧ ReadA w u t.2.2.2.2.1)
theorem ReadI.below {w w' : World} {v : Value} {ts : List TokI} (h : ReadI w v ts) (hb : Below w.heap.size w w') : ReadI w' v ts := by
  obtain ⟨A, cap, rfl, h2⟩ := h
  refine ⟨A, cap, rfl, fun h0 => ?_⟩
  obtain ⟨ad, rfl, hl, hc⟩ := h2 h0
  refine ⟨ad, rfl, Nat.lt_of_lt_of_le hl hb.size, fun i t hi => ?_⟩
  obtain ⟨u, h3, h4⟩ := hc i t hi
  exact ⟨u, h3.of (hb.block _ (by rw [addBlock]; exact hl)), h4.below hb⟩
theorem ReadK.readI {w : World} {v : Value} {ts : List TokA} (h : ReadK w v ts) : ReadI w v (ts.map toI) := by
  obtain ⟨A, cap, rfl, _, _, h2⟩ := h
  refine ⟨A, cap, by rw [List.length_map], fun h0 => ?_⟩
  rw [List.length_map] at h0
  obtain ⟨g, o, rfl, hl, hc⟩ := h2 h0
  refine ⟨_, rfl, hl, fun i t hi => ?_⟩
  rw [List.getElem?_map] at hi
  obtain ⟨k, hk, rfl⟩ := Option.map_eq_some_iff.1 hi
  obtain ⟨u, h3, h4⟩ := hc i k hk
  refine ⟨u, ?_, h4.reads⟩
  rw [add_at]
  exact h3
/-- Six cells of a node. -/
def AtN (w : World) (p : Addr) (x : Nd) (u : Value) : Prop := w.cell? p = some (.int .i64 x.1) ∧ w.cell? ⟨p.block, p.off + 1, none⟩ = some (.int .i64 x.2.1) ∧ w.cell? ⟨p.block, p.off + 2, none⟩ = some (.string (bts x.2.2.1)) ∧
  w.cell? ⟨p.block, p.off + 3, none⟩ = some (.string (bts x.2.2.2.1)) ∧ w.cell? ⟨p.block, p.off + 4, none⟩ = some u ∧ w.cell? ⟨p.block, p.off + 5, none⟩ = some (.string (bts x.2.2.2.2.2))
theorem AtN.of {w w' : World} {p : Addr} {x : Nd} {u : Value} (h : AtN w p x u) (hb : w'.heap[p.block]? = w.heap[p.block]?) : AtN w' p x u := by
  have hk : ∀ j s, w'.cell? ⟨p.block, j, s⟩ = w.cell? ⟨p.block, j, s⟩ := fun j s => World.cell?_of_block (a := ⟨p.block, j, s⟩) hb
  obtain ⟨h0, h1, h2, h3, h4, h5⟩ := h
  refine ⟨?_, ?_, ?_, ?_, ?_, ?_⟩
  · exact (hk p.off p.spot).trans h0
  · rw [hk]; exact h1
  · rw [hk]; exact h2
  · rw [hk]; exact h3
  · rw [hk]; exact h4
  · rw [hk]; exact h5
/-- A slice of nodes that can be read. -/
def ReadN (w : World) (v : Value) (ns : List Nd) : Prop := ∃ A cap, v = .slice A ns.length cap ∧ (0 < ns.length → ∃ ad : Addr, A = some ad ∧ ad.block < w.heap.size ∧ ∀ i x, ns[i]? = some x → ∃ u, AtN w (ad.add (i * 6)) x u ∧ ReadA w u x.2.2.2.2.1)
theorem ReadN.below {w w' : World} {v : Value} {ns : List Nd} (h : ReadN w v ns) (hb : Below w.heap.size w w') : ReadN w' v ns := by
  obtain ⟨A, cap, rfl, h2⟩ := h
  refine ⟨A, cap, rfl, fun h0 => ?_⟩
  obtain ⟨ad, rfl, hl, hc⟩ := h2 h0
  refine ⟨ad, rfl, Nat.lt_of_lt_of_le hl hb.size, fun i x hi => ?_⟩
  obtain ⟨u, h3, h4⟩ := hc i x hi
  exact ⟨u, h3.of (hb.block _ (by rw [addBlock]; exact hl)), h4.below hb⟩

/-! ### texts in a row -/
theorem infoStr : (Tryd.prog.info? 9).map (fun i => (i.zero, i.size, i.bytes)) = some (some (.string ⟨#[]⟩), 1, 16) := by kernel_rfl
def sts (l : List (List UInt8)) : List Value := l.map (fun x => .string (bts x))
theorem sts_nil : sts [] = [] := rfl
theorem sts_snoc (l : List (List UInt8)) (x : List UInt8) : sts (l ++ [x]) = sts l ++ [.string (bts x)] := by simp [sts]
theorem sts_length (l : List (List UInt8)) : (sts l).length = l.length := List.length_map _
theorem sts_get {l : List (List UInt8)} {i : Nat} {x : List UInt8} (h : l[i]? = some x) : (sts l)[i]? = some (.string (bts x)) := by simp [sts, h]
theorem sts_cells (l : List (List UInt8)) : ∀ u ∈ sts l, u.oneCell' = true := by
  intro u hu
  obtain ⟨c, _, rfl⟩ := List.mem_map.1 hu
  rfl
attribute [irreducible] sts
/-- The slice v, made by the call (above block B), holds just these texts. -/
def OwnT (B : Nat) (w : World) (v : Value) (l : List (List UInt8)) : Prop := w.ownsRow B 9 1 v l.length (sts l)
theorem OwnT.nil (B : Nat) (w : World) : OwnT B w (.slice none 0 0) [] := by
  unfold OwnT
  rw [sts_nil]
  exact World.ownsRow_nil _ _ _ _
theorem OwnT.slice {B : Nat} {w : World} {v : Value} {l : List (List UInt8)} (h : OwnT B w v l) : ∃ A cap, v = .slice A l.length cap := by
  rcases h.2 with ⟨rfl, h0⟩ | ⟨g, cap, cur, rfl, _⟩
  · exact ⟨none, 0, by rw [h0]⟩
  · exact ⟨_, _, rfl⟩
theorem OwnT.one {B : Nat} {w : World} {v : Value} {l : List (List UInt8)} (h : OwnT B w v l) : v.oneCell' = true := by
  obtain ⟨A, cap, rfl⟩ := h.slice
  rfl
/-- All that matters of such a row is its block. -/
theorem OwnT.of {B : Nat} {w w' : World} {v : Value} {l : List (List UInt8)} (h : OwnT B w v l) (hb : ∀ g, v.ownBlock = some g → w'.heap[g]? = w.heap[g]?) : OwnT B w' v l := by
  have h' : w.ownsRow B 9 1 v l.length (sts l) := h
  rcases h'.2 with ⟨rfl, h0⟩ | ⟨g, cap, cur, rfl, hg, hh, h1, h2, h3, h4⟩
  · exact ⟨h'.1, .inl ⟨rfl, h0⟩⟩
  · exact ⟨h'.1, .inr ⟨g, cap, cur, rfl, hg, (hb g rfl).trans hh, h1, h2, h3, h4⟩⟩
theorem OwnT.at {B : Nat} {w : World} {v : Value} {l : List (List UInt8)} (h : OwnT B w v l) {g : Nat} (hg : v.ownBlock = some g) : B ≤ g ∧ g < w.heap.size ∧ ∃ cs, Bk w g 9 cs := by
  have h' : w.ownsRow B 9 1 v l.length (sts l) := h
  rcases h'.2 with ⟨rfl, h0⟩ | ⟨g', cap, cur, rfl, hb, hh, _⟩
  · cases hg
  · injection hg with hg
    subst hg
    exact ⟨hb, lt_of_block hh, cur, hh⟩
theorem OwnT.cells {B : Nat} {w : World} {v : Value} {l : List (List UInt8)} (h : OwnT B w v l) : v = .slice none 0 0 ∧ l = [] ∨ ∃ g cap, v = .slice (some ⟨g, 0, none⟩) l.length cap ∧ g < w.heap.size ∧ l.length ≤ cap ∧ ∀ i x, l[i]? = some x → w.cell? ⟨g, i, none⟩ = some (.string (bts x)) := by
  have h' : w.ownsRow B 9 1 v l.length (sts l) := h
  rcases h'.2 with ⟨rfl, h0⟩ | ⟨g, cap, cur, rfl, hb, hh, h1, _, _, h4⟩
  · exact .inl ⟨rfl, List.eq_nil_of_length_eq_zero h0⟩
  · refine .inr ⟨g, cap, rfl, lt_of_block hh, h1, fun i x hi => ?_⟩
    have hi2 := (List.getElem?_eq_some_iff.1 hi).1
    have h5 := sts_get hi
    rw [show w.cell? ⟨g, i, none⟩ = cur[i]? from Bk.cell (show Bk w g 9 cur from hh) i, ← Array.getElem?_toList]
    rwa [← h4, List.getElem?_take_of_lt (by omega)] at h5

/-! ### elements -/
/-- An element: a node, where its attributes lie, where its texts lie; is there an element in it? -/
abbrev El := Nd × Value × Value × Bool
def encE (k : El) : List Value := [.int .i64 k.1.1, .int .i64 k.1.2.1, .string (bts k.1.2.2.1), .string (bts k.1.2.2.2.1), k.2.1, .string ⟨#[]⟩, k.2.2.1, .bool k.2.2.2]
def es (l : List El) : List Value := l.flatMap encE
theorem es_nil : es [] = [] := rfl
theorem es_append (a b : List El) : es (a ++ b) = es a ++ es b := by simp [es]
theorem es_one (k : El) : es [k] = encE k := by simp [es]
theorem es_cons (k : El) (l : List El) : es (k :: l) = encE k ++ es l := by simp [es]
theorem es_length : ∀ (l : List El), (es l).length = l.length * 8
  | [] => rfl
  | r :: l => by rw [es_cons, List.length_append, es_length l, List.length_cons]; simp [encE]; omega
theorem es_get : ∀ {l : List El} {j i : Nat} {k : El}, l[j]? = some k → i < 8 → (es l)[j * 8 + i]? = (encE k)[i]?
  | [], j, i, r, h, _ => by simp at h
  | a :: l, 0, i, r, h, hi => by
    obtain rfl : a = r := by simpa using h
    rw [es_cons, Nat.zero_mul, Nat.zero_add, List.getElem?_append_left (by simp [encE]; omega)]
  | a :: l, j + 1, i, r, h, hi => by
    have := es_get (l := l) (j := j) (i := i) (k := r) (by simpa using h) hi
    rw [es_cons, List.getElem?_append_right (by simp [encE]; omega), ← this]
    congr 1
    simp [encE]
    omega
theorem es_set {l : List El} {j i : Nat} {k k' : El} {u : Value} (h : l[j]? = some k) (hi : i < 8) (hk : encE k' = (encE k).set i u) : es (l.set j k') = (es l).set (j * 8 + i) u := by
  induction l generalizing j with
  | nil => simp at h
  | cons a l ih =>
    cases j with
    | zero =>
      obtain rfl : a = k := by simpa using h
      rw [List.set_cons_zero, es_cons, es_cons, hk, Nat.zero_mul, Nat.zero_add, List.set_append_left _ _ (by simp [encE]; omega)]
    | succ j =>
      rw [List.set_cons_succ, es_cons, es_cons, ih (by simpa using h), List.set_append_right _ _ (by simp [encE]; omega)]
      congr 2
      simp [encE]
      omega
attribute [irreducible] es
/-- No two of them have their texts in one block. -/
def Apart (ks : List El) : Prop := ∀ (i j : Nat) (a b : El), ks[i]? = some a → ks[j]? = some b → i ≠ j → ∀ g, a.2.2.1.ownBlock = some g → b.2.2.1.ownBlock ≠ some g
end Go.Proofs.YtbkfmbkamocllaaDoor
