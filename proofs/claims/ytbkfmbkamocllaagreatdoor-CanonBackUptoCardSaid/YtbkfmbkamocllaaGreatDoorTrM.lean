/- Texts laid together: TrM TrE Psh -/
import Derived.Test.YtbkfmbkamocllaaGreatDoorTkM
import Derived.Test.YtbkfmbkamocllaaGreatDoorTre
import Derived.Test.YtbkfmbkamocllaaGreatDoorIntsO
import Derived.Deep.AppendLies
import Derived.Laws.AppendOwn
/-
  MEMORY OF A TREE: tokens and nodes that came in; elements that grow, each with its texts; nodes that the call has made.
-/
namespace Go.Proofs.YtbkfmbkamocllaaGreatDoor
open Go.RowKit Tk Tr

theorem add_succ (ad : Addr) (n j : Nat) (hj : 0 < j) : ad.add (n + j) = ⟨(ad.add n).block, (ad.add n).off + j, none⟩ := by
  unfold Addr.add
  rw [if_neg (by omega)]
  split
  · rename_i h; subst h; simp
  · simp [Nat.add_assoc]
/-! ### what came in -/
/-- u is a slice that can be read: these attributes. -/
def ReadA (w : World) (u : Value) (l : List Att) : Prop := ∃ A cap, u = .slice A l.length cap ∧ (0 < l.length → ∃ ad : Addr, A = some ad ∧ ad.block < w.heap.size ∧ ∀ i a, l[i]? = some a → w.cell? (ad.add (i * 2)) = some (.string (bts a.1)) ∧ w.cell? ⟨(ad.add (i * 2)).block, (ad.add (i * 2)).off + 1, none⟩ = some (.string (bts a.2)))
theorem ReadA.below {w w' : World} {u : Value} {l : List Att} (h : ReadA w u l) (hb : Below w.heap.size w w') : ReadA w' u l := by
  obtain ⟨A, cap, rfl, h2⟩ := h
  refine ⟨A, cap, rfl, fun h0 => ?_⟩
  obtain ⟨ad, rfl, hl, hc⟩ := h2 h0
  refine ⟨ad, rfl, Nat.lt_of_lt_of_le hl hb.size, fun i a hi => ?_⟩
  rw [hb.cell (by rw [addBlock]; exact hl), hb.cell (by show (ad.add (i * 2)).block < _; rw [addBlock]; exact hl)]
  exact hc i a hi
theorem RowA.reads {w : World} {u : Value} {l : List Att} (h : RowA w u l) : ReadA w u l := by
  obtain ⟨A, cap, rfl, h2⟩ := h.cells
  refine ⟨A, cap, rfl, fun h0 => ?_⟩
  obtain ⟨g, rfl, hl, hc⟩ := h2 h0
  refine ⟨_, rfl, hl, fun i a hi => ?_⟩
  rw [add_at, Nat.zero_add]
  exact hc i a hi
theorem ReadA.one {w : World} {u : Value} {l : List Att} (h : ReadA w u l) : u.oneCell' = true := by
  obtain ⟨A, cap, rfl, _⟩ := h
  rfl
/-- Six cells of a token. -/
def AtT (w : World) (p : Addr) (t : TokI) (u : Value) : Prop := w.cell? p = some (.int .i64 t.1) ∧ w.cell? ⟨p.block, p.off + 1, none⟩ = some (.int .i64 t.2.1) ∧ w.cell? ⟨p.block, p.off + 2, none⟩ = some (.string (bts t.2.2.1)) ∧
  w.cell? ⟨p.block, p.off + 3, none⟩ = some (.string (bts t.2.2.2.1)) ∧ w.cell? ⟨p.block, p.off + 4, none⟩ = some u ∧ w.cell? ⟨p.block, p.off + 5, none⟩ = some (.bool t.2.2.2.2.2)
theorem AtT.of {w w' : World} {p : Addr} {t : TokI} {u : Value} (h : AtT w p t u) (hb : w'.heap[p.block]? = w.heap[p.block]?) : AtT w' p t u := by
  have hk : ∀ j s, w'.cell? ⟨p.block, j, s⟩ = w.cell? ⟨p.block, j, s⟩ := fun j s => World.cell?_of_block (a := ⟨p.block, j, s⟩) hb
  obtain ⟨h0, h1, h2, h3, h4, h5⟩ := h
  refine ⟨?_, ?_, ?_, ?_, ?_, ?_⟩
  · exact (hk p.off p.spot).trans h0
  · rw [hk]; exact h1
  · rw [hk]; exact h2
  · rw [hk]; exact h3
  · rw [hk]; exact h4
  · rw [hk]; exact h5
/-- A slice of tokens that can be read. -/
def ReadI (w : World) (v : Value) (ts : List TokI) : Prop := ∃ A cap, v = .slice A ts.length cap ∧ (0 < ts.length → ∃ ad : Addr, A = some ad ∧ ad.block < w.heap.size ∧ ∀ i t, ts[i]? = some t → ∃ u, AtT w (ad.add (i * 6)) t u ∧ ReadA w u t.2.2.2.2.1)
theorem ReadI.below {w w' : World} {v : Value} {ts : List TokI} (h : ReadI w v ts) (hb : Below w.heap.size w w') : ReadI w' v ts := by
  obtain ⟨A, cap, rfl, h2⟩ := h
  refine ⟨A, cap, rfl, fun h0 => ?_⟩
  obtain ⟨ad, rfl, hl, hc⟩ := h2 h0
  refine ⟨ad, rfl, Nat.lt_of_lt_of_le hl hb.size, fun i t hi => ?_⟩
  obtain ⟨u, h3, h4⟩ := hc i t hi
  exact ⟨u, h3.of (hb.block _ (by rw [addBlock]; exact hl)), h4.below hb⟩
theorem ReadK.readI {w : World} {v : Value} {ts : List TokA} (h : ReadK w v ts) : ReadI w v (ts.map toI) := by
  obtain ⟨A, cap, rfl, _, _, h2⟩ := h
  refine ⟨A, cap, by rw [List.length_map], fun h0 => ?_⟩
  rw [List.length_map] at h0
  obtain ⟨g, o, rfl, hl, hc⟩ := h2 h0
  refine ⟨_, rfl, hl, fun i t hi => ?_⟩
  rw [List.getElem?_map] at hi
  obtain ⟨k, hk, rfl⟩ := Option.map_eq_some_iff.1 hi
  obtain ⟨u, h3, h4⟩ := hc i k hk
  refine ⟨u, ?_, h4.reads⟩
  rw [add_at]
  exact h3
/-- Six cells of a node. -/
def AtN (w : World) (p : Addr) (x : Nd) (u : Value) : Prop := w.cell? p = some (.int .i64 x.1) ∧ w.cell? ⟨p.block, p.off + 1, none⟩ = some (.int .i64 x.2.1) ∧ w.cell? ⟨p.block, p.off + 2, none⟩ = some (.string (bts x.2.2.1)) ∧
  w.cell? ⟨p.block, p.off + 3, none⟩ = some (.string (bts x.2.2.2.1)) ∧ w.cell? ⟨p.block, p.off + 4, none⟩ = some u ∧ w.cell? ⟨p.block, p.off + 5, none⟩ = some (.string (bts x.2.2.2.2.2))
theorem AtN.of {w w' : World} {p : Addr} {x : Nd} {u : Value} (h : AtN w p x u) (hb : w'.heap[p.block]? = w.heap[p.block]?) : AtN w' p x u := by
  have hk : ∀ j s, w'.cell? ⟨p.block, j, s⟩ = w.cell? ⟨p.block, j, s⟩ := fun j s => World.cell?_of_block (a := ⟨p.block, j, s⟩) hb
  obtain ⟨h0, h1, h2, h3, h4, h5⟩ := h
  refine ⟨?_, ?_, ?_, ?_, ?_, ?_⟩
  · exact (hk p.off p.spot).trans h0
  · rw [hk]; exact h1
  · rw [hk]; exact h2
  · rw [hk]; exact h3
  · rw [hk]; exact h4
  · rw [hk]; exact h5
/-- A slice of nodes that can be read. -/
def ReadN (w : World) (v : Value) (ns : List Nd) : Prop := ∃ A cap, v = .slice A ns.length cap ∧ (0 < ns.length → ∃ ad : Addr, A = some ad ∧ ad.block < w.heap.size ∧ ∀ i x, ns[i]? = some x → ∃ u, AtN w (ad.add (i * 6)) x u ∧ ReadA w u x.2.2.2.2.1)
theorem ReadN.below {w w' : World} {v : Value} {ns : List Nd} (h : ReadN w v ns) (hb : Below w.heap.size w w') : ReadN w' v ns := by
  obtain ⟨A, cap, rfl, h2⟩ := h
  refine ⟨A, cap, rfl, fun h0 => ?_⟩
  obtain ⟨ad, rfl, hl, hc⟩ := h2 h0
  refine ⟨ad, rfl, Nat.lt_of_lt_of_le hl hb.size, fun i x hi => ?_⟩
  obtain ⟨u, h3, h4⟩ := hc i x hi
  exact ⟨u, h3.of (hb.block _ (by rw [addBlock]; exact hl)), h4.below hb⟩

/-! ### texts in a row -/
theorem infoStr : (Tryz.prog.info? 9).map (fun i => (i.zero, i.size, i.bytes)) = some (some (.string ⟨#[]⟩), 1, 16) := by kernel_rfl
def sts (l : List (List UInt8)) : List Value := l.map (fun x => .string (bts x))
theorem sts_nil : sts [] = [] := rfl
theorem sts_snoc (l : List (List UInt8)) (x : List UInt8) : sts (l ++ [x]) = sts l ++ [.string (bts x)] := by simp [sts]
theorem sts_length (l : List (List UInt8)) : (sts l).length = l.length := List.length_map _
theorem sts_get {l : List (List UInt8)} {i : Nat} {x : List UInt8} (h : l[i]? = some x) : (sts l)[i]? = some (.string (bts x)) := by simp [sts, h]
theorem sts_cells (l : List (List UInt8)) : ∀ u ∈ sts l, u.oneCell' = true := by
  intro u hu
  obtain ⟨c, _, rfl⟩ := List.mem_map.1 hu
  rfl
attribute [irreducible] sts
/-- The slice v, made by the call (above block B), holds just these texts. -/
def OwnT (B : Nat) (w : World) (v : Value) (l : List (List UInt8)) : Prop := w.ownsRow B 9 1 v l.length (sts l)
theorem OwnT.nil (B : Nat) (w : World) : OwnT B w (.slice none 0 0) [] := by
  unfold OwnT
  rw [sts_nil]
  exact World.ownsRow_nil _ _ _ _
theorem OwnT.slice {B : Nat} {w : World} {v : Value} {l : List (List UInt8)} (h : OwnT B w v l) : ∃ A cap, v = .slice A l.length cap := by
  rcases h.2 with ⟨rfl, h0⟩ | ⟨g, cap, cur, rfl, _⟩
  · exact ⟨none, 0, by rw [h0]⟩
  · exact ⟨_, _, rfl⟩
theorem OwnT.one {B : Nat} {w : World} {v : Value} {l : List (List UInt8)} (h : OwnT B w v l) : v.oneCell' = true := by
  obtain ⟨A, cap, rfl⟩ := h.slice
  rfl
/-- All that matters of such a row is its block. -/
theorem OwnT.of {B : Nat} {w w' : World} {v : Value} {l : List (List UInt8)} (h : OwnT B w v l) (hb : ∀ g, v.ownBlock = some g → w'.heap[g]? = w.heap[g]?) : OwnT B w' v l := by
  have h' : w.ownsRow B 9 1 v l.length (sts l) := h
  rcases h'.2 with ⟨rfl, h0⟩ | ⟨g, cap, cur, rfl, hg, hh, h1, h2, h3, h4⟩
  · exact ⟨h'.1, .inl ⟨rfl, h0⟩⟩
  · exact ⟨h'.1, .inr ⟨g, cap, cur, rfl, hg, (hb g rfl).trans hh, h1, h2, h3, h4⟩⟩
theorem OwnT.at {B : Nat} {w : World} {v : Value} {l : List (List UInt8)} (h : OwnT B w v l) {g : Nat} (hg : v.ownBlock = some g) : B ≤ g ∧ g < w.heap.size ∧ ∃ cs, Bk w g 9 cs := by
  have h' : w.ownsRow B 9 1 v l.length (sts l) := h
  rcases h'.2 with ⟨rfl, h0⟩ | ⟨g', cap, cur, rfl, hb, hh, _⟩
  · cases hg
  · injection hg with hg
    subst hg
    exact ⟨hb, lt_of_block hh, cur, hh⟩
theorem OwnT.cells {B : Nat} {w : World} {v : Value} {l : List (List UInt8)} (h : OwnT B w v l) : v = .slice none 0 0 ∧ l = [] ∨ ∃ g cap, v = .slice (some ⟨g, 0, none⟩) l.length cap ∧ g < w.heap.size ∧ l.length ≤ cap ∧ ∀ i x, l[i]? = some x → w.cell? ⟨g, i, none⟩ = some (.string (bts x)) := by
  have h' : w.ownsRow B 9 1 v l.length (sts l) := h
  rcases h'.2 with ⟨rfl, h0⟩ | ⟨g, cap, cur, rfl, hb, hh, h1, _, _, h4⟩
  · exact .inl ⟨rfl, List.eq_nil_of_length_eq_zero h0⟩
  · refine .inr ⟨g, cap, rfl, lt_of_block hh, h1, fun i x hi => ?_⟩
    have hi2 := (List.getElem?_eq_some_iff.1 hi).1
    have h5 := sts_get hi
    rw [show w.cell? ⟨g, i, none⟩ = cur[i]? from Bk.cell (show Bk w g 9 cur from hh) i, ← Array.getElem?_toList]
    rwa [← h4, List.getElem?_take_of_lt (by omega)] at h5

/-! ### elements -/
theorem infoElm : (Tryz.prog.info? 75).map (fun i => (i.zero, i.size, i.bytes)) = some (some (.agg #[.int .i64 0, .int .i64 0, .string ⟨#[]⟩, .string ⟨#[]⟩, .slice none 0 0, .string ⟨#[]⟩, .slice none 0 0, .bool false]), 8, 120) := by kernel_rfl
/-- An element: a node, where its attributes lie, where its texts lie; is there an element in it? -/
abbrev El := Nd × Value × Value × Bool
def encE (k : El) : List Value := [.int .i64 k.1.1, .int .i64 k.1.2.1, .string (bts k.1.2.2.1), .string (bts k.1.2.2.2.1), k.2.1, .string ⟨#[]⟩, k.2.2.1, .bool k.2.2.2]
def es (l : List El) : List Value := l.flatMap encE
theorem es_nil : es [] = [] := rfl
theorem es_append (a b : List El) : es (a ++ b) = es a ++ es b := by simp [es]
theorem es_one (k : El) : es [k] = encE k := by simp [es]
theorem es_cons (k : El) (l : List El) : es (k :: l) = encE k ++ es l := by simp [es]
theorem es_length : ∀ (l : List El), (es l).length = l.length * 8
  | [] => rfl
  | r :: l => by rw [es_cons, List.length_append, es_length l, List.length_cons]; simp [encE]; omega
theorem es_get : ∀ {l : List El} {j i : Nat} {k : El}, l[j]? = some k → i < 8 → (es l)[j * 8 + i]? = (encE k)[i]?
  | [], j, i, r, h, _ => by simp at h
  | a :: l, 0, i, r, h, hi => by
    obtain rfl : a = r := by simpa using h
    rw [es_cons, Nat.zero_mul, Nat.zero_add, List.getElem?_append_left (by simp [encE]; omega)]
  | a :: l, j + 1, i, r, h, hi => by
    have := es_get (l := l) (j := j) (i := i) (k := r) (by simpa using h) hi
    rw [es_cons, List.getElem?_append_right (by simp [encE]; omega), ← this]
    congr 1
    simp [encE]
    omega
theorem es_set {l : List El} {j i : Nat} {k k' : El} {u : Value} (h : l[j]? = some k) (hi : i < 8) (hk : encE k' = (encE k).set i u) : es (l.set j k') = (es l).set (j * 8 + i) u := by
  induction l generalizing j with
  | nil => simp at h
  | cons a l ih =>
    cases j with
    | zero =>
      obtain rfl : a = k := by simpa using h
      rw [List.set_cons_zero, es_cons, es_cons, hk, Nat.zero_mul, Nat.zero_add, List.set_append_left _ _ (by simp [encE]; omega)]
    | succ j =>
      rw [List.set_cons_succ, es_cons, es_cons, ih (by simpa using h), List.set_append_right _ _ (by simp [encE]; omega)]
      congr 2
      simp [encE]
      omega
attribute [irreducible] es
/-- No two of them have their texts in one block. -/
def Apart (ks : List El) : Prop := ∀ (i j : Nat) (a b : El), ks[i]? = some a → ks[j]? = some b → i ≠ j → ∀ g, a.2.2.1.ownBlock = some g → b.2.2.1.ownBlock ≠ some g
/-- The slice v, made by the call (above block B), holds just these elements; fl says of which there is one within. -/
def OwnE (N B : Nat) (w : World) (v : Value) (els : List Nd) (fl : Nat → Bool) : Prop :=
  ∃ ks : List El, ks.map (·.1) = els ∧ w.ownsRow B 75 8 v ks.length (es ks) ∧ (∀ i k, ks[i]? = some k → RowA w k.2.1 k.1.2.2.2.2.1 ∧ (∃ l, OwnT B w k.2.2.1 l ∧ l.flatten = k.1.2.2.2.2.2 ∧ l.length ≤ N) ∧ k.2.2.2 = fl i) ∧ Apart ks
theorem OwnE.nil (N B : Nat) (w : World) (fl : Nat → Bool) : OwnE N B w (.slice none 0 0) [] fl := ⟨[], rfl, by rw [es_nil]; exact World.ownsRow_nil _ _ _ _, fun i k h => by simp at h, fun i j a b h => by simp at h⟩
end Go.Proofs.YtbkfmbkamocllaaGreatDoor
/-
  ELEMENTS THAT GROW: read, appended to, told that there is one within, given a text.
-/
namespace Go.Proofs.YtbkfmbkamocllaaGreatDoor
open Go.RowKit Tk Tr

/-- All blocks of a type stay, from B on. -/
def KeepT (t : TypeId) (w w' : World) : Prop := ∀ k cs, Bk w k t cs → Bk w' k t cs
theorem KeepT.below {t : TypeId} {w w' : World} (h : Below w.heap.size w w') : KeepT t w w' := fun _ _ hg => (h.block _ hg.lt).trans hg
theorem KeepT.set {t u : TypeId} {w : World} {g : Nat} {cs : Array Value} (h : Bk w g t cs) (ht : t ≠ u) (o : Nat) (x : Value) : KeepT u w (w.setCell ⟨g, o, none⟩ x) := fun _ _ hk =>
  (Below.heap_setCell _ _ _ _ (Bk.type_ne hk h (fun e => ht e.symm))).trans hk
theorem KeepT.grown {t u : TypeId} {w w' : World} {row : Option Nat} (hg : w.grownBy w' row) (hrow : ∀ g, row = some g → ∃ cs, Bk w g t cs) (ht : t ≠ u) : KeepT u w w' := fun k cs hk => by
  refine (hg.block k hk.lt (fun e => ?_)).trans hk
  obtain ⟨ds, hd⟩ := hrow k e.symm
  exact Bk.type_ne hk hd (fun e => ht e.symm) rfl
theorem KeepT.trans {t : TypeId} {a b c : World} (h : KeepT t a b) (k : KeepT t b c) : KeepT t a c := fun g cs hg => k g cs (h g cs hg)
theorem OwnT.keep {B : Nat} {w w' : World} {v : Value} {l : List (List UInt8)} (h : OwnT B w v l) (hk : KeepT 9 w w') : OwnT B w' v l :=
  h.of (fun g hg => by obtain ⟨_, _, cs, hb⟩ := h.at hg; exact (hk g cs hb).trans (Eq.symm hb))
theorem row_block {B : Nat} {w : World} {v : Value} {t : TypeId} {s n : Nat} {xs : List Value} (h : w.ownsRow B t s v n xs) : ∀ g, v.ownBlock = some g → ∃ cs, Bk w g t cs := fun g hg => by
  rcases h.2 with ⟨rfl, h0⟩ | ⟨g', cap, cur, rfl, hb, hh, _⟩
  · cases hg
  · injection hg with hg
    subst hg
    exact ⟨cur, hh⟩
theorem row_keep {B : Nat} {w w' : World} {v : Value} {t : TypeId} {s n : Nat} {xs : List Value} (h : w.ownsRow B t s v n xs) (hk : KeepT t w w') : w'.ownsRow B t s v n xs := by
  refine ⟨h.1, h.2.imp id fun ⟨g, cap, cur, h1, h2, h3, h4⟩ => ⟨g, cap, cur, h1, h2, hk g cur h3, h4⟩⟩
theorem OwnE.keep {N B : Nat} {w w' : World} {v : Value} {els : List Nd} {fl : Nat → Bool} (h : OwnE N B w v els fl) (hE : KeepT 75 w w') (hA : KeepA w w') (hS : KeepT 9 w w') : OwnE N B w' v els fl := by
  obtain ⟨ks, h1, h2, h3, h4⟩ := h
  refine ⟨ks, h1, row_keep h2 hE, fun i k hk => ?_, h4⟩
  obtain ⟨k1, ⟨l, k2, k3⟩, k4⟩ := h3 i k hk
  exact ⟨k1.keep hA, ⟨l, k2.keep hS, k3⟩, k4⟩
theorem OwnE.below {N B : Nat} {w w' : World} {v : Value} {els : List Nd} {fl : Nat → Bool} (h : OwnE N B w v els fl) (hb : Below w.heap.size w w') : OwnE N B w' v els fl := h.keep (.below hb) (.below hb) (.below hb)
theorem OwnE.stored {N B g : Nat} {w : World} {v : Value} {els : List Nd} {fl : Nat → Bool} {t : TypeId} {cs : Array Value} (h : OwnE N B w v els fl) (hg : Bk w g t cs) (h1 : t ≠ 75) (h2 : t ≠ 45) (h3 : t ≠ 9) (o : Nat) (x : Value) : OwnE N B (w.setCell ⟨g, o, none⟩ x) v els fl :=
  h.keep (KeepT.set hg h1 o x) (KeepT.set hg h2 o x) (KeepT.set hg h3 o x)
theorem OwnE.grown {N B : Nat} {w w' : World} {v : Value} {els : List Nd} {fl : Nat → Bool} {t : TypeId} {row : Option Nat} (h : OwnE N B w v els fl) (hg : w.grownBy w' row) (hrow : ∀ g, row = some g → ∃ cs, Bk w g t cs) (h1 : t ≠ 75) (h2 : t ≠ 45) (h3 : t ≠ 9) : OwnE N B w' v els fl :=
  h.keep (KeepT.grown hg hrow h1) (KeepT.grown hg hrow h2) (KeepT.grown hg hrow h3)
theorem OwnE.more {N M B : Nat} {w : World} {v : Value} {els : List Nd} {fl : Nat → Bool} (h : OwnE N B w v els fl) (hm : N ≤ M) : OwnE M B w v els fl := by
  obtain ⟨ks, h1, h2, h3, h4⟩ := h
  refine ⟨ks, h1, h2, fun i k hk => ?_, h4⟩
  obtain ⟨k1, ⟨l, k2, k3, k5⟩, k4⟩ := h3 i k hk
  exact ⟨k1, ⟨l, k2, k3, Nat.le_trans k5 hm⟩, k4⟩
theorem OwnE.slice {N B : Nat} {w : World} {v : Value} {els : List Nd} {fl : Nat → Bool} (h : OwnE N B w v els fl) : ∃ A cap, v = .slice A els.length cap := by
  obtain ⟨ks, rfl, h2, _⟩ := h
  rw [List.length_map]
  rcases h2.2 with ⟨rfl, h0⟩ | ⟨g, cap, cur, rfl, _⟩
  · exact ⟨none, 0, by rw [h0]⟩
  · exact ⟨_, _, rfl⟩
theorem OwnE.flag {N B : Nat} {w : World} {v : Value} {els : List Nd} {fl fl' : Nat → Bool} (h : OwnE N B w v els fl) (hf : ∀ i, i < els.length → fl i = fl' i) : OwnE N B w v els fl' := by
  obtain ⟨ks, rfl, h2, h3, h4⟩ := h
  refine ⟨ks, rfl, h2, fun i k hk => ?_, h4⟩
  obtain ⟨k1, k2, k3⟩ := h3 i k hk
  exact ⟨k1, k2, k3.trans (hf i (by rw [List.length_map]; exact (List.getElem?_eq_some_iff.1 hk).1))⟩
/-- Eight cells of an element. -/
def AtE (w : World) (g o : Nat) (x : Nd) (av tv : Value) (f : Bool) : Prop := w.cell? ⟨g, o, none⟩ = some (.int .i64 x.1) ∧ w.cell? ⟨g, o + 1, none⟩ = some (.int .i64 x.2.1) ∧ w.cell? ⟨g, o + 2, none⟩ = some (.string (bts x.2.2.1)) ∧
  w.cell? ⟨g, o + 3, none⟩ = some (.string (bts x.2.2.2.1)) ∧ w.cell? ⟨g, o + 4, none⟩ = some av ∧ w.cell? ⟨g, o + 5, none⟩ = some (.string ⟨#[]⟩) ∧ w.cell? ⟨g, o + 6, none⟩ = some tv ∧ w.cell? ⟨g, o + 7, none⟩ = some (.bool f)
theorem OwnE.at {N B : Nat} {w : World} {v : Value} {els : List Nd} {fl : Nat → Bool} (h : OwnE N B w v els fl) (h0 : 0 < els.length) : ∃ g cap, v = .slice (some ⟨g, 0, none⟩) els.length cap ∧ B ≤ g ∧ g < w.heap.size ∧ (∃ cs, Bk w g 75 cs) ∧
    ∀ i x, els[i]? = some x → ∃ av tv, AtE w g (i * 8) x av tv (fl i) ∧ RowA w av x.2.2.2.2.1 ∧ ∃ l, OwnT B w tv l ∧ l.flatten = x.2.2.2.2.2 ∧ l.length ≤ N := by
  obtain ⟨ks, rfl, h2, h3, h4⟩ := h
  rw [List.length_map] at h0 ⊢
  rcases h2.2 with ⟨rfl, h1⟩ | ⟨g, cap, cur, rfl, hb, hh, h5, h6, h7, h8⟩
  · omega
  · refine ⟨g, cap, rfl, hb, lt_of_block hh, ⟨cur, hh⟩, fun i x hi => ?_⟩
    rw [List.getElem?_map] at hi
    obtain ⟨k, hk, rfl⟩ := Option.map_eq_some_iff.1 hi
    have hlt := (List.getElem?_eq_some_iff.1 hk).1
    obtain ⟨k1, k2, k3⟩ := h3 i k hk
    have hc : ∀ j, j < 8 → w.cell? ⟨g, i * 8 + j, none⟩ = (encE k)[j]? := fun j hj => by
      rw [show w.cell? ⟨g, i * 8 + j, none⟩ = cur[i * 8 + j]? from Bk.cell (show Bk w g 75 cur from hh) _, ← Array.getElem?_toList, ← es_get hk hj, ← h8, List.getElem?_take_of_lt (by omega)]
    refine ⟨k.2.1, k.2.2.1, ⟨?_, ?_, ?_, ?_, ?_, ?_, ?_, ?_⟩, k1, k2⟩
    · exact hc 0 (by omega)
    · exact hc 1 (by omega)
    · exact hc 2 (by omega)
    · exact hc 3 (by omega)
    · exact hc 4 (by omega)
    · exact hc 5 (by omega)
    · exact hc 6 (by omega)
    · rw [← k3]; exact hc 7 (by omega)
/-- A flag is set. -/
theorem OwnE.mark {N B g cap : Nat} {w : World} {els : List Nd} {fl : Nat → Bool} (h : OwnE N B w (.slice (some ⟨g, 0, none⟩) els.length cap) els fl) {p : Nat} (hp : p < els.length) :
    OwnE N B (w.setCell ⟨g, p * 8 + 7, none⟩ (.bool true)) (.slice (some ⟨g, 0, none⟩) els.length cap) els (fun i => fl i || decide (i = p)) := by
  obtain ⟨ks, rfl, h2, h3, h4⟩ := h
  rw [List.length_map] at hp h2 ⊢
  obtain ⟨k, hk⟩ : ∃ k, ks[p]? = some k := ⟨_, List.getElem?_eq_getElem hp⟩
  obtain ⟨cs, hcs⟩ := row_block h2 g rfl
  have hst := (h2.stored (p * 8 + 7) (.bool true)).1
  rw [← es_set (k' := (k.1, k.2.1, k.2.2.1, true)) hk (by omega) (by rfl)] at hst
  have hget : ∀ (i : Nat) (a : El), (ks.set p (k.1, k.2.1, k.2.2.1, true))[i]? = some a → (i = p ∧ a = (k.1, k.2.1, k.2.2.1, true)) ∨ (i ≠ p ∧ ks[i]? = some a) := fun i a hi => by
    rw [List.getElem?_set] at hi
    split at hi
    · rename_i e
      subst e
      exact .inl ⟨rfl, (Option.some.inj hi).symm⟩
    · rename_i e
      exact .inr ⟨fun e2 => e e2.symm, hi⟩
  have hsame : ∀ (i : Nat) (a : El), (ks.set p (k.1, k.2.1, k.2.2.1, true))[i]? = some a → ∃ b, ks[i]? = some b ∧ b.1 = a.1 ∧ b.2.1 = a.2.1 ∧ b.2.2.1 = a.2.2.1 := fun i a hi => by
    rcases hget i a hi with ⟨rfl, rfl⟩ | ⟨_, hi⟩
    · exact ⟨k, hk, rfl, rfl, rfl⟩
    · exact ⟨a, hi, rfl, rfl, rfl⟩
  refine ⟨ks.set p (k.1, k.2.1, k.2.2.1, true), ?_, by rw [List.length_set]; exact hst, fun i a hi => ?_, fun i j a b hi hj hij => ?_⟩
  · rw [List.map_set]
    apply List.ext_getElem? 
    intro i
    rw [List.getElem?_set]
    split
    · rename_i e
      subst e
      rw [List.length_map, if_pos hp, List.getElem?_map, hk]
      rfl
    · rfl
  · obtain ⟨b, hb, e1, e2, e3⟩ := hsame i a hi
    obtain ⟨k1, ⟨l, k2, k3⟩, k4⟩ := h3 i b hb
    rw [← e1, ← e2, ← e3]
    refine ⟨k1.keep (KeepT.set hcs (by decide) _ _), ⟨l, k2.keep (KeepT.set hcs (by decide) _ _), k3⟩, ?_⟩
    rcases hget i a hi with ⟨rfl, rfl⟩ | ⟨hne, hi⟩
    · simp
    · rw [hi] at hb
      obtain rfl : a = b := Option.some.inj hb
      simp [hne, k4]
  · obtain ⟨a', ha, _, _, ea⟩ := hsame i a hi
    obtain ⟨b', hb, _, _, eb⟩ := hsame j b hj
    rw [← ea, ← eb]
    exact h4 i j a' b' ha hb hij
/-- A text is put behind an element's texts. -/
theorem OwnE.say {N B g cap : Nat} {w w1 : World} {els : List Nd} {fl : Nat → Bool} (h : OwnE N B w (.slice (some ⟨g, 0, none⟩) els.length cap) els fl) {p : Nat} {x : Nd} (hx : els[p]? = some x) {tv tv' : Value} {l : List (List UInt8)} {s : List UInt8}
    (htv : w.cell? ⟨g, p * 8 + 6, none⟩ = some tv) (hl : l.flatten = x.2.2.2.2.2) (hll : l.length ≤ N) (hown : OwnT B w1 tv' (l ++ [s])) (hg : w.grownBy w1 tv.ownBlock) (hlies : tv'.ownBlock = tv.ownBlock ∨ tv'.ownBlock = some w.heap.size) :
    OwnE (N + 1) B (w1.setCell ⟨g, p * 8 + 6, none⟩ tv') (.slice (some ⟨g, 0, none⟩) els.length cap) (els.modify p (addText s)) fl := by
  obtain ⟨ks, rfl, h2, h3, h4⟩ := h
  rw [List.getElem?_map] at hx
  obtain ⟨k, hk, rfl⟩ := Option.map_eq_some_iff.1 hx
  have hp := (List.getElem?_eq_some_iff.1 hk).1
  rw [List.length_map] at h2 ⊢
  obtain ⟨cs, hcs⟩ := row_block h2 g rfl
  obtain ⟨k1, ⟨l0, k2, _⟩, k4⟩ := h3 p k hk
  have htk : tv = k.2.2.1 := by
    have := es_get hk (show 6 < 8 by omega)
    rw [h2.cellAt _ (by omega), this] at htv
    exact (Option.some.inj htv).symm
  subst htk
  have hrow : ∀ g', k.2.2.1.ownBlock = some g' → ∃ cs, Bk w g' 9 cs := row_block k2
  have hE : KeepT 75 w w1 := KeepT.grown hg hrow (by decide)
  have hA : KeepA w w1 := KeepT.grown hg hrow (by decide)
  have hcs1 := hE g cs hcs
  have hst := ((row_keep h2 hE).stored (p * 8 + 6) tv').1
  rw [← es_set (k' := (addText s k.1, k.2.1, tv', k.2.2.2)) hk (by omega) (by rfl)] at hst
  have hget : ∀ (i : Nat) (a : El), (ks.set p (addText s k.1, k.2.1, tv', k.2.2.2))[i]? = some a → (i = p ∧ a = (addText s k.1, k.2.1, tv', k.2.2.2)) ∨ (i ≠ p ∧ ks[i]? = some a) := fun i a hi => by
    rw [List.getElem?_set] at hi
    split at hi
    · rename_i e
      subst e
      exact .inl ⟨rfl, (Option.some.inj hi).symm⟩
    · rename_i e
      exact .inr ⟨fun e2 => e e2.symm, hi⟩
  have hfar : ∀ i a, ks[i]? = some a → i ≠ p → ∀ gb, a.2.2.1.ownBlock = some gb → gb < w.heap.size ∧ k.2.2.1.ownBlock ≠ some gb ∧ tv'.ownBlock ≠ some gb := fun i a hi hip gb hgb => by
    obtain ⟨_, ⟨l2, m2, _⟩, _⟩ := h3 i a hi
    obtain ⟨_, hlt, _⟩ := m2.at hgb
    have h5 := h4 i p a k hi hk hip gb hgb
    refine ⟨hlt, h5, ?_⟩
    rcases hlies with e | e
    · rw [e]; exact h5
    · rw [e]
      intro e2
      injection e2 with e2
      omega
  refine ⟨ks.set p (addText s k.1, k.2.1, tv', k.2.2.2), ?_, by rw [List.length_set]; exact hst, fun i a hi => ?_, fun i j a b hi hj hij => ?_⟩
  · apply List.ext_getElem?
    intro i
    rw [List.getElem?_map, List.getElem?_set, List.getElem?_modify, List.getElem?_map]
    split
    · rename_i e
      subst e
      rw [hk]
      rfl
    · cases ks[i]? with
      | none => rfl
      | some b => rfl
  · rcases hget i a hi with ⟨rfl, rfl⟩ | ⟨hne, hi⟩
    · refine ⟨(k1.keep hA).keep (KeepT.set hcs1 (by decide) _ _), ⟨l ++ [s], hown.keep (KeepT.set hcs1 (by decide) _ _), ?_, ?_⟩, k4⟩
      · rw [List.flatten_append, hl]
        simp [addText]
      · rw [List.length_append, List.length_singleton]; omega
    · obtain ⟨m1, ⟨l2, m2, m3, m5⟩, m4⟩ := h3 i a hi
      refine ⟨(m1.keep hA).keep (KeepT.set hcs1 (by decide) _ _), ⟨l2, ?_, m3, Nat.le_succ_of_le m5⟩, m4⟩
      refine (m2.of (w' := w1) fun gb hgb => ?_).keep (KeepT.set hcs1 (by decide) _ _)
      obtain ⟨f1, f2, f3⟩ := hfar i a hi hne gb hgb
      exact hg.block gb f1 (fun e => f2 e.symm)
  · intro gb hgb
    rcases hget i a hi with ⟨e1, e2⟩ | ⟨hne, hi2⟩ <;> rcases hget j b hj with ⟨e3, e4⟩ | ⟨hne', hj2⟩
    · exact absurd (e1.trans e3.symm) hij
    · intro e
      obtain ⟨f1, f2, f3⟩ := hfar j b hj2 hne' gb e
      rw [e2] at hgb
      exact f3 hgb
    · rw [e4]
      exact (hfar i a hi2 hne gb hgb).2.2
    · exact h4 i j a b hi2 hj2 hij gb hgb
/-- An append of one element, in a region that draws its order. -/
theorem OwnE.pushed {N B : Nat} {w w1 : World} {v' : Value} {els : List Nd} {fl : Nat → Bool} {ks : List El} (x : Nd) (av : Value) (hks : ks.map (·.1) = els)
    (h3 : ∀ i k, ks[i]? = some k → RowA w k.2.1 k.1.2.2.2.2.1 ∧ (∃ l, OwnT B w k.2.2.1 l ∧ l.flatten = k.1.2.2.2.2.2 ∧ l.length ≤ N) ∧ k.2.2.2 = fl i) (h4 : Apart ks) (hu : RowA w av x.2.2.2.2.1) (hx : x.2.2.2.2.2 = [])
    (hown : w1.ownsRow B 75 8 v' (ks.length + 1) (es ks ++ encE (x, av, .slice none 0 0, false))) (hA : KeepA w w1) (hS : KeepT 9 w w1) : OwnE N B w1 v' (els ++ [x]) (fun i => if i < els.length then fl i else false) := by
  subst hks
  refine ⟨ks ++ [(x, av, .slice none 0 0, false)], by simp, ?_, fun i k hk => ?_, fun i j a b hi hj hij => ?_⟩
  · rw [es_append, es_one, List.length_append, List.length_singleton]
    exact hown
  · rw [List.length_map]
    by_cases hi : i < ks.length
    · rw [List.getElem?_append_left hi] at hk
      obtain ⟨k1, ⟨l, k2, k3⟩, k4⟩ := h3 i k hk
      exact ⟨k1.keep hA, ⟨l, k2.keep hS, k3⟩, by simp only [if_pos hi]; exact k4⟩
    · rw [List.getElem?_append_right (by omega)] at hk
      obtain ⟨m, hm⟩ : ∃ m, i - ks.length = m := ⟨_, rfl⟩
      rw [hm] at hk
      cases m with
      | zero =>
        obtain rfl : _ = k := by simpa using hk
        exact ⟨hu.keep hA, ⟨[], OwnT.nil _ _, by simp [hx], by simp⟩, by simp only [if_neg hi]⟩
      | succ m => simp at hk
  · intro gb hgb
    by_cases hi2 : i < ks.length
    · rw [List.getElem?_append_left hi2] at hi
      by_cases hj2 : j < ks.length
      · rw [List.getElem?_append_left hj2] at hj
        exact h4 i j a b hi hj hij gb hgb
      · rw [List.getElem?_append_right (by omega)] at hj
        obtain ⟨m, hm⟩ : ∃ m, j - ks.length = m := ⟨_, rfl⟩
        rw [hm] at hj
        cases m with
        | zero =>
          obtain rfl : _ = b := by simpa using hj
          intro e
          cases e
        | succ m => simp at hj
    · rw [List.getElem?_append_right (by omega)] at hi
      obtain ⟨m, hm⟩ : ∃ m, i - ks.length = m := ⟨_, rfl⟩
      rw [hm] at hi
      cases m with
      | zero =>
        obtain rfl : _ = a := by simpa using hi
        cases hgb
      | succ m => simp at hi
theorem step_elm {ops : Array Oper} {o : Oper} {a : Act} {K : Act → World → Prop} {Q : Exit → Act → World → Prop} {E : Prop} (hgd : o.guard = none) (s y : Operand) (ho : o.op = .call { callee := .builtin .append, args := #[s, y], argTypes := #[67, 67] })
    (N B : Nat) (v : Value) (els : List Nd) (fl : Nat → Bool) (x : Nd) (av : Value) (w0 W : World) (H : Nat) (hH : w0.heap.size = H) (hW : Below w0.heap.size w0 W) (hWb : Bk W H 75 #[.int .i64 x.1, .int .i64 x.2.1, .string (bts x.2.2.1), .string (bts x.2.2.2.1), av, .string ⟨#[]⟩, .slice none 0 0, .bool false])
    (hs : a.eval s = v) (hown : OwnE N B w0 v els fl) (hu : RowA w0 av x.2.2.2.2.1) (hx : x.2.2.2.2.2 = []) (hy : a.eval y = .slice (some ⟨H, 0, none⟩) 1 1) (hn : els.length ≤ 1000000000) (hB : B ≤ w0.heap.size)
    (h : ∀ v' w', OwnE N B w' v' (els ++ [x]) (fun i => if i < els.length then fl i else false) → Below B w0 w' → (∀ k cs t, Bk w0 k t cs → t ≠ 75 → Bk w' k t cs) → K (a.put o.dst v') w') : if Region.wanted o (yielded ops a.tmps) = true then Oper.wp Tryz.prog o a W K Q else E := by
  have hw : Region.wanted o (yielded ops a.tmps) = true := by simp [Region.wanted, hgd]
  rw [if_pos hw]
  obtain ⟨i0, hi, hz0, hz1, hz2⟩ := info_parts infoElm
  obtain ⟨ks, hks, hown', hr, hap⟩ := hown
  have hl : els.length = ks.length := by rw [← hks, List.length_map]
  have hownW : W.ownsRow B 75 8 v ks.length (es ks) := row_keep hown' (.below hW)
  refine wp_append_own _ s y 67 ho B 75 i0 _ 8 120 Tryz.underlying67 hi hz0 hz1 hz2 rfl (by decide) v ks.length (es ks) hs hownW ⟨H, 0, none⟩ 1 1 (encE (x, av, .slice none 0 0, false)) hy rfl ?_ ?_ ?_ (by omega) (by have := hW.size; omega) ?_
  · intro j u hj
    rw [add_at, hWb.cell, Nat.zero_add]
    simpa [encE] using hj
  · intro u hy
    simp [encE] at hy
    rcases hy with rfl | rfl | rfl | rfl | rfl | rfl | rfl | rfl
    · rfl
    · rfl
    · rfl
    · rfl
    · exact hu.one
    · rfl
    · rfl
    · rfl
  · unfold maxLen; omega
  · intro v' w' hown2 hg _
    have hrow : ∀ g, v.ownBlock = some g → ∃ cs, Bk W g 75 cs := row_block hownW
    have hK : ∀ t, 75 ≠ t → KeepT t w0 w' := fun t ht => (KeepT.below hW).trans (KeepT.grown hg hrow ht)
    refine h v' w' (OwnE.pushed x av hks hr hap hu hx hown2 (hK _ (by decide)) (hK _ (by decide))) ?_ (fun k cs t hk ht => hK t (fun e => ht e.symm) k cs hk)
    exact (hW.mono hB).grown hg (by have := hW.size; omega) (fun j hj => (World.ownsRow.lt hown' j hj).1)
end Go.Proofs.YtbkfmbkamocllaaGreatDoor
/-
  AN APPEND OF ONE NUMBER to a slice that the call has made.
-/
namespace Go.Proofs.YtbkfmbkamocllaaGreatDoor
open Go.RowKit Tk Tr

theorem Owned.slice {B : Nat} {w : World} {v : Value} {x : List Nat} (h : Owned B w v x) : ∃ A cap, v = .slice A x.length cap := by
  rcases h.2 with ⟨rfl, h0⟩ | ⟨g, cap, cur, rfl, _⟩
  · exact ⟨none, 0, by rw [h0]⟩
  · exact ⟨_, _, rfl⟩
theorem infoInt2 : (Tryz.prog.info? 3).map (fun i => (i.zero, i.size, i.bytes)) = some (some (.int .i64 0), 1, 8) := by kernel_rfl
/-- An append of one number. -/
theorem push_int {ops : Array Oper} {rest : List Oper} {o : Oper} {a : Act} {Q : Exit → Act → World → Prop} (hgd : o.guard = none) (s x : Operand) (ho : o.op = .call { callee := .builtin .append, args := #[s, x], argTypes := #[53, 53] })
    (B : Nat) (v : Value) (l : List Nat) (c : Nat) (z : Int) (hz : z = (c : Int)) (w0 : World) (hs : a.eval s = v) (hown : Owned B w0 v l) (hx : a.eval x = .slice (some ⟨w0.heap.size, 0, none⟩) 1 1) (hl : l.length ≤ 2000000000) (hB : B ≤ w0.heap.size)
    (h : ∀ v' w', Owned B w' v' (l ++ [c]) → Below B w0 w' → (∀ k cs t, Bk w0 k t cs → t ≠ 3 → Bk w' k t cs) → wpList Tryz.prog ops Q rest (a.put o.dst v') w') : wpList Tryz.prog ops Q (o :: rest) a (w0.alloc (.cells #[.int .i64 z] 3)) := by
  subst hz
  obtain ⟨i0, hi, hz0, hz1, hz2⟩ := info_parts infoInt
  have hown' : w0.ownsRow B 3 1 v l.length (ints l) := hown
  refine wpList_append_own _ hgd s x 53 ho B 3 i0 _ 1 8 Tryz.underlying53 hi hz0 hz1 hz2 rfl (by decide) v l.length (ints l) hs (hown'.alloc _) ⟨w0.heap.size, 0, none⟩ 1 1 [.int .i64 (c : Nat)] hx rfl ?_ ?_ ?_ (by omega) (by simp; omega) ?_
  · intro j u hj
    rw [add_at, cell_of_row _ _ _ #[_] _ (0, 0) (heap_alloc_new w0 _), Nat.zero_add]
    simpa using hj
  · intro u hu
    simp at hu
    subst hu
    rfl
  · unfold maxLen; omega
  · intro v' w' hown2 hg _
    refine h v' w' ?_ (((Below.refl B w0).alloc hB _).grown hg (by simp; omega) (fun j hj => (World.ownsRow.lt hown' j hj).1)) (fun k cs t hk ht => ?_)
    · unfold Owned
      rw [ints_snoc, List.length_append]
      exact hown2
    · refine (hg.block k (by simp; have := hk.lt; omega) (fun e => ?_)).trans (hk.alloc _)
      obtain ⟨ds, hd⟩ := row_block hown' k e.symm
      exact Bk.type_ne hk hd ht rfl
end Go.Proofs.YtbkfmbkamocllaaGreatDoor
