/-
  MEMORY OF A WALK: a text and the place in it; rows of attributes, rows of tokens.
-/
import Derived.Test.YtbkfmbkamocllaaDoorRows
import Derived.Test.YtbkfmbkamocllaaDoorMem
import Derived.Test.YtbkfmbkamocllaaDoorTok
import Derived.WalkKit
import Derived.WalkSpells
import Derived.WalkLawsBesides
import Derived.Laws.AppendOwn
import Derived.Deep.RegionLaw
import Derived.Lib.Hide
namespace Go.Proofs.YtbkfmbkamocllaaDoor
open Go.RowKit Tk

/-- But block T nothing turns below B. -/
structure Tn (T B : Nat) (w w' : World) : Prop where
  os : w'.os = w.os
  tape : w'.tape = w.tape
  output : w'.output = w.output
  size : w.heap.size ≤ w'.heap.size
  block : ∀ k, k < B → k ≠ T → w'.heap[k]? = w.heap[k]?
theorem Tn.refl (T B : Nat) (w : World) : Tn T B w w := ⟨rfl, rfl, rfl, Nat.le_refl _, fun _ _ _ => rfl⟩
theorem Tn.trans {T B : Nat} {a b c : World} (h : Tn T B a b) (k : Tn T B b c) : Tn T B a c :=
  ⟨k.os.trans h.os, k.tape.trans h.tape, k.output.trans h.output, Nat.le_trans h.size k.size, fun i hi hn => (k.block i hi hn).trans (h.block i hi hn)⟩
theorem Tn.mono {T B B' : Nat} {w w' : World} (h : Tn T B w w') (hB : B' ≤ B) : Tn T B' w w' := ⟨h.os, h.tape, h.output, h.size, fun k hk hn => h.block k (Nat.lt_of_lt_of_le hk hB) hn⟩
theorem Tn.then {T B : Nat} {a b c : World} (h : Tn T B a b) (k : Tn T b.heap.size b c) (hB : B ≤ b.heap.size) : Tn T B a c := h.trans (k.mono hB)
theorem Tn.of {T B : Nat} {w w' : World} (h : Below B w w') : Tn T B w w' := ⟨h.os, h.tape, h.output, h.size, fun k hk _ => h.block k hk⟩
theorem Tn.below {T B : Nat} {w w' : World} (h : Tn T B w w') (hB : B ≤ T) : Below B w w' := ⟨h.os, h.tape, h.output, h.size, fun k hk => h.block k hk (by omega)⟩
theorem Tn.drew {T B : Nat} {a w : World} (h : Tn T B a w) : Tn T B a w.drew := ⟨h.os, h.tape, h.output, h.size, h.block⟩
theorem Tn.drewN {T B : Nat} {a w : World} (h : Tn T B a w) (n : Nat) : Tn T B a (w.drewN n) := ⟨h.os, h.tape, h.output, h.size, h.block⟩
theorem Tn.alloc {T B : Nat} {a w : World} (h : Tn T B a w) (hB : B ≤ w.heap.size) (o : Obj) : Tn T B a (w.alloc o) := h.trans (.of ((Below.refl B w).alloc hB o))
theorem Tn.set {T B : Nat} {a w : World} (h : Tn T B a w) (i : Nat) (u : Value) : Tn T B a (w.setCell ⟨T, i, none⟩ u) :=
  h.trans ⟨rfl, rfl, rfl, by simp [World.setCell], fun k _ hn => Below.heap_setCell _ _ _ _ (fun e => hn (by simpa using e))⟩
theorem Tn.setHigh {T B : Nat} {a w : World} (h : Tn T B a w) {p : Addr} (hp : B ≤ p.block) (u : Value) : Tn T B a (w.setCell p u) := h.trans (.of ((Below.refl B w).setCell hp u))
theorem Tn.bk {T B g : Nat} {w w' : World} {t : TypeId} {cs : Array Value} (h : Tn T B w w') (hk : Bk w g t cs) (hg : g < B) (hn : g ≠ T) : Bk w' g t cs := (h.block g hg hn).trans hk
theorem Tn.cell {T B : Nat} {w w' : World} (h : Tn T B w w') {p : Addr} (hp : p.block < B) (hn : p.block ≠ T) : w'.cell? p = w.cell? p := World.cell?_of_block (w := w) (h.block p.block hp hn)
theorem Bk.type_ne {w : World} {g T : Nat} {t u : TypeId} {cs ds : Array Value} (h : Bk w g t cs) (k : Bk w T u ds) (hn : t ≠ u) : g ≠ T := fun e => by
  subst e
  have e1 : w.heap[g]? = some (.cells cs t (0, 0)) := h
  have e2 : w.heap[g]? = some (.cells ds u (0, 0)) := k
  rw [e1] at e2
  injection e2 with e2
  injection e2 with _ e2
  exact hn e2

/-- The text s, of which r is left. -/
def TX (ty : TypeId) (w : World) (T : Nat) (s : ByteArray) (r : List UInt8) : Prop := ∃ k : Nat, k ≤ s.size ∧ r = s.data.toList.drop k ∧ Bk w T ty #[.string s, .int .i64 k]
theorem TX.lt {ty : TypeId} {w : World} {T : Nat} {s : ByteArray} {r : List UInt8} (h : TX ty w T s r) : T < w.heap.size := by
  obtain ⟨k, _, _, h⟩ := h
  exact h.lt
theorem TX.below {ty : TypeId} {w w' : World} {T B : Nat} {s : ByteArray} {r : List UInt8} (h : TX ty w T s r) (hb : Below B w w') (hT : T < B) : TX ty w' T s r := by
  obtain ⟨k, h1, h2, h⟩ := h
  exact ⟨k, h1, h2, h.below hb hT⟩
theorem TX.len {ty : TypeId} {w : World} {T : Nat} {s : ByteArray} {r : List UInt8} (h : TX ty w T s r) : r.length ≤ s.size := by
  obtain ⟨k, h1, h2, _⟩ := h
  rw [h2, List.length_drop, Lib.size_eq]
  omega
theorem TX.at {ty : TypeId} {w : World} {T : Nat} {s : ByteArray} {r : List UInt8} (h : TX ty w T s r) : ∃ k : Nat, k ≤ s.size ∧ r = s.data.toList.drop k ∧ Bk w T ty #[.string s, .int .i64 k] ∧ s.size - r.length = k := by
  obtain ⟨k, h1, h2, h3⟩ := h
  refine ⟨k, h1, h2, h3, ?_⟩
  rw [h2, List.length_drop, Lib.size_eq]
  have := Lib.size_eq s
  omega
/-- to the place k again -/
theorem TX.back {ty : TypeId} {w : World} {T : Nat} {s : ByteArray} {r : List UInt8} (h : TX ty w T s r) {k : Nat} (hk : k ≤ s.size) : TX ty (w.setCell ⟨T, 1, none⟩ (.int .i64 k)) T s (s.data.toList.drop k) := by
  obtain ⟨j, _, _, h⟩ := h
  refine ⟨k, hk, rfl, ?_⟩
  have := Bk.put h 1 (.int .i64 k)
  simpa using this
/-- where a table lies is no text's block -/
def Base (T : Nat) (P : World → Prop) (w : World) : Prop := ∃ w0, P w0 ∧ w0.heap.size ≤ T ∧ Below w0.heap.size w0 w
theorem Base.tn {T B : Nat} {P : World → Prop} {w w' : World} (h : Base T P w) (k : Tn T B w w') (hB : T ≤ B) : Base T P w' := by
  obtain ⟨w0, h1, h2, h3⟩ := h
  exact ⟨w0, h1, h2, h3.trans (Tn.below (k.mono (Nat.le_trans h2 hB)) h2)⟩
theorem Base.below {T B : Nat} {P : World → Prop} {w w' : World} (h : Base T P w) (k : Below B w w') (hB : T ≤ B) : Base T P w' := h.tn (Tn.of k) hB

/-! ### attributes -/
abbrev bts (l : List UInt8) : ByteArray := ⟨l.toArray⟩
theorem infoAtt : (Tryd.prog.info? 29).map (fun i => (i.zero, i.size, i.bytes)) = some (some (.agg #[.string ⟨#[]⟩, .string ⟨#[]⟩]), 2, 32) := by kernel_rfl
def encA (a : Att) : List Value := [.string (bts a.1), .string (bts a.2)]
abbrev agA (a : Att) : Value := .agg #[.string (bts a.1), .string (bts a.2)]
def ats (l : List Att) : List Value := l.flatMap encA
theorem ats_nil : ats [] = [] := rfl
theorem ats_append (a b : List Att) : ats (a ++ b) = ats a ++ ats b := by simp [ats]
theorem ats_one (r : Att) : ats [r] = [.string (bts r.1), .string (bts r.2)] := by simp [ats, encA]
theorem ats_cons (r : Att) (l : List Att) : ats (r :: l) = .string (bts r.1) :: .string (bts r.2) :: ats l := by simp [ats, encA]
theorem ats_length : ∀ (l : List Att), (ats l).length = l.length * 2
  | [] => rfl
  | r :: l => by rw [ats_cons, List.length_cons, List.length_cons, ats_length l, List.length_cons]; omega
theorem ats_get : ∀ {l : List Att} {j : Nat} {r : Att}, l[j]? = some r → (ats l)[j * 2]? = some (.string (bts r.1)) ∧ (ats l)[j * 2 + 1]? = some (.string (bts r.2))
  | [], j, r, h => by simp at h
  | a :: l, 0, r, h => by
    obtain rfl : a = r := by simpa using h
    rw [ats_cons]
    exact ⟨rfl, rfl⟩
  | a :: l, j + 1, r, h => by
    have := ats_get (l := l) (j := j) (r := r) (by simpa using h)
    rw [ats_cons, show (j + 1) * 2 = j * 2 + 1 + 1 by omega]
    simpa using this
theorem ats_cells (l : List Att) : ∀ u ∈ ats l, u.oneCell' = true := by
  intro u hu
  obtain ⟨r, _, hr⟩ := List.mem_flatMap.1 hu
  simp [encA] at hr
  rcases hr with rfl | rfl <;> rfl
attribute [irreducible] ats
theorem add_at (g o i : Nat) : (⟨g, o, none⟩ : Addr).add i = ⟨g, o + i, none⟩ := by unfold Addr.add; split <;> simp_all
theorem addBlock (a : Addr) (i : Nat) : (a.add i).block = a.block := by unfold Addr.add; split <;> rfl

/-- The slice v, made by the call (above block B), holds just these attributes. -/
def OwnA (B : Nat) (w : World) (v : Value) (l : List Att) : Prop := w.ownsRow B 29 2 v l.length (ats l)
theorem OwnA.nil (B : Nat) (w : World) : OwnA B w (.slice none 0 0) [] := by
  unfold OwnA
  rw [ats_nil]
  exact World.ownsRow_nil _ _ _ _
theorem OwnA.tn {B T : Nat} {w w' : World} {v : Value} {l : List Att} (h : OwnA B w v l) (hb : Tn T w.heap.size w w') (hT : T < B) : OwnA B w' v l := by
  have h' : w.ownsRow B 29 2 v l.length (ats l) := h
  rcases h'.2 with ⟨rfl, h0⟩ | ⟨g, cap, cur, rfl, hg, hh, h1, h2, h3, h4⟩
  · exact ⟨h'.1, .inl ⟨rfl, h0⟩⟩
  · exact ⟨h'.1, .inr ⟨g, cap, cur, rfl, hg, (hb.block g (lt_of_block hh) (by omega)).trans hh, h1, h2, h3, h4⟩⟩
theorem OwnA.below {B : Nat} {w w' : World} {v : Value} {l : List Att} (h : OwnA B w v l) (hb : Below w.heap.size w w') : OwnA B w' v l := by
  have h' : w.ownsRow B 29 2 v l.length (ats l) := h
  rcases h'.2 with ⟨rfl, h0⟩ | ⟨g, cap, cur, rfl, hg, hh, h1, h2, h3, h4⟩
  · exact ⟨h'.1, .inl ⟨rfl, h0⟩⟩
  · exact ⟨h'.1, .inr ⟨g, cap, cur, rfl, hg, (hb.block g (lt_of_block hh)).trans hh, h1, h2, h3, h4⟩⟩
theorem OwnA.slice {B : Nat} {w : World} {v : Value} {l : List Att} (h : OwnA B w v l) : ∃ A cap, v = .slice A l.length cap := by
  rcases h.2 with ⟨rfl, h0⟩ | ⟨g, cap, cur, rfl, _⟩
  · exact ⟨none, 0, by rw [h0]⟩
  · exact ⟨_, _, rfl⟩
theorem OwnA.weak {B B' : Nat} {w : World} {v : Value} {l : List Att} (h : OwnA B w v l) (hB : B' ≤ B) : OwnA B' w v l :=
  ⟨h.1, h.2.imp id fun ⟨g, cap, cur, h1, h2, h3⟩ => ⟨g, cap, cur, h1, Nat.le_trans hB h2, h3⟩⟩
/-- a store into a block that holds no attributes -/
theorem OwnA.stored {B g : Nat} {w : World} {v : Value} {l : List Att} {cs : Array Value} {t : TypeId} (h : OwnA B w v l) (hb : Bk w g t cs) (ht : t ≠ 29) (o : Nat) (x : Value) : OwnA B (w.setCell ⟨g, o, none⟩ x) v l := by
  have h' : w.ownsRow B 29 2 v l.length (ats l) := h
  rcases h'.2 with ⟨rfl, h0⟩ | ⟨g', cap, cur, rfl, hg, hh, h1, h2, h3, h4⟩
  · exact ⟨h'.1, .inl ⟨rfl, h0⟩⟩
  · have hne : g' ≠ g := Bk.type_ne (show Bk w g' _ _ from hh) hb (fun e => ht e.symm)
    exact ⟨h'.1, .inr ⟨g', cap, cur, rfl, hg, (Below.heap_setCell _ _ _ _ hne).trans hh, h1, h2, h3, h4⟩⟩
/-- u holds these attributes, in a block of attributes of its own. -/
def RowA (w : World) (u : Value) (l : List Att) : Prop := ∃ A cap, u = .slice A l.length cap ∧ (0 < l.length → ∃ g cs, A = some ⟨g, 0, none⟩ ∧ Bk w g 29 cs ∧ cs.toList.take (l.length * 2) = ats l) ∧ l.length ≤ cap ∧ cap ≤ maxLen ∧ (A = none → cap = 0)
theorem OwnA.row {B : Nat} {w : World} {v : Value} {l : List Att} (h : OwnA B w v l) : RowA w v l := by
  have h' : w.ownsRow B 29 2 v l.length (ats l) := h
  rcases h'.2 with ⟨rfl, h0⟩ | ⟨g, cap, cur, rfl, hg, hh, h1, h2, h3, h4⟩
  · exact ⟨none, 0, by rw [h0], fun h => by omega, by omega, Nat.zero_le _, fun _ => rfl⟩
  · exact ⟨_, cap, rfl, fun _ => ⟨g, cur, rfl, hh, h4⟩, h1, h2, fun e => by cases e⟩
/-- All blocks of attributes stay. -/
def KeepA (w w' : World) : Prop := ∀ k cs, Bk w k 29 cs → Bk w' k 29 cs
theorem KeepA.trans {a b c : World} (h : KeepA a b) (k : KeepA b c) : KeepA a c := fun g cs hg => k g cs (h g cs hg)
theorem KeepA.below {w w' : World} (h : Below w.heap.size w w') : KeepA w w' := fun _ _ hg => (h.block _ hg.lt).trans hg
theorem KeepA.set {w : World} {g : Nat} {t : TypeId} {cs : Array Value} (h : Bk w g t cs) (ht : t ≠ 29) (o : Nat) (x : Value) : KeepA w (w.setCell ⟨g, o, none⟩ x) := fun _ _ hk =>
  (Below.heap_setCell _ _ _ _ (Bk.type_ne hk h (fun e => ht e.symm))).trans hk
theorem KeepA.tn {T : Nat} {w w' : World} {t : TypeId} {cs : Array Value} (h : Tn T w.heap.size w w') (hT : Bk w T t cs) (ht : t ≠ 29) : KeepA w w' := fun _ _ hg =>
  (h.block _ hg.lt (Bk.type_ne hg hT (fun e => ht e.symm))).trans hg
theorem RowA.keep {w w' : World} {u : Value} {l : List Att} (h : RowA w u l) (hk : KeepA w w') : RowA w' u l := by
  obtain ⟨A, cap, rfl, h2, hcp⟩ := h
  refine ⟨A, cap, rfl, fun h0 => ?_, hcp⟩
  obtain ⟨g, cs, rfl, h3, h4⟩ := h2 h0
  exact ⟨g, cs, rfl, hk g cs h3, h4⟩
theorem RowA.cells {w : World} {u : Value} {l : List Att} (h : RowA w u l) : ∃ A cap, u = .slice A l.length cap ∧ (0 < l.length → ∃ g, A = some ⟨g, 0, none⟩ ∧ g < w.heap.size ∧ ∀ i a, l[i]? = some a → w.cell? ⟨g, i * 2, none⟩ = some (.string (bts a.1)) ∧ w.cell? ⟨g, i * 2 + 1, none⟩ = some (.string (bts a.2))) := by
  obtain ⟨A, cap, rfl, h2, -⟩ := h
  refine ⟨A, cap, rfl, fun h0 => ?_⟩
  obtain ⟨g, cs, rfl, h3, h4⟩ := h2 h0
  refine ⟨g, rfl, h3.lt, fun i a hi => ?_⟩
  have hi2 := (List.getElem?_eq_some_iff.1 hi).1
  have h5 := ats_get hi
  rw [h3.cell, h3.cell, ← Array.getElem?_toList, ← Array.getElem?_toList]
  rw [← h4, List.getElem?_take_of_lt (by omega), List.getElem?_take_of_lt (by omega)] at h5
  exact h5

/-! ### tokens -/
abbrev TokA := Nat × Tok
def encK (k : TokA × Value) : List Value := [.int .i64 k.1.2.1, .int .i64 k.1.1, .string (bts k.1.2.2.1), .string (bts k.1.2.2.2.1), k.2, .bool k.1.2.2.2.2.2]
abbrev agK (k : TokA × Value) : Value := .agg #[.int .i64 k.1.2.1, .int .i64 k.1.1, .string (bts k.1.2.2.1), .string (bts k.1.2.2.2.1), k.2, .bool k.1.2.2.2.2.2]
def kts (l : List (TokA × Value)) : List Value := l.flatMap encK
theorem kts_nil : kts [] = [] := rfl
theorem kts_append (a b : List (TokA × Value)) : kts (a ++ b) = kts a ++ kts b := by simp [kts]
theorem kts_one (k : TokA × Value) : kts [k] = encK k := by simp [kts]
theorem kts_cons (k : TokA × Value) (l : List (TokA × Value)) : kts (k :: l) = encK k ++ kts l := by simp [kts]
theorem kts_length : ∀ (l : List (TokA × Value)), (kts l).length = l.length * 6
  | [] => rfl
  | r :: l => by rw [kts_cons, List.length_append, kts_length l, List.length_cons]; simp [encK]; omega
theorem kts_get : ∀ {l : List (TokA × Value)} {j i : Nat} {k : TokA × Value}, l[j]? = some k → i < 6 → (kts l)[j * 6 + i]? = (encK k)[i]?
  | [], j, i, r, h, _ => by simp at h
  | a :: l, 0, i, r, h, hi => by
    obtain rfl : a = r := by simpa using h
    rw [kts_cons, Nat.zero_mul, Nat.zero_add, List.getElem?_append_left (by simp [encK]; omega)]
  | a :: l, j + 1, i, r, h, hi => by
    have := kts_get (l := l) (j := j) (i := i) (k := r) (by simpa using h) hi
    rw [kts_cons, List.getElem?_append_right (by simp [encK]; omega), ← this]
    congr 1
    simp [encK]
    omega
theorem kts_cells {l : List (TokA × Value)} (hl : ∀ k ∈ l, k.2.oneCell' = true) : ∀ u ∈ kts l, u.oneCell' = true := by
  intro u hu
  obtain ⟨r, hm, hr⟩ := List.mem_flatMap.1 hu
  simp [encK] at hr
  rcases hr with rfl | rfl | rfl | rfl | rfl | rfl
  · rfl
  · rfl
  · rfl
  · rfl
  · exact hl _ hm
  · rfl
attribute [irreducible] kts
theorem RowA.one {w : World} {u : Value} {l : List Att} (h : RowA w u l) : u.oneCell' = true := by
  obtain ⟨A, cap, rfl, _⟩ := h
  rfl
/-- Six cells of a token. -/
def AtK (w : World) (g o : Nat) (t : TokA) (u : Value) : Prop := w.cell? ⟨g, o, none⟩ = some (.int .i64 t.2.1) ∧ w.cell? ⟨g, o + 1, none⟩ = some (.int .i64 t.1) ∧ w.cell? ⟨g, o + 2, none⟩ = some (.string (bts t.2.2.1)) ∧
  w.cell? ⟨g, o + 3, none⟩ = some (.string (bts t.2.2.2.1)) ∧ w.cell? ⟨g, o + 4, none⟩ = some u ∧ w.cell? ⟨g, o + 5, none⟩ = some (.bool t.2.2.2.2.2)
/-- A slice of tokens that can be read. -/
def ReadK (w : World) (v : Value) (ts : List TokA) : Prop := ∃ A cap, v = .slice A ts.length cap ∧ ts.length ≤ cap ∧ cap ≤ maxLen ∧ (0 < ts.length → ∃ g o, A = some ⟨g, o, none⟩ ∧ g < w.heap.size ∧ ∀ i t, ts[i]? = some t → ∃ u, AtK w g (o + i * 6) t u ∧ RowA w u t.2.2.2.2.1)
theorem ReadK.below {w w' : World} {v : Value} {ts : List TokA} (h : ReadK w v ts) (hb : Below w.heap.size w w') : ReadK w' v ts := by
  obtain ⟨A, cap, rfl, h0, h00, h2⟩ := h
  refine ⟨A, cap, rfl, h0, h00, fun h => ?_⟩
  obtain ⟨g, o, rfl, hg, h3⟩ := h2 h
  refine ⟨g, o, rfl, Nat.lt_of_lt_of_le hg hb.size, fun i t hi => ?_⟩
  obtain ⟨u, h4, h5⟩ := h3 i t hi
  refine ⟨u, ?_, h5.keep (KeepA.below hb)⟩
  unfold AtK at h4 ⊢
  have hk : ∀ j, w'.cell? ⟨g, j, none⟩ = w.cell? ⟨g, j, none⟩ := fun j => hb.cell (p := ⟨g, j, none⟩) hg
  rw [hk, hk, hk, hk, hk, hk]
  exact h4
/-- An append of one attribute, in a region that draws its order. -/
theorem step_att {ops : Array Oper} {o : Oper} {a : Act} {K : Act → World → Prop} {Q : Exit → Act → World → Prop} {E : Prop} (hgd : o.guard = none) (s x : Operand) (ho : o.op = .call { callee := .builtin .append, args := #[s, x], argTypes := #[30, 30] })
    (B : Nat) (v : Value) (l : List Att) (p : Att) (w0 : World) (hs : a.eval s = v) (hown : OwnA B w0 v l) (hx : a.eval x = .slice (some ⟨w0.heap.size, 0, none⟩) 1 1) (hn : l.length ≤ 1000000000) (hB : B ≤ w0.heap.size)
    (h : ∀ v' w', OwnA B w' v' (l ++ [p]) → Below B w0 w' → (∀ k, k < w0.heap.size → some k ≠ v.ownBlock → w'.heap[k]? = w0.heap[k]?) → K (a.put o.dst v') w') : if Region.wanted o (yielded ops a.tmps) = true then Oper.wp Tryd.prog o a (w0.alloc (.cells #[.string (bts p.1), .string (bts p.2)] 29)) K Q else E := by
  have hw : Region.wanted o (yielded ops a.tmps) = true := by simp [Region.wanted, hgd]
  rw [if_pos hw]
  obtain ⟨i0, hi, hz0, hz1, hz2⟩ := info_parts infoAtt
  have hown' : w0.ownsRow B 29 2 v l.length (ats l) := hown
  refine wp_append_own _ s x 30 ho B 29 i0 _ 2 32 Tryd.underlying30 hi hz0 hz1 hz2 rfl (by decide) v l.length (ats l) hs (hown'.alloc _) ⟨w0.heap.size, 0, none⟩ 1 1 [.string (bts p.1), .string (bts p.2)] hx rfl ?_ ?_ ?_ (by omega) (by simp; omega) ?_
  · intro j y hj
    rw [add_at, cell_of_row _ _ _ #[_, _] _ (0, 0) (heap_alloc_new w0 _)]
    rw [Nat.zero_add]
    simpa using hj
  · intro y hy
    simp at hy
    rcases hy with rfl | rfl <;> rfl
  · unfold maxLen; omega
  · intro v' w' hown2 hg _
    refine h v' w' ?_ (((Below.refl B w0).alloc hB _).grown hg (by simp; omega) (fun j hj => (World.ownsRow.lt hown' j hj).1)) (fun k hk hne => ?_)
    · unfold OwnA
      rw [ats_append, ats_one, List.length_append, List.length_singleton]
      exact hown2
    · rw [hg.block k (by simp; omega) hne]
      exact Below.heap_alloc w0 _ k hk
end Go.Proofs.YtbkfmbkamocllaaDoor
