import Derived.Test.YtbgaglcgennhiaaGreatDoorN16
import Derived.Test.YtbgaglcgennhiaaGreatDoorN04
import Derived.Laws.OwnMore
section
/- what is reached of it -/
namespace Go.Proofs.YtbgaglcgennhiaaGreatDoor.Tx
open Go.Lib
/-- The rows with their ends: none where one has no end, or a part of one stands elsewhere; cur is what the open one has. -/
def rowsA : List UInt8 → List UInt8 → Option (List (List UInt8))
  | cur, [] => if cur = [] then some [] else none
  | cur, c :: t => if c = 10 then none else if c = 13 then (match t with
    | [] => none
    | d :: u => if d = 10 then (rowsA [] u).map (cur :: ·) else none) else rowsA (cur ++ [c]) t
theorem rowsA_nil (cur : List UInt8) : rowsA cur [] = if cur = [] then some [] else none := rfl
theorem rowsA_13 (cur : List UInt8) : rowsA cur [13] = none := by unfold rowsA; rw [if_neg (by decide), if_pos rfl]
theorem rowsA_end (cur u : List UInt8) : rowsA cur (13 :: 10 :: u) = (rowsA [] u).map (cur :: ·) := by
  conv => lhs; unfold rowsA
  rw [if_neg (by decide), if_pos rfl]
  simp only [if_true]
theorem rowsA_on (cur : List UInt8) {c : UInt8} (t : List UInt8) (h1 : c ≠ 10) (h2 : c ≠ 13) : rowsA cur (c :: t) = rowsA (cur ++ [c]) t := by
  conv => lhs; unfold rowsA
  rw [if_neg h1, if_neg h2]
/-- a row without a part of an end -/
def clean (r : List UInt8) : Prop := ∀ c ∈ r, c ≠ 10 ∧ c ≠ 13
theorem rowsA_run : ∀ (p t cur : List UInt8), clean p → rowsA cur (p ++ t) = rowsA (cur ++ p) t
  | [], t, cur, _ => by simp
  | c :: p, t, cur, h => by
    rw [List.cons_append, rowsA_on cur _ (h c (by simp)).1 (h c (by simp)).2, rowsA_run p t _ (fun d hd => h d (by simp [hd]))]
    simp
theorem rowsA_ends : ∀ rs : List (List UInt8), (∀ r ∈ rs, clean r) → rowsA [] (ends rs) = some rs
  | [], _ => rfl
  | r :: rs, h => by
    rw [ends_cons, rowsA_run r _ [] (h r (by simp)), rowsA_end, rowsA_ends rs (fun x hx => h x (by simp [hx]))]
    rfl
/-- Does the row go on with the line ahead? -/
def cont : List UInt8 → Bool
  | [] => false
  | c :: _ => c == 32 || c == 9
/-- the last one of them with more behind it -/
def addLast (acc : List (List UInt8)) (x : List UInt8) : List (List UInt8) := acc.dropLast ++ [acc.getLastD [] ++ x]
theorem addLast_snoc (a : List (List UInt8)) (y x : List UInt8) : addLast (a ++ [y]) x = a ++ [y ++ x] := by simp [addLast]
theorem addLast_len {acc : List (List UInt8)} (h : acc ≠ []) (x : List UInt8) : (addLast acc x).length = acc.length := by
  have : 0 < acc.length := List.length_pos_iff.2 h
  simp [addLast]; omega
/-- The lines that rows make. -/
def linesA : List (List UInt8) → List (List UInt8) → Option (List (List UInt8))
  | acc, [] => some acc
  | acc, r :: t => if cont r then (if acc = [] then none else linesA (addLast acc r.tail) t) else linesA (acc ++ [r]) t
theorem linesA_nil (acc : List (List UInt8)) : linesA acc [] = some acc := rfl
theorem linesA_more {acc : List (List UInt8)} {r : List UInt8} (t : List (List UInt8)) (h : cont r = true) (ha : acc ≠ []) : linesA acc (r :: t) = linesA (addLast acc r.tail) t := by
  conv => lhs; unfold linesA
  rw [if_pos h, if_neg ha]
theorem linesA_new (acc : List (List UInt8)) {r : List UInt8} (t : List (List UInt8)) (h : cont r = false) : linesA acc (r :: t) = linesA (acc ++ [r]) t := by
  conv => lhs; unfold linesA
  rw [h]; rfl
/-- The lines of a text in rows. -/
def unfold (l : List UInt8) : Option (List (List UInt8)) := (rowsA [] l).bind (linesA [])

def jn : List (List UInt8) → List UInt8
  | [] => []
  | r :: t => r ++ t.flatMap List.tail
theorem jn_snoc {cur : List (List UInt8)} (h : cur ≠ []) (r : List UInt8) : jn (cur ++ [r]) = jn cur ++ r.tail := by
  cases cur with
  | nil => exact absurd rfl h
  | cons a t => simp [jn]
instance (r : List UInt8) : Decidable (clean r) := List.decidableBAll _ r
end Go.Proofs.YtbgaglcgennhiaaGreatDoor.Tx
end
section
/- what is reached of it -/
namespace Go.Proofs.YtbgaglcgennhiaaGreatDoor
open Go.RowKit Tx
/-- a part of a slice -/
def slv (g cap : Nat) (x : Nat × Nat) : Value := .slice (some ⟨g, x.1, none⟩) (x.2 - x.1) (cap - x.1)
def slvs (g cap : Nat) (l : List (Nat × Nat)) : List Value := l.map (slv g cap)
theorem slvs_get {g cap : Nat} {l : List (Nat × Nat)} {j : Nat} {x : Nat × Nat} (h : l[j]? = some x) : (slvs g cap l)[j]? = some (slv g cap x) := by simp [slvs, h]
attribute [irreducible] slvs
theorem drop_bit {bs : List Bool} {k : Nat} {b : Bool} (h : bs[k]? = some b) : bs.drop k = b :: bs.drop (k + 1) := by
  obtain ⟨hk, he⟩ := List.getElem?_eq_some_iff.1 h
  rw [List.drop_eq_getElem_cons hk, he]
/-- how the gathering stands: R are told, the open row goes from o to k -/
def GStand (bs : List Bool) (R : List (Nat × Nat)) (o k : Nat) : Prop := R.length ≤ k ∧ ivs 0 0 bs = R ++ ivs o k (bs.drop k)
theorem GStand.start (bs : List Bool) : GStand bs [] 0 0 := ⟨Nat.le_refl _, rfl⟩
theorem GStand.cut {bs : List Bool} {R : List (Nat × Nat)} {o k : Nat} (h : GStand bs R o k) (hb : bs[k]? = some true) : GStand bs (R ++ [(o, k)]) k (k + 1) := by
  refine ⟨by rw [List.length_append, List.length_singleton]; have := h.1; omega, ?_⟩
  rw [h.2, drop_bit hb]
  show R ++ ((o, k) :: ivs k (k + 1) _) = _
  simp
theorem GStand.done {bs : List Bool} {R : List (Nat × Nat)} {o k : Nat} (h : GStand bs R o k) (hk : bs.length ≤ k) : ivs 0 0 bs = R ++ [(o, k)] := by
  rw [h.2, List.drop_eq_nil_of_le hk]
  rfl
/-- A slice of slices, each a part of the one at g. -/
def Rows2 (C : Nat) (w : World) (v : Value) (g cap : Nat) (l : List (Nat × Nat)) : Prop :=
  ∃ g' cap', v = .slice (some ⟨g', 0, none⟩) l.length cap' ∧ l.length ≤ cap' ∧ C ≤ g' ∧ g' < w.heap.size ∧ ∀ j x, l[j]? = some x → w.cell? ⟨g', j, none⟩ = some (slv g cap x)
theorem Rows2.of {C : Nat} {w : World} {v : Value} {g cap : Nat} {l : List (Nat × Nat)} {e : TypeId} (h : w.ownsRow C e 1 v l.length (slvs g cap l)) (hl : 0 < l.length) : Rows2 C w v g cap l := by
  rcases h.2 with ⟨_, h0⟩ | ⟨g', cap', cur, rfl, hC, hg, hc, _⟩
  · omega
  · refine ⟨g', cap', rfl, hc, hC, lt_of_block hg, fun j x hj => ?_⟩
    have := h.cells (g := g') rfl j _ (slvs_get hj)
    rwa [add_at, Nat.zero_add] at this
theorem Rows2.keep {C : Nat} {w w' : World} {v : Value} {g cap : Nat} {l : List (Nat × Nat)} (h : Rows2 C w v g cap l) (hb : Below w.heap.size w w') : Rows2 C w' v g cap l := by
  obtain ⟨g', cap', rfl, h1, h2, h3, h4⟩ := h
  exact ⟨g', cap', rfl, h1, h2, Nat.lt_of_lt_of_le h3 hb.size, fun j x hj => by rw [hb.cell (p := ⟨g', j, none⟩) h3]; exact h4 j x hj⟩
end Go.Proofs.YtbgaglcgennhiaaGreatDoor
end
section
/- what is reached of it -/
namespace Go.Proofs.YtbgaglcgennhiaaGreatDoor
open Go.RowKit Tx
/-- What Unfold answers: the lines, and the error. -/
def unfA (l : List UInt8) : List (List UInt8) × Int := if 20000 < l.length then ([], 4) else if valid l then (match unfold l with
  | some m => (m, 0)
  | none => ([], 17)) else ([], 3)
def Unfolded (B : Nat) (w : World) (l : List UInt8) (e : Ending) (w' : World) : Prop :=
  ∃ v, e = .returned (.tuple #[v, .int .i64 (unfA l).2]) ∧ ReadT w'.heap.size w' v (sts (unfA l).1) ∧ Below B w w'
theorem Unfolded.good {B : Nat} {w w' : World} {l : List UInt8} {m : List (List UInt8)} {v : Value} (h : unfA l = (m, 0)) (hv : ReadT w'.heap.size w' v (sts m)) (hb : Below B w w') : Unfolded B w l (.returned (.tuple #[v, .int .i64 0])) w' :=
  ⟨v, by rw [h], by rw [h]; exact hv, hb⟩

/-- how the document's loop stands: acc are told, the open row goes from f to k -/
def UStand (l : List UInt8) (acc : List (List UInt8)) (f k : Nat) : Prop := f ≤ k ∧ k ≤ l.length ∧ acc.length ≤ f ∧ Tx.unfold l = (rowsA ((l.drop f).take (k - f)) (l.drop k)).bind (linesA acc)
theorem UStand.start (l : List UInt8) : UStand l [] 0 0 := ⟨Nat.le_refl _, Nat.zero_le _, Nat.le_refl _, by simp [Tx.unfold]⟩
section
variable {l : List UInt8} {acc : List (List UInt8)} {f k : Nat} {c : UInt8}
theorem at_drop (hc : l[k]? = some c) : l.drop k = c :: l.drop (k + 1) := by
  obtain ⟨hk, he⟩ := List.getElem?_eq_some_iff.1 hc
  rw [List.drop_eq_getElem_cons hk, he]
theorem UStand.stop (h : UStand l acc f k) (hk : l.length ≤ k) : Tx.unfold l = if f < l.length then none else some acc := by
  obtain ⟨h1, h2, _, h3⟩ := h
  obtain rfl : k = l.length := by omega
  rw [h3, List.drop_length, rowsA_nil, List.take_of_length_le (by rw [List.length_drop]; omega)]
  by_cases hf : f < l.length
  · rw [if_pos hf, if_neg (drop_ne hf)]; rfl
  · rw [if_neg hf, if_pos (List.drop_eq_nil_of_le (by omega))]; rfl
theorem UStand.last (h : UStand l acc f k) (hc : l[k]? = some 13) (hk : l.length ≤ k + 1) : Tx.unfold l = none := by
  rw [h.2.2.2, at_drop hc, List.drop_eq_nil_of_le hk, rowsA_13]; rfl
theorem UStand.ended (h : UStand l acc f k) (hc : l[k]? = some 13) (hd : l[k + 1]? = some 10) : Tx.unfold l = ((rowsA [] (l.drop (k + 2))).map ((l.drop f).take (k - f) :: ·)).bind (linesA acc) := by
  rw [h.2.2.2, at_drop hc, at_drop hd, rowsA_end]
theorem UStand.more (h : UStand l acc f k) (hc : l[k]? = some 13) (hd : l[k + 1]? = some 10) (hr : cont ((l.drop f).take (k - f)) = true) (ha : acc ≠ []) : UStand l (addLast acc ((l.drop f).take (k - f)).tail) (k + 2) (k + 2) := by
  obtain ⟨hk, _⟩ := List.getElem?_eq_some_iff.1 hd
  refine ⟨Nat.le_refl _, hk, by rw [addLast_len ha]; have := h.2.2.1; have := h.1; omega, ?_⟩
  rw [h.ended hc hd, Nat.sub_self, List.take_zero]
  cases rowsA [] (l.drop (k + 2)) with
  | none => rfl
  | some t => exact linesA_more t hr ha
theorem UStand.new (h : UStand l acc f k) (hc : l[k]? = some 13) (hd : l[k + 1]? = some 10) (hr : cont ((l.drop f).take (k - f)) = false) : UStand l (acc ++ [(l.drop f).take (k - f)]) (k + 2) (k + 2) := by
  obtain ⟨hk, _⟩ := List.getElem?_eq_some_iff.1 hd
  refine ⟨Nat.le_refl _, hk, by rw [List.length_append, List.length_singleton]; have := h.2.2.1; have := h.1; omega, ?_⟩
  rw [h.ended hc hd, Nat.sub_self, List.take_zero]
  cases rowsA [] (l.drop (k + 2)) with
  | none => rfl
  | some t => exact linesA_new acc t hr
end
/-- no line that is told is longer than what was passed -/
def Short (acc : List (List UInt8)) (f : Nat) : Prop := ∀ x ∈ acc, x.length ≤ f
theorem Short.nil (f : Nat) : Short [] f := fun x hx => by cases hx
theorem Short.new {acc : List (List UInt8)} {f k : Nat} {x : List UInt8} (h : Short acc f) (hx : x.length ≤ k) (hk : f ≤ k) : Short (acc ++ [x]) k := fun y hy => by
  rw [List.mem_append, List.mem_singleton] at hy
  rcases hy with hy | rfl
  · have := h y hy; omega
  · exact hx
theorem Short.more {a : List (List UInt8)} {f k : Nat} {x y : List UInt8} (h : Short (a ++ [y]) f) (hx : f + x.length ≤ k) (hk : f ≤ k) : Short (addLast (a ++ [y]) x) k := by
  rw [addLast_snoc]
  refine Short.new (f := f) (fun z hz => h z (by simp [hz])) ?_ hk
  have := h y (by simp)
  rw [List.length_append]; omega
/-- an element of a row that the call has made, read and written -/
theorem OwnT.at {B : Nat} {w : World} {g cap n : Nat} {x : List ByteArray} (h : OwnT B w (.slice (some ⟨g, 0, none⟩) n cap) x) {j : Nat} {b : ByteArray} (hb : x[j]? = some b) : w.cell? ⟨g, j, none⟩ = some (.string b) ∧ w.frozen? ⟨g, j, none⟩ = false ∧ B ≤ g ∧ g < w.heap.size ∧ n = x.length := by
  have h' : w.ownsRow B 9 1 (.slice (some ⟨g, 0, none⟩) n cap) x.length (strs x) := h
  have hn : n = x.length := by
    rcases h'.2 with ⟨e, _⟩ | ⟨_, _, _, e, _⟩
    · simp at e
    · simp at e; exact e.2.1
  subst hn
  have hlt := h.low (j := g) rfl
  exact ⟨by rw [h'.cellAt j (by have := (List.getElem?_eq_some_iff.1 hb).1; omega)]; exact strs_get hb, h'.frozenAt j, hlt.1, hlt.2, rfl⟩
theorem strs_set (x : List ByteArray) (i : Nat) (b : ByteArray) : (strs x).set i (.string b) = strs (x.set i b) := by unfold strs; rw [List.map_set]
theorem OwnT.put {B : Nat} {w : World} {g cap n : Nat} {x : List ByteArray} (h : OwnT B w (.slice (some ⟨g, 0, none⟩) n cap) x) (j : Nat) (b : ByteArray) : OwnT B (w.setCell ⟨g, j, none⟩ (.string b)) (.slice (some ⟨g, 0, none⟩) n cap) (x.set j b) := by
  have h' : w.ownsRow B 9 1 (.slice (some ⟨g, 0, none⟩) n cap) x.length (strs x) := h
  have hn : n = x.length := by
    rcases h'.2 with ⟨e, _⟩ | ⟨_, _, _, e, _⟩
    · simp at e
    · simp at e; exact e.2.1
  subst hn
  have := (h'.stored j (.string b)).1
  rw [strs_set] at this
  unfold OwnT
  rw [List.length_set]
  exact this
theorem OwnT.some {B : Nat} {w : World} {v : Value} {x : List ByteArray} (h : OwnT B w v x) (hx : x ≠ []) : ∃ g cap, v = .slice (some ⟨g, 0, none⟩) x.length cap := by
  rcases h.2 with ⟨rfl, h0⟩ | ⟨g, cap, cur, rfl, _⟩
  · exact absurd (List.eq_nil_of_length_eq_zero h0) hx
  · exact ⟨_, _, rfl⟩
end Go.Proofs.YtbgaglcgennhiaaGreatDoor
end
