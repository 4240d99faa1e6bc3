/- Texts laid together: RefFo RefSp RefUn -/
import Derived.Test.YtphopnfnjnieaaaDoorFld
import Derived.Test.YtphopnfnjnieaaaDoorRefV
import Derived.Test.YtphopnfnjnieaaaDoorByt
import Derived.Test.YtphopnfnjnieaaaDoorStrs
import Derived.Test.YtphopnfnjnieaaaDoorFld
import Derived.Laws.OwnMore
/-
  THE DOCUMENT's OWN ANSWER for fold.Fold: cardexref01.foldOne, cardexref01.Fold.
-/
namespace Go.Proofs.YtphopnfnjnieaaaDoor
open Go.RowKit Tx

/-- how the document's loop stands: o ahead, so much room, the rest from k on -/
def FStand (l : List UInt8) (k room : Nat) (o : List UInt8) : Prop := foldOne l = o ++ fr room (chs (l.drop k))
theorem FStand.start (l : List UInt8) : FStand l 0 75 [] := by unfold FStand; rw [List.drop_zero, foldOne_fr]; rfl
theorem FStand.done {l o : List UInt8} {k room : Nat} (h : FStand l k room o) (hk : l.length ≤ k) : foldOne l = o ++ [13, 10] := by
  unfold FStand at h
  rw [List.drop_eq_nil_of_le hk, chs_nil, fr_nil] at h
  exact h
theorem chs_at {l : List UInt8} {k n : Nat} (hk : k < l.length) (hn : (dc (l.drop k)).2 = n) : chs (l.drop k) = (l.drop k).take n :: chs (l.drop (k + n)) := by
  rw [chs_step (drop_ne hk), hn, List.drop_drop]
theorem take_len {l : List UInt8} {k n : Nat} (hk : k + n ≤ l.length) : ((l.drop k).take n).length = n := by
  rw [List.length_take, List.length_drop]; omega
theorem FStand.on {l o : List UInt8} {k room n : Nat} (h : FStand l k room o) (hk : k < l.length) (hn : (dc (l.drop k)).2 = n) (hkn : k + n ≤ l.length) (hr : n ≤ room) : FStand l (k + n) (room - n) (o ++ (l.drop k).take n) := by
  unfold FStand at h ⊢
  rw [h, chs_at hk hn, fr_on _ (by rw [take_len hkn]; omega), take_len hkn, List.append_assoc]
theorem FStand.cut {l o : List UInt8} {k room n : Nat} (h : FStand l k room o) (hk : k < l.length) (hn : (dc (l.drop k)).2 = n) (hkn : k + n ≤ l.length) (hr : room < n) : FStand l (k + n) (74 - n) (o ++ [13, 10, 32] ++ (l.drop k).take n) := by
  unfold FStand at h ⊢
  rw [h, chs_at hk hn, fr_cut _ (by rw [take_len hkn]; omega), take_len hkn]
  simp
/-- so many bytes go on: at least one -/
theorem rdc_max (l : List UInt8) : max 1 (rdc l).2 = (dc l).2 := by
  unfold rdc
  by_cases h : dc l = (65533, 1)
  · rw [if_pos h, h]; rfl
  · rw [if_neg h]
    have := dc_ge1 l
    omega
theorem max_int (a b : Int) : (if b ≤ a then a else b) = max a b := by omega


/-- the bytes of strings -/
def btl (xs : List ByteArray) : List (List UInt8) := xs.map fun b => b.data.toList
theorem btl_take (xs : List ByteArray) (k : Nat) : btl (xs.take k) = (btl xs).take k := by simp [btl, List.map_take]
/-- how many bytes there are in all, with three more for each -/
def bulk (xs : List ByteArray) : Nat := (xs.map fun b => b.size + 3).sum
theorem bulk_nil : bulk [] = 0 := rfl
theorem bulk_snoc (xs : List ByteArray) (b : ByteArray) : bulk (xs ++ [b]) = bulk xs + (b.size + 3) := by simp [bulk]
theorem bulk_take (xs : List ByteArray) (k : Nat) : bulk (xs.take k) ≤ bulk xs := by
  have h : bulk xs = bulk (xs.take k) + bulk (xs.drop k) := by
    conv => lhs; rw [← List.take_append_drop k xs]
    unfold bulk
    rw [List.map_append, List.sum_append]
  omega
theorem bulk_one {xs : List ByteArray} {b : ByteArray} {k : Nat} (h : xs[k]? = some b) : b.size + 3 ≤ bulk xs := by
  have h1 := bulk_take xs (k + 1)
  rw [List.take_add_one, h, Option.toList_some, bulk_snoc] at h1
  omega
theorem bulk_len (xs : List ByteArray) : 3 * xs.length ≤ bulk xs := by
  induction xs with
  | nil => simp
  | cons b t ih => simp only [bulk, List.map_cons, List.sum_cons, List.length_cons] at ih ⊢; omega
theorem foldL_take {xs : List ByteArray} {b : ByteArray} {k : Nat} (h : xs[k]? = some b) : foldL (btl (xs.take (k + 1))) = foldL (btl (xs.take k)) ++ foldOne b.data.toList := by
  rw [List.take_add_one, h]
  simp [btl, foldL]
theorem foldL_size : ∀ xs : List ByteArray, (foldL (btl xs)).length ≤ 4 * bulk xs
  | [] => by simp [btl, foldL]
  | b :: t => by
    have h1 := foldOne_size b.data.toList
    have h2 := foldL_size t
    rw [← Lib.size_eq] at h1
    simp only [btl, foldL, bulk, List.map_cons, List.flatMap_cons, List.length_append, List.sum_cons] at h2 ⊢
    omega

end Go.Proofs.YtphopnfnjnieaaaDoor
/-
  THE DOCUMENT's OWN ANSWER for fold.Split: cardexref01.Split.
-/
namespace Go.Proofs.YtphopnfnjnieaaaDoor
open Go.RowKit Tx

/-- strings out of lists of bytes -/
def sts (l : List (List UInt8)) : List ByteArray := l.map fun x => ⟨x.toArray⟩
theorem sts_snoc (l : List (List UInt8)) (x : List UInt8) : sts (l ++ [x]) = sts l ++ [⟨x.toArray⟩] := by simp [sts]
theorem sts_len (l : List (List UInt8)) : (sts l).length = l.length := by simp [sts]
/-- how the document's loop stands: acc are told, the open piece goes from f to k -/
def SStand (sep : UInt8) (l : List UInt8) (acc : List (List UInt8)) (f k : Nat) (e : Bool) : Prop := f ≤ k ∧ k ≤ l.length ∧ acc.length ≤ f ∧ split1 sep l = acc ++ spl sep e ((l.drop f).take (k - f)) (l.drop k)
theorem SStand.start (sep : UInt8) (l : List UInt8) : SStand sep l [] 0 0 false := ⟨Nat.le_refl _, Nat.zero_le _, Nat.le_refl _, by simp [split1]⟩
theorem SStand.done {sep : UInt8} {l : List UInt8} {acc : List (List UInt8)} {f k : Nat} {e : Bool} (h : SStand sep l acc f k e) (hk : l.length ≤ k) : split1 sep l = acc ++ [l.drop f] := by
  obtain ⟨h1, h2, _, h3⟩ := h
  rw [h3, List.drop_eq_nil_of_le hk, spl_nil, List.take_of_length_le (by rw [List.length_drop]; omega)]
theorem SStand.cut {sep c : UInt8} {l : List UInt8} {acc : List (List UInt8)} {f k : Nat} {e : Bool} (h : SStand sep l acc f k e) (hc : l[k]? = some c) (hs : c = sep ∧ e = false) : SStand sep l (acc ++ [(l.drop f).take (k - f)]) (k + 1) (k + 1) (c == 92 && !e) := by
  obtain ⟨h1, h2, h4, h3⟩ := h
  obtain ⟨hk, he⟩ := List.getElem?_eq_some_iff.1 hc
  refine ⟨Nat.le_refl _, hk, by rw [List.length_append, List.length_singleton]; omega, ?_⟩
  rw [h3, List.drop_eq_getElem_cons hk, he, spl_cut _ _ hs]
  simp
theorem SStand.on {sep c : UInt8} {l : List UInt8} {acc : List (List UInt8)} {f k : Nat} {e : Bool} (h : SStand sep l acc f k e) (hc : l[k]? = some c) (hs : ¬ (c = sep ∧ e = false)) : SStand sep l acc f (k + 1) (c == 92 && !e) := by
  obtain ⟨h1, h2, h4, h3⟩ := h
  obtain ⟨hk, he⟩ := List.getElem?_eq_some_iff.1 hc
  refine ⟨by omega, hk, h4, ?_⟩
  have hd : l.drop k = c :: l.drop (k + 1) := by rw [List.drop_eq_getElem_cons hk, he]
  rw [h3, hd, spl_on _ _ hs, take_snoc hd h1]

end Go.Proofs.YtphopnfnjnieaaaDoor
/-
  THE DOCUMENT's OWN ANSWER for fold.Unfold: cardexref01.Unfold.
-/
namespace Go.Proofs.YtphopnfnjnieaaaDoor
open Go.RowKit Tx

/-- What Unfold answers: the lines, and the error. -/
def unfA (l : List UInt8) : List (List UInt8) × Int := if 20000 < l.length then ([], 4) else if valid l then (match unfold l with
  | some m => (m, 0)
  | none => ([], 17)) else ([], 3)
theorem unfA_big {l : List UInt8} (h : 20000 < l.length) : unfA l = ([], 4) := by unfold unfA; rw [if_pos h]
theorem unfA_utf {l : List UInt8} (h : ¬ 20000 < l.length) (h2 : valid l = false) : unfA l = ([], 3) := by unfold unfA; rw [if_neg h, if_neg (by rw [h2]; decide)]
theorem unfA_line {l : List UInt8} (h : ¬ 20000 < l.length) (h2 : valid l = true) (h3 : Tx.unfold l = none) : unfA l = ([], 17) := by unfold unfA; rw [if_neg h, if_pos h2, h3]
theorem unfA_ok {l : List UInt8} {m : List (List UInt8)} (h : ¬ 20000 < l.length) (h2 : valid l = true) (h3 : Tx.unfold l = some m) : unfA l = (m, 0) := by unfold unfA; rw [if_neg h, if_pos h2, h3]
def Unfolded (B : Nat) (w : World) (l : List UInt8) (e : Ending) (w' : World) : Prop :=
  ∃ v, e = .returned (.tuple #[v, .int .i64 (unfA l).2]) ∧ ReadT w'.heap.size w' v (sts (unfA l).1) ∧ Below B w w'
theorem Unfolded.err {B : Nat} {w w' : World} {l : List UInt8} {n : Int} (h : unfA l = ([], n)) (hb : Below B w w') : Unfolded B w l (.returned (.tuple #[.slice none 0 0, .int .i64 n])) w' :=
  ⟨_, by rw [h], by rw [h]; exact ReadT.nil _ _ _, hb⟩
theorem Unfolded.good {B : Nat} {w w' : World} {l : List UInt8} {m : List (List UInt8)} {v : Value} (h : unfA l = (m, 0)) (hv : ReadT w'.heap.size w' v (sts m)) (hb : Below B w w') : Unfolded B w l (.returned (.tuple #[v, .int .i64 0])) w' :=
  ⟨v, by rw [h], by rw [h]; exact hv, hb⟩

/-- how the document's loop stands: acc are told, the open row goes from f to k -/
def UStand (l : List UInt8) (acc : List (List UInt8)) (f k : Nat) : Prop := f ≤ k ∧ k ≤ l.length ∧ acc.length ≤ f ∧ Tx.unfold l = (rowsA ((l.drop f).take (k - f)) (l.drop k)).bind (linesA acc)
theorem UStand.start (l : List UInt8) : UStand l [] 0 0 := ⟨Nat.le_refl _, Nat.zero_le _, Nat.le_refl _, by simp [Tx.unfold]⟩
section
variable {l : List UInt8} {acc : List (List UInt8)} {f k : Nat} {c : UInt8}
theorem at_drop (hc : l[k]? = some c) : l.drop k = c :: l.drop (k + 1) := by
  obtain ⟨hk, he⟩ := List.getElem?_eq_some_iff.1 hc
  rw [List.drop_eq_getElem_cons hk, he]
theorem UStand.stop (h : UStand l acc f k) (hk : l.length ≤ k) : Tx.unfold l = if f < l.length then none else some acc := by
  obtain ⟨h1, h2, _, h3⟩ := h
  obtain rfl : k = l.length := by omega
  rw [h3, List.drop_length, rowsA_nil, List.take_of_length_le (by rw [List.length_drop]; omega)]
  by_cases hf : f < l.length
  · rw [if_pos hf, if_neg (drop_ne hf)]; rfl
  · rw [if_neg hf, if_pos (List.drop_eq_nil_of_le (by omega))]; rfl
theorem UStand.ten (h : UStand l acc f k) (hc : l[k]? = some 10) : Tx.unfold l = none := by
  rw [h.2.2.2, at_drop hc, rowsA_10]; rfl
theorem UStand.last (h : UStand l acc f k) (hc : l[k]? = some 13) (hk : l.length ≤ k + 1) : Tx.unfold l = none := by
  rw [h.2.2.2, at_drop hc, List.drop_eq_nil_of_le hk, rowsA_13]; rfl
theorem UStand.odd {d : UInt8} (h : UStand l acc f k) (hc : l[k]? = some 13) (hd : l[k + 1]? = some d) (hd2 : d ≠ 10) : Tx.unfold l = none := by
  rw [h.2.2.2, at_drop hc, at_drop hd, rowsA_13x _ _ hd2]; rfl
theorem UStand.on (h : UStand l acc f k) (hc : l[k]? = some c) (h1 : c ≠ 10) (h2 : c ≠ 13) : UStand l acc f (k + 1) := by
  obtain ⟨g1, g2, g4, g3⟩ := h
  obtain ⟨hk, _⟩ := List.getElem?_eq_some_iff.1 hc
  refine ⟨by omega, hk, g4, ?_⟩
  rw [g3, at_drop hc, rowsA_on _ _ h1 h2, take_snoc (at_drop hc) g1]
theorem UStand.ended (h : UStand l acc f k) (hc : l[k]? = some 13) (hd : l[k + 1]? = some 10) : Tx.unfold l = ((rowsA [] (l.drop (k + 2))).map ((l.drop f).take (k - f) :: ·)).bind (linesA acc) := by
  rw [h.2.2.2, at_drop hc, at_drop hd, rowsA_end]
theorem UStand.early (h : UStand l [] f k) (hc : l[k]? = some 13) (hd : l[k + 1]? = some 10) (hr : cont ((l.drop f).take (k - f)) = true) : Tx.unfold l = none := by
  rw [h.ended hc hd]
  cases rowsA [] (l.drop (k + 2)) with
  | none => rfl
  | some t => exact linesA_bad t hr
theorem UStand.more (h : UStand l acc f k) (hc : l[k]? = some 13) (hd : l[k + 1]? = some 10) (hr : cont ((l.drop f).take (k - f)) = true) (ha : acc ≠ []) : UStand l (addLast acc ((l.drop f).take (k - f)).tail) (k + 2) (k + 2) := by
  obtain ⟨hk, _⟩ := List.getElem?_eq_some_iff.1 hd
  refine ⟨Nat.le_refl _, hk, by rw [addLast_len ha]; have := h.2.2.1; have := h.1; omega, ?_⟩
  rw [h.ended hc hd, Nat.sub_self, List.take_zero]
  cases rowsA [] (l.drop (k + 2)) with
  | none => rfl
  | some t => exact linesA_more t hr ha
theorem UStand.new (h : UStand l acc f k) (hc : l[k]? = some 13) (hd : l[k + 1]? = some 10) (hr : cont ((l.drop f).take (k - f)) = false) : UStand l (acc ++ [(l.drop f).take (k - f)]) (k + 2) (k + 2) := by
  obtain ⟨hk, _⟩ := List.getElem?_eq_some_iff.1 hd
  refine ⟨Nat.le_refl _, hk, by rw [List.length_append, List.length_singleton]; have := h.2.2.1; have := h.1; omega, ?_⟩
  rw [h.ended hc hd, Nat.sub_self, List.take_zero]
  cases rowsA [] (l.drop (k + 2)) with
  | none => rfl
  | some t => exact linesA_new acc t hr
end
/-- no line that is told is longer than what was passed -/
def Short (acc : List (List UInt8)) (f : Nat) : Prop := ∀ x ∈ acc, x.length ≤ f
theorem Short.nil (f : Nat) : Short [] f := fun x hx => by cases hx
theorem Short.new {acc : List (List UInt8)} {f k : Nat} {x : List UInt8} (h : Short acc f) (hx : x.length ≤ k) (hk : f ≤ k) : Short (acc ++ [x]) k := fun y hy => by
  rw [List.mem_append, List.mem_singleton] at hy
  rcases hy with hy | rfl
  · have := h y hy; omega
  · exact hx
theorem Short.more {a : List (List UInt8)} {f k : Nat} {x y : List UInt8} (h : Short (a ++ [y]) f) (hx : f + x.length ≤ k) (hk : f ≤ k) : Short (addLast (a ++ [y]) x) k := by
  rw [addLast_snoc]
  refine Short.new (f := f) (fun z hz => h z (by simp [hz])) ?_ hk
  have := h y (by simp)
  rw [List.length_append]; omega
theorem sts_set (a : List (List UInt8)) (y x : List UInt8) (p : ByteArray) (hp : p.data.toList = y ++ x) : (sts (a ++ [y])).set a.length p = sts (addLast (a ++ [y]) x) := by
  rw [addLast_snoc, sts_snoc, sts_snoc]
  have e : a.length = (sts a).length := (sts_len a).symm
  rw [e, List.set_append_right _ _ (Nat.le_refl _), Nat.sub_self]
  exact congrArg _ (congrArg (fun x => [x]) (by rw [← hp]))
/-- an element of a row that the call has made, read and written -/
theorem OwnT.at {B : Nat} {w : World} {g cap n : Nat} {x : List ByteArray} (h : OwnT B w (.slice (some ⟨g, 0, none⟩) n cap) x) {j : Nat} {b : ByteArray} (hb : x[j]? = some b) : w.cell? ⟨g, j, none⟩ = some (.string b) ∧ w.frozen? ⟨g, j, none⟩ = false ∧ B ≤ g ∧ g < w.heap.size ∧ n = x.length := by
  have h' : w.ownsRow B 9 1 (.slice (some ⟨g, 0, none⟩) n cap) x.length (strs x) := h
  have hn : n = x.length := by
    rcases h'.2 with ⟨e, _⟩ | ⟨_, _, _, e, _⟩
    · simp at e
    · simp at e; exact e.2.1
  subst hn
  have hlt := h.low (j := g) rfl
  exact ⟨by rw [h'.cellAt j (by have := (List.getElem?_eq_some_iff.1 hb).1; omega)]; exact strs_get hb, h'.frozenAt j, hlt.1, hlt.2, rfl⟩
theorem strs_set (x : List ByteArray) (i : Nat) (b : ByteArray) : (strs x).set i (.string b) = strs (x.set i b) := by unfold strs; rw [List.map_set]
theorem OwnT.put {B : Nat} {w : World} {g cap n : Nat} {x : List ByteArray} (h : OwnT B w (.slice (some ⟨g, 0, none⟩) n cap) x) (j : Nat) (b : ByteArray) : OwnT B (w.setCell ⟨g, j, none⟩ (.string b)) (.slice (some ⟨g, 0, none⟩) n cap) (x.set j b) := by
  have h' : w.ownsRow B 9 1 (.slice (some ⟨g, 0, none⟩) n cap) x.length (strs x) := h
  have hn : n = x.length := by
    rcases h'.2 with ⟨e, _⟩ | ⟨_, _, _, e, _⟩
    · simp at e
    · simp at e; exact e.2.1
  subst hn
  have := (h'.stored j (.string b)).1
  rw [strs_set] at this
  unfold OwnT
  rw [List.length_set]
  exact this
theorem OwnT.some {B : Nat} {w : World} {v : Value} {x : List ByteArray} (h : OwnT B w v x) (hx : x ≠ []) : ∃ g cap, v = .slice (some ⟨g, 0, none⟩) x.length cap := by
  rcases h.2 with ⟨rfl, h0⟩ | ⟨g, cap, cur, rfl, _⟩
  · exact absurd (List.eq_nil_of_length_eq_zero h0) hx
  · exact ⟨_, _, rfl⟩
theorem cont_cases (l : List UInt8) : (l = [] ∧ cont l = false) ∨ ∃ c t, l = c :: t ∧ ((c = 32 ∧ cont l = true) ∨ (c = 9 ∧ cont l = true) ∨ (c ≠ 32 ∧ c ≠ 9 ∧ cont l = false)) := by
  cases l with
  | nil => exact .inl ⟨rfl, rfl⟩
  | cons c t =>
    refine .inr ⟨c, t, rfl, ?_⟩
    by_cases h1 : c = 32
    · subst h1; exact .inl ⟨rfl, rfl⟩
    by_cases h2 : c = 9
    · subst h2; exact .inr (.inl ⟨rfl, rfl⟩)
    · exact .inr (.inr ⟨h1, h2, by unfold cont; simp [h1, h2]⟩)

end Go.Proofs.YtphopnfnjnieaaaDoor
