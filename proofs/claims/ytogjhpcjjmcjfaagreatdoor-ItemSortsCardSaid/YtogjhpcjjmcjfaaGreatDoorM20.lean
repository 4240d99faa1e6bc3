import Derived.Lib.Strings
import Derived.Lib.Hide
import Derived.WalkKit
import Derived.Test.YtogjhpcjjmcjfaaGreatDoorM19
import Derived.Laws.OwnMore
import Derived.Test.YtogjhpcjjmcjfaaGreatDoorRows
import Derived.Test.YtogjhpcjjmcjfaaGreatDoorM03
import Derived.Test.YtogjhpcjjmcjfaaGreatDoorM04
import Derived.WalkSpells
import Derived.WalkLawsBesides
section
/- what is reached of it -/
namespace Go.Proofs.YtogjhpcjjmcjfaaGreatDoor
theorem ret_str {a b : ByteArray} (h : a = b) : Ending.returned (.string a) = .returned (.string b) := by rw [h]
theorem bytes_of {o : ByteArray} {l : List UInt8} (h : o.data.toList = l) : o = ⟨l.toArray⟩ := by
  subst h
  rfl
theorem cat_list (a b : ByteArray) : (a ++ b).data.toList = a.data.toList ++ b.data.toList := by simp
theorem mid_cut {s : ByteArray} {a b : Nat} : (s.extract a b).data.toList = (s.data.toList.drop a).take (b - a) := by simp [ByteArray.data_extract]
theorem drop_step {s : ByteArray} {k : Nat} (h : k < s.size) : s.data.toList.drop k = (s[k]'h) :: s.data.toList.drop (k + 1) := by
  have h' : k < s.data.toList.length := by rw [← Lib.size_eq]; exact h
  exact List.drop_eq_getElem_cons h'
end Go.Proofs.YtogjhpcjjmcjfaaGreatDoor
end
section
/- what is reached of it -/
namespace Go.Proofs.YtogjhpcjjmcjfaaGreatDoor.Tx
/-- What a "\" makes of the byte behind it. -/
def unb (c : UInt8) : Option UInt8 := if c = 92 ∨ c = 44 ∨ c = 59 then some c else if c = 110 ∨ c = 78 then some 10 else none
/-- The text that a value is. -/
def plain : List UInt8 → Option (List UInt8)
  | [] => some []
  | c :: t => if c = 92 then (match t with
    | [] => none
    | d :: u => match unb d with
      | some x => (plain u).map (x :: ·)
      | none => none) else (plain t).map (c :: ·)
theorem plain_nil : plain [] = some [] := rfl
theorem plain_end : plain [92] = none := by unfold plain; rw [if_pos rfl]
theorem plain_bad {d : UInt8} (u : List UInt8) (h : unb d = none) : plain (92 :: d :: u) = none := by
  unfold plain
  rw [if_pos rfl]
  simp only [h]
theorem plain_esc {d x : UInt8} (u : List UInt8) (h : unb d = some x) : plain (92 :: d :: u) = (plain u).map (x :: ·) := by
  conv => lhs; unfold plain
  rw [if_pos rfl]
  simp only [h]
theorem plain_on {c : UInt8} (t : List UInt8) (h : c ≠ 92) : plain (c :: t) = (plain t).map (c :: ·) := by
  conv => lhs; unfold plain
  rw [if_neg h]
theorem plain_run : ∀ (p t : List UInt8), (∀ c ∈ p, c ≠ 92) → plain (p ++ t) = (plain t).map (p ++ ·)
  | [], t, _ => by rw [List.nil_append]; cases plain t <;> rfl
  | c :: p, t, h => by
    rw [List.cons_append, plain_on _ (h c (by simp)), plain_run p t (fun d hd => h d (by simp [hd]))]
    cases plain t <;> rfl
def spl (sep : UInt8) : Bool → List UInt8 → List UInt8 → List (List UInt8)
  | _, cur, [] => [cur]
  | e, cur, c :: t => if c = sep ∧ e = false then cur :: spl sep (c == 92 && !e) [] t else spl sep (c == 92 && !e) (cur ++ [c]) t
theorem spl_nil (sep : UInt8) (e : Bool) (cur : List UInt8) : spl sep e cur [] = [cur] := rfl
theorem spl_cut {sep : UInt8} {e : Bool} (cur : List UInt8) {c : UInt8} (t : List UInt8) (h : c = sep ∧ e = false) : spl sep e cur (c :: t) = cur :: spl sep (c == 92 && !e) [] t := by
  conv => lhs; unfold spl
  rw [if_pos h]
/-- all but the first one without their first byte -/
def tails : List (List UInt8) → List (List UInt8)
  | [] => []
  | h :: t => h :: t.map List.tail
def split1 (sep : UInt8) (l : List UInt8) : List (List UInt8) := spl sep false [] l
end Go.Proofs.YtogjhpcjjmcjfaaGreatDoor.Tx
end
section
/- what is reached of it -/
namespace Go.Proofs.YtogjhpcjjmcjfaaGreatDoor
open Go.RowKit Tx
/-- strings out of lists of bytes -/
def sts (l : List (List UInt8)) : List ByteArray := l.map fun x => ⟨x.toArray⟩
/-- how the document's loop stands: acc are told, the open piece goes from f to k -/
def SStand (sep : UInt8) (l : List UInt8) (acc : List (List UInt8)) (f k : Nat) (e : Bool) : Prop := f ≤ k ∧ k ≤ l.length ∧ acc.length ≤ f ∧ split1 sep l = acc ++ spl sep e ((l.drop f).take (k - f)) (l.drop k)
theorem SStand.start (sep : UInt8) (l : List UInt8) : SStand sep l [] 0 0 false := ⟨Nat.le_refl _, Nat.zero_le _, Nat.le_refl _, by simp [split1]⟩
theorem SStand.done {sep : UInt8} {l : List UInt8} {acc : List (List UInt8)} {f k : Nat} {e : Bool} (h : SStand sep l acc f k e) (hk : l.length ≤ k) : split1 sep l = acc ++ [l.drop f] := by
  obtain ⟨h1, h2, _, h3⟩ := h
  rw [h3, List.drop_eq_nil_of_le hk, spl_nil, List.take_of_length_le (by rw [List.length_drop]; omega)]
theorem SStand.cut {sep c : UInt8} {l : List UInt8} {acc : List (List UInt8)} {f k : Nat} {e : Bool} (h : SStand sep l acc f k e) (hc : l[k]? = some c) (hs : c = sep ∧ e = false) : SStand sep l (acc ++ [(l.drop f).take (k - f)]) (k + 1) (k + 1) (c == 92 && !e) := by
  obtain ⟨h1, h2, h4, h3⟩ := h
  obtain ⟨hk, he⟩ := List.getElem?_eq_some_iff.1 hc
  refine ⟨Nat.le_refl _, hk, by rw [List.length_append, List.length_singleton]; omega, ?_⟩
  rw [h3, List.drop_eq_getElem_cons hk, he, spl_cut _ _ hs]
  simp
end Go.Proofs.YtogjhpcjjmcjfaaGreatDoor
end
section
/- what is reached of it -/
namespace Go.Proofs.YtogjhpcjjmcjfaaGreatDoor
open Go.RowKit Tx
/-- how the document's loop stands: acc are told, the open row goes from f to k -/
def UStand (l : List UInt8) (acc : List (List UInt8)) (f k : Nat) : Prop := f ≤ k ∧ k ≤ l.length ∧ acc.length ≤ f ∧ Tx.unfold l = (rowsA ((l.drop f).take (k - f)) (l.drop k)).bind (linesA acc)
theorem UStand.start (l : List UInt8) : UStand l [] 0 0 := ⟨Nat.le_refl _, Nat.zero_le _, Nat.le_refl _, by simp [Tx.unfold]⟩
section
variable {l : List UInt8} {acc : List (List UInt8)} {f k : Nat} {c : UInt8}
theorem at_drop (hc : l[k]? = some c) : l.drop k = c :: l.drop (k + 1) := by
  obtain ⟨hk, he⟩ := List.getElem?_eq_some_iff.1 hc
  rw [List.drop_eq_getElem_cons hk, he]
theorem UStand.stop (h : UStand l acc f k) (hk : l.length ≤ k) : Tx.unfold l = if f < l.length then none else some acc := by
  obtain ⟨h1, h2, _, h3⟩ := h
  obtain rfl : k = l.length := by omega
  rw [h3, List.drop_length, rowsA_nil, List.take_of_length_le (by rw [List.length_drop]; omega)]
  by_cases hf : f < l.length
  · rw [if_pos hf, if_neg (drop_ne hf)]; rfl
  · rw [if_neg hf, if_pos (List.drop_eq_nil_of_le (by omega))]; rfl
theorem UStand.last (h : UStand l acc f k) (hc : l[k]? = some 13) (hk : l.length ≤ k + 1) : Tx.unfold l = none := by
  rw [h.2.2.2, at_drop hc, List.drop_eq_nil_of_le hk, rowsA_13]; rfl
theorem UStand.ended (h : UStand l acc f k) (hc : l[k]? = some 13) (hd : l[k + 1]? = some 10) : Tx.unfold l = ((rowsA [] (l.drop (k + 2))).map ((l.drop f).take (k - f) :: ·)).bind (linesA acc) := by
  rw [h.2.2.2, at_drop hc, at_drop hd, rowsA_end]
theorem UStand.more (h : UStand l acc f k) (hc : l[k]? = some 13) (hd : l[k + 1]? = some 10) (hr : cont ((l.drop f).take (k - f)) = true) (ha : acc ≠ []) : UStand l (addLast acc ((l.drop f).take (k - f)).tail) (k + 2) (k + 2) := by
  obtain ⟨hk, _⟩ := List.getElem?_eq_some_iff.1 hd
  refine ⟨Nat.le_refl _, hk, by rw [addLast_len ha]; have := h.2.2.1; have := h.1; omega, ?_⟩
  rw [h.ended hc hd, Nat.sub_self, List.take_zero]
  cases rowsA [] (l.drop (k + 2)) with
  | none => rfl
  | some t => exact linesA_more t hr ha
theorem UStand.new (h : UStand l acc f k) (hc : l[k]? = some 13) (hd : l[k + 1]? = some 10) (hr : cont ((l.drop f).take (k - f)) = false) : UStand l (acc ++ [(l.drop f).take (k - f)]) (k + 2) (k + 2) := by
  obtain ⟨hk, _⟩ := List.getElem?_eq_some_iff.1 hd
  refine ⟨Nat.le_refl _, hk, by rw [List.length_append, List.length_singleton]; have := h.2.2.1; have := h.1; omega, ?_⟩
  rw [h.ended hc hd, Nat.sub_self, List.take_zero]
  cases rowsA [] (l.drop (k + 2)) with
  | none => rfl
  | some t => exact linesA_new acc t hr
end
/-- no line that is told is longer than what was passed -/
def Short (acc : List (List UInt8)) (f : Nat) : Prop := ∀ x ∈ acc, x.length ≤ f
theorem Short.nil (f : Nat) : Short [] f := fun x hx => by cases hx
theorem Short.new {acc : List (List UInt8)} {f k : Nat} {x : List UInt8} (h : Short acc f) (hx : x.length ≤ k) (hk : f ≤ k) : Short (acc ++ [x]) k := fun y hy => by
  rw [List.mem_append, List.mem_singleton] at hy
  rcases hy with hy | rfl
  · have := h y hy; omega
  · exact hx
theorem Short.more {a : List (List UInt8)} {f k : Nat} {x y : List UInt8} (h : Short (a ++ [y]) f) (hx : f + x.length ≤ k) (hk : f ≤ k) : Short (addLast (a ++ [y]) x) k := by
  rw [addLast_snoc]
  refine Short.new (f := f) (fun z hz => h z (by simp [hz])) ?_ hk
  have := h y (by simp)
  rw [List.length_append]; omega
/-- an element of a row that the call has made, read and written -/
theorem OwnT.at {B : Nat} {w : World} {g cap n : Nat} {x : List ByteArray} (h : OwnT B w (.slice (some ⟨g, 0, none⟩) n cap) x) {j : Nat} {b : ByteArray} (hb : x[j]? = some b) : w.cell? ⟨g, j, none⟩ = some (.string b) ∧ w.frozen? ⟨g, j, none⟩ = false ∧ B ≤ g ∧ g < w.heap.size ∧ n = x.length := by
  have h' : w.ownsRow B 9 1 (.slice (some ⟨g, 0, none⟩) n cap) x.length (strs x) := h
  have hn : n = x.length := by
    rcases h'.2 with ⟨e, _⟩ | ⟨_, _, _, e, _⟩
    · simp at e
    · simp at e; exact e.2.1
  subst hn
  have hlt := h.low (j := g) rfl
  exact ⟨by rw [h'.cellAt j (by have := (List.getElem?_eq_some_iff.1 hb).1; omega)]; exact strs_get hb, h'.frozenAt j, hlt.1, hlt.2, rfl⟩
theorem strs_set (x : List ByteArray) (i : Nat) (b : ByteArray) : (strs x).set i (.string b) = strs (x.set i b) := by unfold strs; rw [List.map_set]
theorem OwnT.put {B : Nat} {w : World} {g cap n : Nat} {x : List ByteArray} (h : OwnT B w (.slice (some ⟨g, 0, none⟩) n cap) x) (j : Nat) (b : ByteArray) : OwnT B (w.setCell ⟨g, j, none⟩ (.string b)) (.slice (some ⟨g, 0, none⟩) n cap) (x.set j b) := by
  have h' : w.ownsRow B 9 1 (.slice (some ⟨g, 0, none⟩) n cap) x.length (strs x) := h
  have hn : n = x.length := by
    rcases h'.2 with ⟨e, _⟩ | ⟨_, _, _, e, _⟩
    · simp at e
    · simp at e; exact e.2.1
  subst hn
  have := (h'.stored j (.string b)).1
  rw [strs_set] at this
  unfold OwnT
  rw [List.length_set]
  exact this
theorem OwnT.some {B : Nat} {w : World} {v : Value} {x : List ByteArray} (h : OwnT B w v x) (hx : x ≠ []) : ∃ g cap, v = .slice (some ⟨g, 0, none⟩) x.length cap := by
  rcases h.2 with ⟨rfl, h0⟩ | ⟨g, cap, cur, rfl, _⟩
  · exact absurd (List.eq_nil_of_length_eq_zero h0) hx
  · exact ⟨_, _, rfl⟩
end Go.Proofs.YtogjhpcjjmcjfaaGreatDoor
end
section
/- what is reached of it -/
namespace Go.Proofs.YtogjhpcjjmcjfaaGreatDoor
open Go.RowKit Tx
/-- What the document's decoder hands back: the character and its width, twice 0 where there is none. -/
def Decoded (w : World) (l : List UInt8) (e : Ending) (w' : World) : Prop := e = .returned (.tuple #[.int .i64 (rdc l).1, .int .i64 (rdc l).2]) ∧ w = w'
theorem Decoded.some {w : World} {l : List UInt8} {c n : Nat} (h : rdc l = (c, n)) : Decoded w l (.returned (.tuple #[.int .i64 c, .int .i64 n])) w := ⟨by rw [h], rfl⟩
theorem Decoded.none {w : World} {l : List UInt8} (h : rdc l = (0, 0)) : Decoded w l (.returned (.tuple #[.int .i64 0, .int .i64 0])) w := ⟨by rw [h]; rfl, rfl⟩
/-- What the document's next character is: it may stand in a text; twice 0: none. -/
def Nexted (w : World) (l : List UInt8) (e : Ending) (w' : World) : Prop := e = .returned (.tuple #[.int .i64 (nx l).1, .int .i64 (nx l).2]) ∧ w = w'
theorem Nexted.of {w : World} {l : List UInt8} {c n : Nat} (h : nx l = (c, n)) : Nexted w l (.returned (.tuple #[.int .i64 c, .int .i64 n])) w := ⟨by rw [h], rfl⟩
theorem Nexted.none {w : World} {l : List UInt8} (h : nx l = (0, 0)) : Nexted w l (.returned (.tuple #[.int .i64 0, .int .i64 0])) w := ⟨by rw [h]; rfl, rfl⟩
end Go.Proofs.YtogjhpcjjmcjfaaGreatDoor
end
section
/- what is reached of it -/
namespace Go.Proofs.YtogjhpcjjmcjfaaGreatDoor
open Go.RowKit Tx
/-- how the document's loop stands: o ahead, the rest from k on -/
def PStand (l : List UInt8) (k : Nat) (o : List UInt8) : Prop := plain l = (plain (l.drop k)).map (o ++ ·)
theorem PStand.start (l : List UInt8) : PStand l 0 [] := by unfold PStand; rw [List.drop_zero]; cases plain l <;> rfl
theorem PStand.done {l o : List UInt8} {k : Nat} (h : PStand l k o) (hk : l.length ≤ k) : plain l = some o := by
  unfold PStand at h
  rw [List.drop_eq_nil_of_le hk, plain_nil] at h
  simpa using h
section
variable {s : ByteArray} {k : Nat} {o : List UInt8}
theorem PStand.last (h : PStand s.data.toList k o) (hk : k < s.size) (h1 : (s[k]'hk) = 92) (h2 : ¬ k + 1 < s.size) : plain s.data.toList = none := by
  unfold PStand at h
  rw [h, drop_step hk, h1, List.drop_eq_nil_of_le (by rw [← Lib.size_eq]; omega), plain_end]
  rfl
theorem PStand.bad (h : PStand s.data.toList k o) (hk : k < s.size) (h1 : (s[k]'hk) = 92) (h2 : k + 1 < s.size) (h3 : unb (s[k + 1]'h2) = none) : plain s.data.toList = none := by
  unfold PStand at h
  rw [h, drop_step hk, h1, drop_step h2, plain_bad _ h3]
  rfl
end
end Go.Proofs.YtogjhpcjjmcjfaaGreatDoor
end
