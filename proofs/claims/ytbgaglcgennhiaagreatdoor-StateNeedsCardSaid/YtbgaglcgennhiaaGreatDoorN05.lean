import Derived.Test.YtbgaglcgennhiaaGreatDoorN01
import Derived.Test.YtbgaglcgennhiaaGreatDoorN04
import Derived.Shelf.SlicesQ.Reverse
import Derived.Laws.AppendOwn
import Derived.Deep.QuietTactic
/- what is reached of it -/
namespace Go.Proofs.YtbgaglcgennhiaaGreatDoor.Sy
open Go Go.Proofs Go.Proofs.YtbgaglcgennhiaaGreatDoor Go.RowKit Go.Lib Go.Sort
variable {α : Type} [Inhabited α] {enc : α → List Value} {k : Nat} {W0 W W' : World} {B : Nat} {d : Array α}
/-- What is told of the elements, once. -/
structure Enc (enc : α → List Value) (k : Nat) : Prop where
  hk : ∀ x, (enc x).length = k
  h1 : ∀ x, ∀ v ∈ enc x, v.oneCell' = true
/-- W is W0, but for block B, which holds the row d. -/
structure St (enc : α → List Value) (k : Nat) (W0 : World) (B : Nat) (d : Array α) (W : World) : Prop where
  grown : W0.grownBy W (some B)
  holds : HoldsK enc k W B 0 d
  lt : B < W0.heap.size

theorem rowK_bndS {α : Type} (d : Array α) (k x : Nat) (hx : x < d.size) : x * k + k ≤ d.size * k := by
  have := Nat.mul_le_mul_right k (show x + 1 ≤ d.size from hx); rwa [Nat.add_mul, Nat.one_mul] at this
theorem holds_setCellsS {W : World} {blk off : Nat} {F : Array Value} (h : Holds id W blk off F) (s : Nat) (vs : List Value) (hs : s + vs.length ≤ F.size) : Holds id (W.setCells blk (off + s) vs) blk off (setMany F s vs) := by
  have e : W.setCells blk (off + s) vs = putRow id W blk off (setMany F s vs) := by
    conv => lhs; rw [← putRow_self id W blk off F h]
    exact setCells_putRow _ _ _ _ _ _ hs
  rw [e]
  exact holds_putRow id W blk off F _ h (by rw [size_setMany])
theorem grown_setS {a w : World} {b : Nat} (h : a.grownBy w (some b)) (i : Nat) (v : Value) : a.grownBy (w.setCell ⟨b, i, none⟩ v) (some b) :=
  ⟨h.os, h.tape, h.output, by rw [World.size_setCell]; exact h.size, fun k hk hne => by rw [Below.heap_setCell w ⟨b, i, none⟩ v k (fun e => hne (by rw [e]))]; exact h.block k hk hne⟩
theorem grown_belowS {a w w' : World} {b : Nat} (h : a.grownBy w (some b)) (hb : Below w.heap.size w w') : a.grownBy w' (some b) :=
  ⟨by rw [hb.os, h.os], by rw [hb.tape, h.tape], by rw [hb.output, h.output], Nat.le_trans h.size hb.size, fun k hk hne => by rw [hb.block k (Nat.lt_of_lt_of_le hk h.size)]; exact h.block k hk hne⟩

theorem Enc.string : Enc (fun s : ByteArray => [Value.string s]) 1 := ⟨fun _ => rfl, fun _ v hv => by simp at hv; subst hv; rfl⟩
theorem holds_below {F : Array Value} (h : Holds id W B 0 F) (hb : Below W.heap.size W W') (hB : B < W.heap.size) : Holds id W' B 0 F := fun j hj => by
  have := h j hj
  exact ⟨by rw [hb.cell (p := ⟨B, 0 + j, none⟩) hB]; exact this.1, by rw [hb.frozen (p := ⟨B, 0 + j, none⟩) hB]; exact this.2⟩
theorem St.ltW (h : St enc k W0 B d W) : B < W.heap.size := Nat.lt_of_lt_of_le h.lt h.grown.size
theorem St.below (h : St enc k W0 B d W) (hb : Below W.heap.size W W') : St enc k W0 B d W' := ⟨grown_belowS h.grown hb, holds_below h.holds hb h.ltW, h.lt⟩
theorem St.drew (h : St enc k W0 B d W) : St enc k W0 B d W.drew := ⟨⟨h.grown.os, h.grown.tape, h.grown.output, h.grown.size, h.grown.block⟩, h.holds, h.lt⟩
theorem St.drewN (h : St enc k W0 B d W) (n : Nat) : St enc k W0 B d (W.drewN n) := ⟨⟨h.grown.os, h.grown.tape, h.grown.output, h.grown.size, h.grown.block⟩, h.holds, h.lt⟩
theorem St.alloc (h : St enc k W0 B d W) (o : Obj) : St enc k W0 B d (W.alloc o) := h.below ((Below.refl _ _).alloc (Nat.le_refl _) _)
theorem grownBy_setCells {a : World} {b : Nat} : ∀ (vs : List Value) (i : Nat) (w : World), a.grownBy w (some b) → a.grownBy (w.setCells b i vs) (some b)
  | [], _, _, h => h
  | v :: r, i, _, h => by rw [World.setCells]; exact grownBy_setCells r (i + 1) _ (grown_setS h i v)
theorem St.swap (h : St enc k W0 B d W) (R : Enc enc k) (i j : Nat) (hi : i < d.size) (hj : j < d.size) :
    St enc k W0 B (swp d i j) ((W.setCells B (i * k) (enc d[j]!)).setCells B (j * k) (enc d[i]!)) := by
  refine ⟨grownBy_setCells _ _ _ (grownBy_setCells _ _ _ h.grown), ?_, h.lt⟩
  have a := holds_setCellsS h.holds (i * k) (enc d[j]!) (by rw [R.hk, size_flatK]; exact rowK_bndS d k i hi)
  have b := holds_setCellsS a (j * k) (enc d[i]!) (by rw [R.hk, size_setMany, size_flatK]; exact rowK_bndS d k j hj)
  rw [Nat.zero_add, Nat.zero_add, setMany_swp enc k R.hk d i j hi hj] at b
  exact b
/-- at strings: cells, one by one -/
theorem St.cell {d : Array ByteArray} (h : St (fun s : ByteArray => [Value.string s]) 1 W0 B d W) (i : Nat) (hi : i < d.size) : W.cell? ⟨B, i, none⟩ = some (.string d[i]!) ∧ W.frozen? ⟨B, i, none⟩ = false := by
  have := HoldsK.cell h.holds hi (c := 0) (by omega)
  simpa using this
theorem St.swapS {d : Array ByteArray} (h : St (fun s : ByteArray => [Value.string s]) 1 W0 B d W) (i j : Nat) (hi : i < d.size) (hj : j < d.size) :
    St (fun s : ByteArray => [Value.string s]) 1 W0 B (swp d i j) ((W.setCell ⟨B, i, none⟩ (.string d[j]!)).setCell ⟨B, j, none⟩ (.string d[i]!)) := by
  have := h.swap Enc.string i j hi hj
  simpa [World.setCells] using this

theorem swp_list (X M Y : List α) (a b : α) (i j : Nat) (hi : i = X.length) (hj : j = X.length + 1 + M.length) : swp (X ++ a :: (M ++ b :: Y)).toArray i j = (X ++ b :: (M ++ a :: Y)).toArray := by
  subst hi; subst hj
  apply Array.ext
  · simp [size_swp]
  · intro t h1 h2
    have g := swp_get (d := (X ++ a :: (M ++ b :: Y)).toArray) (i := X.length) (j := X.length + 1 + M.length) (by simp) (by simp; omega) t
    rw [getElem!_pos _ t h1] at g
    rw [g]
    have hb : ((X ++ a :: (M ++ b :: Y)).toArray)[X.length + 1 + M.length]! = b := by
      rw [getElem!_pos _ _ (by simp; omega)]
      simp only [List.getElem_toArray]
      rw [List.getElem_append_right (by omega), List.getElem_cons, dif_neg (by omega), List.getElem_append_right (by omega)]
      simp only [show X.length + 1 + M.length - X.length - 1 - M.length = 0 by omega, List.getElem_cons_zero]
    have ha : ((X ++ a :: (M ++ b :: Y)).toArray)[X.length]! = a := by
      rw [getElem!_pos _ _ (by simp)]; simp
    have hs : t < (X ++ a :: (M ++ b :: Y)).length := by simpa [size_swp] using h1
    by_cases e1 : t = X.length + 1 + M.length
    · subst e1
      simp only [if_pos, ha]
      simp only [List.getElem_toArray]
      rw [List.getElem_append_right (by omega), List.getElem_cons, dif_neg (by omega), List.getElem_append_right (by omega)]
      simp only [show X.length + 1 + M.length - X.length - 1 - M.length = 0 by omega, List.getElem_cons_zero]
    · rw [if_neg e1]
      by_cases e2 : t = X.length
      · subst e2
        rw [if_pos rfl, hb]; simp
      · rw [if_neg e2, getElem!_pos _ t (by simpa using hs)]
        simp only [List.getElem_toArray]
        by_cases c1 : t < X.length
        · rw [List.getElem_append_left c1, List.getElem_append_left c1]
        · rw [List.getElem_append_right (by omega), List.getElem_append_right (by omega), List.getElem_cons, List.getElem_cons, dif_neg (by omega), dif_neg (by omega)]
          by_cases c2 : t - X.length - 1 < M.length
          · rw [List.getElem_append_left c2, List.getElem_append_left c2]
          · rw [List.getElem_append_right (by omega), List.getElem_append_right (by omega), List.getElem_cons, List.getElem_cons, dif_neg (by omega), dif_neg (by omega)]

structure Bel (w : World) where
  v : World
  h : Below w.heap.size w v
instance (w : World) : Inhabited (Bel w) := ⟨⟨w, Below.refl _ _⟩⟩
theorem wp_region_quiet_bel {P : Program} {id : Nat} {Q : Exit → Act → World → Prop} {a : Act} {w : World} {l : List Oper} (hm : P.follows .mixedOrders = true) (hB : Region.lexB .any l.toArray = true)
    (h : wpQuiet P l.toArray (fun w' => ∃ p : Bel w, w' = p.v) (fun a' => ∀ w', (∃ p : Bel w, w' = p.v) → Q .normal a' w') l a) : (Code.region id l.toArray true).wp P Q a w :=
  wp_region_quiet (C := fun w' => ∃ p : Bel w, w' = p.v) hm hB ⟨⟨w.drew, (Below.refl _ _).drew⟩, rfl⟩ (by simpa using h)
theorem Calls.bel_of {P : Program} {f : FuncId} {args : Array Value} {w : World} {p : Bel w} {v : Value}
    (h : Calls P f args p.v fun e w' => e = .returned v ∧ Below p.v.heap.size p.v w') : Calls P f args p.v fun e w'' => e = .returned v ∧ ∃ q : Bel w, w'' = q.v :=
  h.mono fun _ w' ⟨he, hb⟩ => ⟨he, ⟨w', p.h.trans (hb.mono p.h.size)⟩, rfl⟩
theorem St.bel (h : St enc k W0 B d W) (p : Bel W) : St enc k W0 B d p.v := h.below p.h

def swN (a b : Nat) : Nat → Array α → Array α
  | 0, d => d
  | i + 1, d => swp (swN a b i d) (a + i) (b + i)
theorem size_swN (a b : Nat) : ∀ (i : Nat) (d : Array α), (swN a b i d).size = d.size
  | 0, _ => rfl
  | i + 1, d => by rw [swN, size_swp, size_swN a b i d]
theorem swN_list (X P M Q Y : List α) (n : Nat) (hP : P.length = n) (hQ : Q.length = n) : ∀ i, i ≤ n →
    swN X.length (X.length + P.length + M.length) i (X ++ P ++ M ++ Q ++ Y).toArray = (X ++ Q.take i ++ P.drop i ++ M ++ P.take i ++ Q.drop i ++ Y).toArray
  | 0, _ => by simp [swN]
  | i + 1, h => by
    rw [swN, swN_list X P M Q Y n hP hQ i (by omega)]
    have eP : P.drop i = P[i] :: P.drop (i + 1) := List.drop_eq_getElem_cons (by omega)
    have eQ : Q.drop i = Q[i] :: Q.drop (i + 1) := List.drop_eq_getElem_cons (by omega)
    have tP : P.take (i + 1) = P.take i ++ [P[i]] := by rw [List.take_add_one, List.getElem?_eq_getElem (by omega)]; rfl
    have tQ : Q.take (i + 1) = Q.take i ++ [Q[i]] := by rw [List.take_add_one, List.getElem?_eq_getElem (by omega)]; rfl
    have e1 : X ++ Q.take i ++ P.drop i ++ M ++ P.take i ++ Q.drop i ++ Y = (X ++ Q.take i) ++ P[i] :: ((P.drop (i + 1) ++ M ++ P.take i) ++ Q[i] :: (Q.drop (i + 1) ++ Y)) := by rw [eP, eQ]; simp only [List.append_assoc, List.cons_append]
    rw [e1, swp_list _ _ _ _ _ _ _ (by simp; omega) (by simp; omega), tP, tQ]
    simp only [List.append_assoc, List.cons_append, List.nil_append]
theorem swN_all (X P M Q Y : List α) (n : Nat) (hP : P.length = n) (hQ : Q.length = n) :
    swN X.length (X.length + P.length + M.length) n (X ++ P ++ M ++ Q ++ Y).toArray = (X ++ Q ++ M ++ P ++ Y).toArray := by
  rw [swN_list X P M Q Y n hP hQ n (Nat.le_refl _), List.take_of_length_le (by omega), List.take_of_length_le (by omega), List.drop_eq_nil_of_le (by omega), List.drop_eq_nil_of_le (by omega)]
  simp
end Go.Proofs.YtbgaglcgennhiaaGreatDoor.Sy
