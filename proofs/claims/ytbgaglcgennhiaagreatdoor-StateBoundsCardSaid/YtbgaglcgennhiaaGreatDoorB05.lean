import Derived.WalkKit
import Derived.Lib.Hide
import Derived.Test.YtbgaglcgennhiaaGreatDoorB01
import Derived.Shelf.SlicesQ.Reverse
import Derived.Laws.AppendOwn
import Derived.Deep.QuietTactic
import Derived.Test.YtbgaglcgennhiaaGreatDoorRows
import Derived.WalkSpells
import Derived.WalkLawsBesides
import Derived.BigQuiet
import Derived.Test.YtbgaglcgennhiaaGreatDoorB04
import Derived.Laws.IdiomStrings
import Derived.Laws.Cover4
import Derived.Test.YtbgaglcgennhiaaGreatDoorShelf
import Derived.Deep.RegionLaw
section
/- what is reached of it -/
namespace Go.Proofs.YtbgaglcgennhiaaGreatDoor
open Go.RowKit
/-- Block g of w holds just these cells, none of them frozen. -/
def Bk (w : World) (g : Nat) (t : TypeId) (cs : Array Value) : Prop := w.heap[g]? = some (.cells cs t (0, 0))
namespace Bk
variable {w w' : World} {g : Nat} {t : TypeId} {cs : Array Value}
theorem lt (h : Bk w g t cs) : g < w.heap.size := lt_of_block h
theorem cell (h : Bk w g t cs) (i : Nat) : w.cell? ⟨g, i, none⟩ = cs[i]? := cell_of_row w g i cs t (0, 0) h
theorem free (h : Bk w g t cs) (i : Nat) : w.frozen? ⟨g, i, none⟩ = false := by
  have e : w.heap[g]? = some (.cells cs t (0, 0)) := h
  simp [World.frozen?, e]
theorem new (w : World) (t : TypeId) (cs : Array Value) : Bk (w.alloc (.cells cs t)) w.heap.size t cs := heap_alloc_new w _
theorem new1 (w : World) (o : Obj) (t : TypeId) (cs : Array Value) : Bk ((w.alloc o).alloc (.cells cs t)) (w.heap.size + 1) t cs := by
  have h := new (w.alloc o) t cs
  rwa [World.size_alloc] at h
theorem new2 (w : World) (o p : Obj) (t : TypeId) (cs : Array Value) : Bk (((w.alloc o).alloc p).alloc (.cells cs t)) (w.heap.size + 1 + 1) t cs := by
  have h := new ((w.alloc o).alloc p) t cs
  rwa [World.size_alloc, World.size_alloc] at h
theorem alloc (h : Bk w g t cs) (o : Obj) : Bk (w.alloc o) g t cs := (Below.heap_alloc w o g h.lt).trans h
theorem drew (h : Bk w g t cs) : Bk w.drew g t cs := h
theorem far (h : Bk w g t cs) {p : Addr} (hp : g ≠ p.block) (u : Value) : Bk (w.setCell p u) g t cs := (Below.heap_setCell w p u g hp).trans h
theorem put (h : Bk w g t cs) (i : Nat) (u : Value) : Bk (w.setCell ⟨g, i, none⟩ u) g t (cs.setIfInBounds i u) := by
  have e : w.heap[g]? = some (.cells cs t (0, 0)) := h
  show (w.heap.modify g _)[g]? = _
  simp [Array.getElem?_modify, e]
theorem two {a b : Value} (h : Bk w g t #[a, b]) (u v : Value) : Bk ((w.setCell ⟨g, 0, none⟩ u).setCell ⟨g, 1, none⟩ v) g t #[u, v] := by
  have := (h.put 0 u).put 1 v
  simpa using this
theorem below {B : Nat} (h : Bk w g t cs) (hb : Below B w w') (hg : g < B) : Bk w' g t cs := (hb.block g hg).trans h
theorem grown {row : Option Nat} (h : Bk w g t cs) (hb : w.grownBy w' row) (hg : some g ≠ row) : Bk w' g t cs := (hb.block g h.lt hg).trans h
end Bk
theorem ret_bool {a b : Bool} (h : a = b) : Ending.returned (.bool a) = .returned (.bool b) := by rw [h]
theorem add_at (g o i : Nat) : (⟨g, o, none⟩ : Addr).add i = ⟨g, o + i, none⟩ := by unfold Addr.add; split <;> simp_all
theorem addBlock (a : Addr) (i : Nat) : (a.add i).block = a.block := by unfold Addr.add; split <;> rfl
end Go.Proofs.YtbgaglcgennhiaaGreatDoor
end
section
/- what is reached of it -/
namespace Go.Proofs.YtbgaglcgennhiaaGreatDoor.Sy
open Go Go.Proofs Go.Proofs.YtbgaglcgennhiaaGreatDoor Go.RowKit Go.Lib Go.Sort
variable {α : Type} [Inhabited α] {enc : α → List Value} {k : Nat} {W0 W W' : World} {B : Nat} {d : Array α}
/-- What is told of the elements, once. -/
structure Enc (enc : α → List Value) (k : Nat) : Prop where
  hk : ∀ x, (enc x).length = k
  h1 : ∀ x, ∀ v ∈ enc x, v.oneCell' = true
/-- W is W0, but for block B, which holds the row d. -/
structure St (enc : α → List Value) (k : Nat) (W0 : World) (B : Nat) (d : Array α) (W : World) : Prop where
  grown : W0.grownBy W (some B)
  holds : HoldsK enc k W B 0 d
  lt : B < W0.heap.size

theorem rowK_bndS {α : Type} (d : Array α) (k x : Nat) (hx : x < d.size) : x * k + k ≤ d.size * k := by
  have := Nat.mul_le_mul_right k (show x + 1 ≤ d.size from hx); rwa [Nat.add_mul, Nat.one_mul] at this
theorem holds_setCellsS {W : World} {blk off : Nat} {F : Array Value} (h : Holds id W blk off F) (s : Nat) (vs : List Value) (hs : s + vs.length ≤ F.size) : Holds id (W.setCells blk (off + s) vs) blk off (setMany F s vs) := by
  have e : W.setCells blk (off + s) vs = putRow id W blk off (setMany F s vs) := by
    conv => lhs; rw [← putRow_self id W blk off F h]
    exact setCells_putRow _ _ _ _ _ _ hs
  rw [e]
  exact holds_putRow id W blk off F _ h (by rw [size_setMany])
theorem grown_setS {a w : World} {b : Nat} (h : a.grownBy w (some b)) (i : Nat) (v : Value) : a.grownBy (w.setCell ⟨b, i, none⟩ v) (some b) :=
  ⟨h.os, h.tape, h.output, by rw [World.size_setCell]; exact h.size, fun k hk hne => by rw [Below.heap_setCell w ⟨b, i, none⟩ v k (fun e => hne (by rw [e]))]; exact h.block k hk hne⟩
theorem grown_belowS {a w w' : World} {b : Nat} (h : a.grownBy w (some b)) (hb : Below w.heap.size w w') : a.grownBy w' (some b) :=
  ⟨by rw [hb.os, h.os], by rw [hb.tape, h.tape], by rw [hb.output, h.output], Nat.le_trans h.size hb.size, fun k hk hne => by rw [hb.block k (Nat.lt_of_lt_of_le hk h.size)]; exact h.block k hk hne⟩

theorem Enc.string : Enc (fun s : ByteArray => [Value.string s]) 1 := ⟨fun _ => rfl, fun _ v hv => by simp at hv; subst hv; rfl⟩
theorem holds_below {F : Array Value} (h : Holds id W B 0 F) (hb : Below W.heap.size W W') (hB : B < W.heap.size) : Holds id W' B 0 F := fun j hj => by
  have := h j hj
  exact ⟨by rw [hb.cell (p := ⟨B, 0 + j, none⟩) hB]; exact this.1, by rw [hb.frozen (p := ⟨B, 0 + j, none⟩) hB]; exact this.2⟩
theorem St.ltW (h : St enc k W0 B d W) : B < W.heap.size := Nat.lt_of_lt_of_le h.lt h.grown.size
theorem St.below (h : St enc k W0 B d W) (hb : Below W.heap.size W W') : St enc k W0 B d W' := ⟨grown_belowS h.grown hb, holds_below h.holds hb h.ltW, h.lt⟩
theorem St.drew (h : St enc k W0 B d W) : St enc k W0 B d W.drew := ⟨⟨h.grown.os, h.grown.tape, h.grown.output, h.grown.size, h.grown.block⟩, h.holds, h.lt⟩
theorem St.drewN (h : St enc k W0 B d W) (n : Nat) : St enc k W0 B d (W.drewN n) := ⟨⟨h.grown.os, h.grown.tape, h.grown.output, h.grown.size, h.grown.block⟩, h.holds, h.lt⟩
theorem St.alloc (h : St enc k W0 B d W) (o : Obj) : St enc k W0 B d (W.alloc o) := h.below ((Below.refl _ _).alloc (Nat.le_refl _) _)
theorem grownBy_setCells {a : World} {b : Nat} : ∀ (vs : List Value) (i : Nat) (w : World), a.grownBy w (some b) → a.grownBy (w.setCells b i vs) (some b)
  | [], _, _, h => h
  | v :: r, i, _, h => by rw [World.setCells]; exact grownBy_setCells r (i + 1) _ (grown_setS h i v)
theorem St.swap (h : St enc k W0 B d W) (R : Enc enc k) (i j : Nat) (hi : i < d.size) (hj : j < d.size) :
    St enc k W0 B (swp d i j) ((W.setCells B (i * k) (enc d[j]!)).setCells B (j * k) (enc d[i]!)) := by
  refine ⟨grownBy_setCells _ _ _ (grownBy_setCells _ _ _ h.grown), ?_, h.lt⟩
  have a := holds_setCellsS h.holds (i * k) (enc d[j]!) (by rw [R.hk, size_flatK]; exact rowK_bndS d k i hi)
  have b := holds_setCellsS a (j * k) (enc d[i]!) (by rw [R.hk, size_setMany, size_flatK]; exact rowK_bndS d k j hj)
  rw [Nat.zero_add, Nat.zero_add, setMany_swp enc k R.hk d i j hi hj] at b
  exact b
/-- at strings: cells, one by one -/
theorem St.cell {d : Array ByteArray} (h : St (fun s : ByteArray => [Value.string s]) 1 W0 B d W) (i : Nat) (hi : i < d.size) : W.cell? ⟨B, i, none⟩ = some (.string d[i]!) ∧ W.frozen? ⟨B, i, none⟩ = false := by
  have := HoldsK.cell h.holds hi (c := 0) (by omega)
  simpa using this
theorem St.swapS {d : Array ByteArray} (h : St (fun s : ByteArray => [Value.string s]) 1 W0 B d W) (i j : Nat) (hi : i < d.size) (hj : j < d.size) :
    St (fun s : ByteArray => [Value.string s]) 1 W0 B (swp d i j) ((W.setCell ⟨B, i, none⟩ (.string d[j]!)).setCell ⟨B, j, none⟩ (.string d[i]!)) := by
  have := h.swap Enc.string i j hi hj
  simpa [World.setCells] using this

theorem swp_list (X M Y : List α) (a b : α) (i j : Nat) (hi : i = X.length) (hj : j = X.length + 1 + M.length) : swp (X ++ a :: (M ++ b :: Y)).toArray i j = (X ++ b :: (M ++ a :: Y)).toArray := by
  subst hi; subst hj
  apply Array.ext
  · simp [size_swp]
  · intro t h1 h2
    have g := swp_get (d := (X ++ a :: (M ++ b :: Y)).toArray) (i := X.length) (j := X.length + 1 + M.length) (by simp) (by simp; omega) t
    rw [getElem!_pos _ t h1] at g
    rw [g]
    have hb : ((X ++ a :: (M ++ b :: Y)).toArray)[X.length + 1 + M.length]! = b := by
      rw [getElem!_pos _ _ (by simp; omega)]
      simp only [List.getElem_toArray]
      rw [List.getElem_append_right (by omega), List.getElem_cons, dif_neg (by omega), List.getElem_append_right (by omega)]
      simp only [show X.length + 1 + M.length - X.length - 1 - M.length = 0 by omega, List.getElem_cons_zero]
    have ha : ((X ++ a :: (M ++ b :: Y)).toArray)[X.length]! = a := by
      rw [getElem!_pos _ _ (by simp)]; simp
    have hs : t < (X ++ a :: (M ++ b :: Y)).length := by simpa [size_swp] using h1
    by_cases e1 : t = X.length + 1 + M.length
    · subst e1
      simp only [if_pos, ha]
      simp only [List.getElem_toArray]
      rw [List.getElem_append_right (by omega), List.getElem_cons, dif_neg (by omega), List.getElem_append_right (by omega)]
      simp only [show X.length + 1 + M.length - X.length - 1 - M.length = 0 by omega, List.getElem_cons_zero]
    · rw [if_neg e1]
      by_cases e2 : t = X.length
      · subst e2
        rw [if_pos rfl, hb]; simp
      · rw [if_neg e2, getElem!_pos _ t (by simpa using hs)]
        simp only [List.getElem_toArray]
        by_cases c1 : t < X.length
        · rw [List.getElem_append_left c1, List.getElem_append_left c1]
        · rw [List.getElem_append_right (by omega), List.getElem_append_right (by omega), List.getElem_cons, List.getElem_cons, dif_neg (by omega), dif_neg (by omega)]
          by_cases c2 : t - X.length - 1 < M.length
          · rw [List.getElem_append_left c2, List.getElem_append_left c2]
          · rw [List.getElem_append_right (by omega), List.getElem_append_right (by omega), List.getElem_cons, List.getElem_cons, dif_neg (by omega), dif_neg (by omega)]

structure Bel (w : World) where
  v : World
  h : Below w.heap.size w v
instance (w : World) : Inhabited (Bel w) := ⟨⟨w, Below.refl _ _⟩⟩
theorem wp_region_quiet_bel {P : Program} {id : Nat} {Q : Exit → Act → World → Prop} {a : Act} {w : World} {l : List Oper} (hm : P.follows .mixedOrders = true) (hB : Region.lexB .any l.toArray = true)
    (h : wpQuiet P l.toArray (fun w' => ∃ p : Bel w, w' = p.v) (fun a' => ∀ w', (∃ p : Bel w, w' = p.v) → Q .normal a' w') l a) : (Code.region id l.toArray true).wp P Q a w :=
  wp_region_quiet (C := fun w' => ∃ p : Bel w, w' = p.v) hm hB ⟨⟨w.drew, (Below.refl _ _).drew⟩, rfl⟩ (by simpa using h)
theorem Calls.bel_of {P : Program} {f : FuncId} {args : Array Value} {w : World} {p : Bel w} {v : Value}
    (h : Calls P f args p.v fun e w' => e = .returned v ∧ Below p.v.heap.size p.v w') : Calls P f args p.v fun e w'' => e = .returned v ∧ ∃ q : Bel w, w'' = q.v :=
  h.mono fun _ w' ⟨he, hb⟩ => ⟨he, ⟨w', p.h.trans (hb.mono p.h.size)⟩, rfl⟩
theorem St.bel (h : St enc k W0 B d W) (p : Bel W) : St enc k W0 B d p.v := h.below p.h

def swN (a b : Nat) : Nat → Array α → Array α
  | 0, d => d
  | i + 1, d => swp (swN a b i d) (a + i) (b + i)
theorem size_swN (a b : Nat) : ∀ (i : Nat) (d : Array α), (swN a b i d).size = d.size
  | 0, _ => rfl
  | i + 1, d => by rw [swN, size_swp, size_swN a b i d]
theorem swN_list (X P M Q Y : List α) (n : Nat) (hP : P.length = n) (hQ : Q.length = n) : ∀ i, i ≤ n →
    swN X.length (X.length + P.length + M.length) i (X ++ P ++ M ++ Q ++ Y).toArray = (X ++ Q.take i ++ P.drop i ++ M ++ P.take i ++ Q.drop i ++ Y).toArray
  | 0, _ => by simp [swN]
  | i + 1, h => by
    rw [swN, swN_list X P M Q Y n hP hQ i (by omega)]
    have eP : P.drop i = P[i] :: P.drop (i + 1) := List.drop_eq_getElem_cons (by omega)
    have eQ : Q.drop i = Q[i] :: Q.drop (i + 1) := List.drop_eq_getElem_cons (by omega)
    have tP : P.take (i + 1) = P.take i ++ [P[i]] := by rw [List.take_add_one, List.getElem?_eq_getElem (by omega)]; rfl
    have tQ : Q.take (i + 1) = Q.take i ++ [Q[i]] := by rw [List.take_add_one, List.getElem?_eq_getElem (by omega)]; rfl
    have e1 : X ++ Q.take i ++ P.drop i ++ M ++ P.take i ++ Q.drop i ++ Y = (X ++ Q.take i) ++ P[i] :: ((P.drop (i + 1) ++ M ++ P.take i) ++ Q[i] :: (Q.drop (i + 1) ++ Y)) := by rw [eP, eQ]; simp only [List.append_assoc, List.cons_append]
    rw [e1, swp_list _ _ _ _ _ _ _ (by simp; omega) (by simp; omega), tP, tQ]
    simp only [List.append_assoc, List.cons_append, List.nil_append]
theorem swN_all (X P M Q Y : List α) (n : Nat) (hP : P.length = n) (hQ : Q.length = n) :
    swN X.length (X.length + P.length + M.length) n (X ++ P ++ M ++ Q ++ Y).toArray = (X ++ Q ++ M ++ P ++ Y).toArray := by
  rw [swN_list X P M Q Y n hP hQ n (Nat.le_refl _), List.take_of_length_le (by omega), List.take_of_length_le (by omega), List.drop_eq_nil_of_le (by omega), List.drop_eq_nil_of_le (by omega)]
  simp
end Go.Proofs.YtbgaglcgennhiaaGreatDoor.Sy
end
section
/- what is reached of it -/
namespace Go.Proofs.YtbgaglcgennhiaaGreatDoor
open Go.RowKit
theorem infoInt : (Tryz.prog.info? 3).map (fun i => (i.zero, i.size, i.bytes)) = some (some (.int .i64 0), 1, 8) := by kernel_rfl

/-- Integers as values. -/
def ints (x : List Nat) : List Value := x.map fun c => .int .i64 (c : Nat)
theorem ints_length (x : List Nat) : (ints x).length = x.length := List.length_map _
theorem ints_snoc (x : List Nat) (c : Nat) : ints (x ++ [c]) = ints x ++ [.int .i64 (c : Nat)] := by simp [ints]
theorem ints_get (x : List Nat) (i : Nat) (h : i < x.length) : (ints x)[i]? = some (.int .i64 (x.getD i 0 : Nat)) := by
  simp [ints, List.getElem?_map, List.getD, List.getElem?_eq_getElem h]
theorem ints_one (a : Nat) : (ints [a]).toArray = #[.int .i64 (a : Nat)] := rfl
theorem ints_two (a b : Nat) : (ints [a, b]).toArray = #[.int .i64 (a : Nat), .int .i64 (b : Nat)] := rfl
theorem ints_append (x y : List Nat) : ints (x ++ y) = ints x ++ ints y := by simp [ints]
theorem ints_cells (x : List Nat) : ∀ u ∈ ints x, u.oneCell' = true := by
  intro u hu
  obtain ⟨c, _, rfl⟩ := List.mem_map.1 hu
  rfl
attribute [irreducible] ints
/-- The slice v, made by the call (above block B), holds just the numbers x. -/
def Owned (B : Nat) (w : World) (v : Value) (x : List Nat) : Prop := w.ownsRow B 3 1 v x.length (ints x)
theorem Owned.nil (B : Nat) (w : World) : Owned B w (.slice none 0 0) [] := by
  unfold Owned
  rw [show ints [] = [] from by unfold ints; rfl]
  exact World.ownsRow_nil _ _ _ _
theorem Owned.below {B : Nat} {w w' : World} {v : Value} {x : List Nat} (h : Owned B w v x) (hb : Below w.heap.size w w') : Owned B w' v x := by
  have h' : w.ownsRow B 3 1 v x.length (ints x) := h
  refine h'.kept (w' := w') (row := some w.heap.size) ⟨hb.os, hb.tape, hb.output, hb.size, fun i hi _ => hb.block i hi⟩ ?_
  cases ho : v.ownBlock with
  | none => exact .inl rfl
  | some g => exact .inr (fun e => by have := (h'.lt g ho).2; injection e with e; omega)
/-- behind an append: one number more. -/
def Pushed (B : Nat) (w : World) (x : List Nat) (c : Nat) (e : Ending) (w' : World) : Prop := ∃ v', e = .returned v' ∧ Owned B w' v' (x ++ [c]) ∧ Below B w w'
theorem pushed_of {B : Nat} {w w1 : World} {v v' : Value} {x : List Nat} {c : Nat} {o : Obj} (hown : Owned B w v x) (hB : B ≤ w.heap.size)
    (hown' : w1.ownsRow B 3 1 v' (x.length + 1) (ints x ++ [.int .i64 (c : Nat)])) (hg : (w.alloc o).grownBy w1 v.ownBlock) : Owned B w1 v' (x ++ [c]) ∧ Below B w w1 := by
  refine ⟨by unfold Owned; rw [ints_snoc]; simpa using hown', ?_⟩
  exact ((Below.refl B w).alloc hB o).grown hg (by simp; omega) (fun j hj => (hown.lt j hj).1)

/-- A slice that can be read: it holds just the numbers x, below block B (nil and empty ones too). -/
def Reads (B : Nat) (w : World) (v : Value) (x : List Nat) : Prop :=
  ∃ A cap, v = .slice A x.length cap ∧ (0 < x.length → ∃ ad : Addr, A = some ad ∧ ad.block < B ∧ ∀ i, i < x.length → w.cell? (ad.add i) = some (.int .i64 (x.getD i 0 : Nat)))
theorem Reads.below {B : Nat} {w w' : World} {v : Value} {x : List Nat} (h : Reads B w v x) (hb : Below B w w') : Reads B w' v x := by
  obtain ⟨A, cap, rfl, h2⟩ := h
  refine ⟨A, cap, rfl, fun h0 => ?_⟩
  obtain ⟨ad, rfl, hl, hc⟩ := h2 h0
  refine ⟨ad, rfl, hl, fun i hi => (hb.cell ?_).trans (hc i hi)⟩
  have : (ad.add i).block = ad.block := by unfold Addr.add; split <;> rfl
  omega
theorem Reads.more {B C : Nat} {w : World} {v : Value} {x : List Nat} (h : Reads B w v x) (hB : B ≤ C) : Reads C w v x := by
  obtain ⟨A, cap, rfl, h2⟩ := h
  refine ⟨A, cap, rfl, fun h0 => ?_⟩
  obtain ⟨ad, rfl, hl, hc⟩ := h2 h0
  exact ⟨ad, rfl, by omega, hc⟩
theorem Owned.reads {B : Nat} {w : World} {v : Value} {x : List Nat} (h : Owned B w v x) : Reads w.heap.size w v x := by
  have h' : w.ownsRow B 3 1 v x.length (ints x) := h
  rcases h'.2 with ⟨rfl, h0⟩ | ⟨g, cap, cur, rfl, _, hh, _⟩
  · exact ⟨none, 0, by rw [h0], fun h => absurd h (by omega)⟩
  · refine ⟨_, cap, rfl, fun h0 => ⟨_, rfl, lt_of_block hh, fun i hi => ?_⟩⟩
    exact h'.cells (g := g) rfl i _ (ints_get x i hi)
/-- What an append reads of such a slice: nil, or its cells. -/
theorem Owned.source {B : Nat} {w : World} {v : Value} {x : List Nat} (h : Owned B w v x) {A : Option Addr} {n cap : Nat} (hv : v = .slice A n cap) :
    (A = none ∧ cap = 0 ∧ x = []) ∨ ∃ ad, A = some ad ∧ ∀ j u, (ints x)[j]? = some u → w.cell? (ad.add j) = some u := by
  have h' : w.ownsRow B 3 1 v x.length (ints x) := h
  rcases h'.2 with ⟨hn, h0⟩ | ⟨g, cap', cur, hg, _, hh, _⟩
  · rw [hv] at hn
    injection hn with h1 h2 h3
    exact .inl ⟨h1, h3, List.eq_nil_of_length_eq_zero h0⟩
  · rw [hv] at hg
    injection hg with h1 h2 h3
    exact .inr ⟨_, h1, fun j u hj => h'.cells (g := g) (by rw [hv, h1]; rfl) j u hj⟩
/-- A list that the text writes out. -/
theorem Reads.made (w : World) (t : TypeId) (x : List Nat) (cs : Array Value) (cap n : Nat) (hcs : (ints x).toArray = cs) (hn : x.length = n) : Reads (w.heap.size + 1) (w.alloc (.cells cs t)) (.slice (some ⟨w.heap.size, 0, none⟩) n cap) x := by
  subst hcs
  subst hn
  refine ⟨_, cap, rfl, fun _ => ⟨_, rfl, Nat.lt_succ_self _, fun i hi => ?_⟩⟩
  have hb := Bk.new w t (ints x).toArray
  have := hb.cell i
  have e : (⟨w.heap.size, 0, none⟩ : Addr).add i = ⟨w.heap.size, i, none⟩ := by unfold Addr.add; split <;> simp_all
  rw [e, this, List.getElem?_toArray, ints_get x i hi]
end Go.Proofs.YtbgaglcgennhiaaGreatDoor
end
section
/- what is reached of it -/
namespace Go.Proofs.YtbgaglcgennhiaaGreatDoor.Tx
open Go.Lib
/-- A row of characters, written. -/
def flat (cs : List Nat) : List UInt8 := cs.flatMap enc
theorem flat_nil : flat [] = [] := rfl
theorem flat_append (a b : List Nat) : flat (a ++ b) = flat a ++ flat b := by simp [flat]
theorem flat_one (c : Nat) : flat [c] = enc c := by simp [flat]
/-- Characters that a line may have. -/
def Good (cs : List Nat) : Prop := ∀ c ∈ cs, sane c ∧ okc c = true ∧ 32 ≤ c
theorem Good.nil : Good [] := fun c h => by cases h
theorem Good.take {cs : List Nat} (h : Good cs) (k : Nat) : Good (cs.take k) := fun c hc => h c (List.mem_of_mem_take hc)
theorem Good.drop {cs : List Nat} (h : Good cs) (k : Nat) : Good (cs.drop k) := fun c hc => h c (List.mem_of_mem_drop hc)
attribute [irreducible] flat
end Go.Proofs.YtbgaglcgennhiaaGreatDoor.Tx
end
section
/- what is reached of it -/
namespace Go.Proofs.YtbgaglcgennhiaaGreatDoor
open Go.RowKit
theorem below_drewNP (w : World) (n : Nat) : Below w.heap.size w (w.drewN n) := ⟨rfl, rfl, rfl, Nat.le_refl _, fun _ _ => rfl⟩
/-- Go's own bound on a search, whatever it be -/
def MaxL (w : World) : Prop := ∃ m, w.cell? ⟨0, 0, none⟩ = some (.int .i64 m)
theorem MaxL.below {w w' : World} (h : MaxL w) (hb : Below w.heap.size w w') : MaxL w' := by
  obtain ⟨m, hm⟩ := h
  refine ⟨m, ?_⟩
  rw [hb.cell (p := ⟨0, 0, none⟩) (World.block_lt_of_cell? _ _ hm)]
  exact hm
/-- ahead of the first sign c, and behind it -/
theorem cut_one (c : UInt8) : ∀ l : List UInt8, (Lib.cut l [c] = (l, [], false) ∧ ∀ x ∈ l, x ≠ c) ∨ ∃ p r, l = p ++ c :: r ∧ (∀ x ∈ p, x ≠ c) ∧ Lib.cut l [c] = (p, r, true) := by
  intro l
  rcases Lib.index_spec l [c] with ⟨h1, h2⟩ | ⟨i, h1, h2, h3, h4⟩
  · left
    refine ⟨by unfold Lib.cut; rw [h1]; rfl, fun x hx e => ?_⟩
    subst e
    obtain ⟨j, hj, hx⟩ := List.mem_iff_getElem.1 hx
    have := h2 j (by omega)
    unfold Lib.occAt at this
    rw [List.drop_eq_getElem_cons hj, hx] at this
    simp [List.isPrefixOf] at this
  · right
    unfold Lib.occAt at h3
    rw [List.isPrefixOf_iff_prefix] at h3
    obtain ⟨r, hr⟩ := h3
    have hr2 : l.drop i = c :: r := hr.symm
    have hl : l = l.take i ++ c :: r := by rw [← hr2, List.take_append_drop]
    have hr3 : l.drop (i + 1) = r := by
      have := congrArg (List.drop 1) hr2
      simpa [List.drop_drop] using this
    refine ⟨l.take i, r, hl, fun x hx e => ?_, ?_⟩
    · subst e
      obtain ⟨j, hj, hx⟩ := List.mem_iff_getElem.1 hx
      rw [List.length_take] at hj
      have := h4 j (by omega)
      unfold Lib.occAt at this
      rw [List.getElem_take] at hx
      rw [List.drop_eq_getElem_cons (by omega), hx] at this
      simp [List.isPrefixOf] at this
    · unfold Lib.cut
      rw [h1, if_pos (by omega)]
      simp only [Int.toNat_natCast, List.length_singleton]
      rw [hr3]
end Go.Proofs.YtbgaglcgennhiaaGreatDoor
end
section
/- what is reached of it -/
namespace Go.Proofs.YtbgaglcgennhiaaGreatDoor
open Go.RowKit
/-- An attribute: its name, its value. -/
abbrev Att := List UInt8 × List UInt8
theorem Bk.type_ne {w : World} {g T : Nat} {t u : TypeId} {cs ds : Array Value} (h : Bk w g t cs) (k : Bk w T u ds) (hn : t ≠ u) : g ≠ T := fun e => by
  subst e
  have e1 : w.heap[g]? = some (.cells cs t (0, 0)) := h
  have e2 : w.heap[g]? = some (.cells ds u (0, 0)) := k
  rw [e1] at e2
  injection e2 with e2
  injection e2 with _ e2
  exact hn e2
abbrev bts (l : List UInt8) : ByteArray := ⟨l.toArray⟩
/-- u is a slice that can be read: these attributes. -/
def ReadA (w : World) (u : Value) (l : List Att) : Prop := ∃ A cap, u = .slice A l.length cap ∧ (0 < l.length → ∃ ad : Addr, A = some ad ∧ ad.block < w.heap.size ∧ ∀ i a, l[i]? = some a → w.cell? (ad.add (i * 2)) = some (.string (bts a.1)) ∧ w.cell? ⟨(ad.add (i * 2)).block, (ad.add (i * 2)).off + 1, none⟩ = some (.string (bts a.2)))
theorem ReadA.below {w w' : World} {u : Value} {l : List Att} (h : ReadA w u l) (hb : Below w.heap.size w w') : ReadA w' u l := by
  obtain ⟨A, cap, rfl, h2⟩ := h
  refine ⟨A, cap, rfl, fun h0 => ?_⟩
  obtain ⟨ad, rfl, hl, hc⟩ := h2 h0
  refine ⟨ad, rfl, Nat.lt_of_lt_of_le hl hb.size, fun i a hi => ?_⟩
  rw [hb.cell (by rw [addBlock]; exact hl), hb.cell (by show (ad.add (i * 2)).block < _; rw [addBlock]; exact hl)]
  exact hc i a hi
theorem ReadA.one {w : World} {u : Value} {l : List Att} (h : ReadA w u l) : u.oneCell' = true := by
  obtain ⟨A, cap, rfl, _⟩ := h
  rfl
end Go.Proofs.YtbgaglcgennhiaaGreatDoor
end
