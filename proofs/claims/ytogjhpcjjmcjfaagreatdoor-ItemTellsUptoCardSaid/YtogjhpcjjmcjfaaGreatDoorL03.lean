import Derived.WalkKit
import Derived.Lib.Hide
import Derived.Test.YtogjhpcjjmcjfaaGreatDoorRows
import Derived.WalkSpells
import Derived.WalkLawsBesides
import Derived.Deep.QuietTactic
import Derived.BigQuiet
import Derived.Test.YtogjhpcjjmcjfaaGreatDoorL02
import Derived.Laws.IdiomStrings
import Derived.Laws.Cover4
import Derived.Test.YtogjhpcjjmcjfaaGreatDoorL01
import Derived.Test.YtogjhpcjjmcjfaaGreatDoorShelf
import Derived.Lib.SlicesS
import Derived.Laws.AppendOwn
section
/- what is reached of it -/
namespace Go.Proofs.YtogjhpcjjmcjfaaGreatDoor
open Go.RowKit
/-- Block g of w holds just these cells, none of them frozen. -/
def Bk (w : World) (g : Nat) (t : TypeId) (cs : Array Value) : Prop := w.heap[g]? = some (.cells cs t (0, 0))
namespace Bk
variable {w w' : World} {g : Nat} {t : TypeId} {cs : Array Value}
theorem lt (h : Bk w g t cs) : g < w.heap.size := lt_of_block h
theorem cell (h : Bk w g t cs) (i : Nat) : w.cell? ⟨g, i, none⟩ = cs[i]? := cell_of_row w g i cs t (0, 0) h
theorem free (h : Bk w g t cs) (i : Nat) : w.frozen? ⟨g, i, none⟩ = false := by
  have e : w.heap[g]? = some (.cells cs t (0, 0)) := h
  simp [World.frozen?, e]
theorem new (w : World) (t : TypeId) (cs : Array Value) : Bk (w.alloc (.cells cs t)) w.heap.size t cs := heap_alloc_new w _
theorem new1 (w : World) (o : Obj) (t : TypeId) (cs : Array Value) : Bk ((w.alloc o).alloc (.cells cs t)) (w.heap.size + 1) t cs := by
  have h := new (w.alloc o) t cs
  rwa [World.size_alloc] at h
theorem new2 (w : World) (o p : Obj) (t : TypeId) (cs : Array Value) : Bk (((w.alloc o).alloc p).alloc (.cells cs t)) (w.heap.size + 1 + 1) t cs := by
  have h := new ((w.alloc o).alloc p) t cs
  rwa [World.size_alloc, World.size_alloc] at h
theorem alloc (h : Bk w g t cs) (o : Obj) : Bk (w.alloc o) g t cs := (Below.heap_alloc w o g h.lt).trans h
theorem drew (h : Bk w g t cs) : Bk w.drew g t cs := h
theorem far (h : Bk w g t cs) {p : Addr} (hp : g ≠ p.block) (u : Value) : Bk (w.setCell p u) g t cs := (Below.heap_setCell w p u g hp).trans h
theorem put (h : Bk w g t cs) (i : Nat) (u : Value) : Bk (w.setCell ⟨g, i, none⟩ u) g t (cs.setIfInBounds i u) := by
  have e : w.heap[g]? = some (.cells cs t (0, 0)) := h
  show (w.heap.modify g _)[g]? = _
  simp [Array.getElem?_modify, e]
theorem two {a b : Value} (h : Bk w g t #[a, b]) (u v : Value) : Bk ((w.setCell ⟨g, 0, none⟩ u).setCell ⟨g, 1, none⟩ v) g t #[u, v] := by
  have := (h.put 0 u).put 1 v
  simpa using this
theorem below {B : Nat} (h : Bk w g t cs) (hb : Below B w w') (hg : g < B) : Bk w' g t cs := (hb.block g hg).trans h
theorem grown {row : Option Nat} (h : Bk w g t cs) (hb : w.grownBy w' row) (hg : some g ≠ row) : Bk w' g t cs := (hb.block g h.lt hg).trans h
end Bk
theorem ret_bool {a b : Bool} (h : a = b) : Ending.returned (.bool a) = .returned (.bool b) := by rw [h]
theorem add_at (g o i : Nat) : (⟨g, o, none⟩ : Addr).add i = ⟨g, o + i, none⟩ := by unfold Addr.add; split <;> simp_all
theorem addBlock (a : Addr) (i : Nat) : (a.add i).block = a.block := by unfold Addr.add; split <;> rfl
theorem take_succ_same {α : Type} {x y : List α} {k : Nat} {a b : α} (hx : x[k]? = some a) (hy : y[k]? = some b) (h : x.take k = y.take k) (hk : a = b) : x.take (k + 1) = y.take (k + 1) := by
  rw [List.take_add_one, List.take_add_one, h, hx, hy, hk]
/-- an append whose run is known -/
theorem wp_append_run {P : Program} {w w' : World} {o : Oper} {a : Act} {K : Act → World → Prop} {Q : Exit → Act → World → Prop} (s x : Operand) (t : TypeId) (ho : o.op = .call { callee := .builtin .append, args := #[s, x], argTypes := #[t, t] })
    {v u v' : Value} (hs : a.eval s = v) (hx : a.eval x = u) (hrun : (Builtin.append_ #[t, t] o.type #[v, u]).run P w = .ok v' w') (h : K (a.put o.dst v') w') : o.wp P a w K Q := by
  unfold Oper.wp
  simp [execOp, ho, resolve, invoke, builtin, hs, hx, hrun, Result.andThen]
  exact h
end Go.Proofs.YtogjhpcjjmcjfaaGreatDoor
end
section
/- what is reached of it -/
namespace Go.Proofs.YtogjhpcjjmcjfaaGreatDoor
open Go.RowKit
theorem infoInt : (Tryz.prog.info? 3).map (fun i => (i.zero, i.size, i.bytes)) = some (some (.int .i64 0), 1, 8) := by kernel_rfl

/-- Integers as values. -/
def ints (x : List Nat) : List Value := x.map fun c => .int .i64 (c : Nat)
theorem ints_length (x : List Nat) : (ints x).length = x.length := List.length_map _
theorem ints_snoc (x : List Nat) (c : Nat) : ints (x ++ [c]) = ints x ++ [.int .i64 (c : Nat)] := by simp [ints]
theorem ints_get (x : List Nat) (i : Nat) (h : i < x.length) : (ints x)[i]? = some (.int .i64 (x.getD i 0 : Nat)) := by
  simp [ints, List.getElem?_map, List.getD, List.getElem?_eq_getElem h]
theorem ints_one (a : Nat) : (ints [a]).toArray = #[.int .i64 (a : Nat)] := rfl
theorem ints_two (a b : Nat) : (ints [a, b]).toArray = #[.int .i64 (a : Nat), .int .i64 (b : Nat)] := rfl
theorem ints_append (x y : List Nat) : ints (x ++ y) = ints x ++ ints y := by simp [ints]
theorem ints_cells (x : List Nat) : ∀ u ∈ ints x, u.oneCell' = true := by
  intro u hu
  obtain ⟨c, _, rfl⟩ := List.mem_map.1 hu
  rfl
attribute [irreducible] ints
/-- The slice v, made by the call (above block B), holds just the numbers x. -/
def Owned (B : Nat) (w : World) (v : Value) (x : List Nat) : Prop := w.ownsRow B 3 1 v x.length (ints x)
theorem Owned.nil (B : Nat) (w : World) : Owned B w (.slice none 0 0) [] := by
  unfold Owned
  rw [show ints [] = [] from by unfold ints; rfl]
  exact World.ownsRow_nil _ _ _ _
theorem Owned.below {B : Nat} {w w' : World} {v : Value} {x : List Nat} (h : Owned B w v x) (hb : Below w.heap.size w w') : Owned B w' v x := by
  have h' : w.ownsRow B 3 1 v x.length (ints x) := h
  refine h'.kept (w' := w') (row := some w.heap.size) ⟨hb.os, hb.tape, hb.output, hb.size, fun i hi _ => hb.block i hi⟩ ?_
  cases ho : v.ownBlock with
  | none => exact .inl rfl
  | some g => exact .inr (fun e => by have := (h'.lt g ho).2; injection e with e; omega)
/-- behind an append: one number more. -/
def Pushed (B : Nat) (w : World) (x : List Nat) (c : Nat) (e : Ending) (w' : World) : Prop := ∃ v', e = .returned v' ∧ Owned B w' v' (x ++ [c]) ∧ Below B w w'
theorem pushed_of {B : Nat} {w w1 : World} {v v' : Value} {x : List Nat} {c : Nat} {o : Obj} (hown : Owned B w v x) (hB : B ≤ w.heap.size)
    (hown' : w1.ownsRow B 3 1 v' (x.length + 1) (ints x ++ [.int .i64 (c : Nat)])) (hg : (w.alloc o).grownBy w1 v.ownBlock) : Owned B w1 v' (x ++ [c]) ∧ Below B w w1 := by
  refine ⟨by unfold Owned; rw [ints_snoc]; simpa using hown', ?_⟩
  exact ((Below.refl B w).alloc hB o).grown hg (by simp; omega) (fun j hj => (hown.lt j hj).1)

/-- A slice that can be read: it holds just the numbers x, below block B (nil and empty ones too). -/
def Reads (B : Nat) (w : World) (v : Value) (x : List Nat) : Prop :=
  ∃ A cap, v = .slice A x.length cap ∧ (0 < x.length → ∃ ad : Addr, A = some ad ∧ ad.block < B ∧ ∀ i, i < x.length → w.cell? (ad.add i) = some (.int .i64 (x.getD i 0 : Nat)))
theorem Reads.below {B : Nat} {w w' : World} {v : Value} {x : List Nat} (h : Reads B w v x) (hb : Below B w w') : Reads B w' v x := by
  obtain ⟨A, cap, rfl, h2⟩ := h
  refine ⟨A, cap, rfl, fun h0 => ?_⟩
  obtain ⟨ad, rfl, hl, hc⟩ := h2 h0
  refine ⟨ad, rfl, hl, fun i hi => (hb.cell ?_).trans (hc i hi)⟩
  have : (ad.add i).block = ad.block := by unfold Addr.add; split <;> rfl
  omega
theorem Reads.more {B C : Nat} {w : World} {v : Value} {x : List Nat} (h : Reads B w v x) (hB : B ≤ C) : Reads C w v x := by
  obtain ⟨A, cap, rfl, h2⟩ := h
  refine ⟨A, cap, rfl, fun h0 => ?_⟩
  obtain ⟨ad, rfl, hl, hc⟩ := h2 h0
  exact ⟨ad, rfl, by omega, hc⟩
theorem Owned.reads {B : Nat} {w : World} {v : Value} {x : List Nat} (h : Owned B w v x) : Reads w.heap.size w v x := by
  have h' : w.ownsRow B 3 1 v x.length (ints x) := h
  rcases h'.2 with ⟨rfl, h0⟩ | ⟨g, cap, cur, rfl, _, hh, _⟩
  · exact ⟨none, 0, by rw [h0], fun h => absurd h (by omega)⟩
  · refine ⟨_, cap, rfl, fun h0 => ⟨_, rfl, lt_of_block hh, fun i hi => ?_⟩⟩
    exact h'.cells (g := g) rfl i _ (ints_get x i hi)
/-- What an append reads of such a slice: nil, or its cells. -/
theorem Owned.source {B : Nat} {w : World} {v : Value} {x : List Nat} (h : Owned B w v x) {A : Option Addr} {n cap : Nat} (hv : v = .slice A n cap) :
    (A = none ∧ cap = 0 ∧ x = []) ∨ ∃ ad, A = some ad ∧ ∀ j u, (ints x)[j]? = some u → w.cell? (ad.add j) = some u := by
  have h' : w.ownsRow B 3 1 v x.length (ints x) := h
  rcases h'.2 with ⟨hn, h0⟩ | ⟨g, cap', cur, hg, _, hh, _⟩
  · rw [hv] at hn
    injection hn with h1 h2 h3
    exact .inl ⟨h1, h3, List.eq_nil_of_length_eq_zero h0⟩
  · rw [hv] at hg
    injection hg with h1 h2 h3
    exact .inr ⟨_, h1, fun j u hj => h'.cells (g := g) (by rw [hv, h1]; rfl) j u hj⟩
/-- A list that the text writes out. -/
theorem Reads.made (w : World) (t : TypeId) (x : List Nat) (cs : Array Value) (cap n : Nat) (hcs : (ints x).toArray = cs) (hn : x.length = n) : Reads (w.heap.size + 1) (w.alloc (.cells cs t)) (.slice (some ⟨w.heap.size, 0, none⟩) n cap) x := by
  subst hcs
  subst hn
  refine ⟨_, cap, rfl, fun _ => ⟨_, rfl, Nat.lt_succ_self _, fun i hi => ?_⟩⟩
  have hb := Bk.new w t (ints x).toArray
  have := hb.cell i
  have e : (⟨w.heap.size, 0, none⟩ : Addr).add i = ⟨w.heap.size, i, none⟩ := by unfold Addr.add; split <;> simp_all
  rw [e, this, List.getElem?_toArray, ints_get x i hi]
end Go.Proofs.YtogjhpcjjmcjfaaGreatDoor
end
section
/- what is reached of it -/
namespace Go.Proofs.YtogjhpcjjmcjfaaGreatDoor.Tx
open Go.Lib
/-- A row of characters, written. -/
def flat (cs : List Nat) : List UInt8 := cs.flatMap enc
theorem flat_nil : flat [] = [] := rfl
theorem flat_append (a b : List Nat) : flat (a ++ b) = flat a ++ flat b := by simp [flat]
theorem flat_one (c : Nat) : flat [c] = enc c := by simp [flat]
/-- Characters that a line may have. -/
def Good (cs : List Nat) : Prop := ∀ c ∈ cs, sane c ∧ okc c = true ∧ 32 ≤ c
theorem Good.nil : Good [] := fun c h => by cases h
theorem Good.take {cs : List Nat} (h : Good cs) (k : Nat) : Good (cs.take k) := fun c hc => h c (List.mem_of_mem_take hc)
theorem Good.drop {cs : List Nat} (h : Good cs) (k : Nat) : Good (cs.drop k) := fun c hc => h c (List.mem_of_mem_drop hc)
attribute [irreducible] flat
end Go.Proofs.YtogjhpcjjmcjfaaGreatDoor.Tx
end
section
/- what is reached of it -/
namespace Go.Proofs.YtogjhpcjjmcjfaaGreatDoor
open Go.RowKit Tx
/-- The library's two tables of UTF-8. -/
def Tabs (w : World) : Prop := Lib.Utf8Tabs 1 2 w
theorem Tabs.below {w w' : World} (h : Tabs w) (hb : Below w.heap.size w w') : Tabs w' := Utf8Tabs_below h hb

theorem dc_go (s : ByteArray) (hs : s.data.toList ≠ []) : Lib.decodeGo s = dc s.data.toList := by
  have hz : s.size ≠ 0 := by
    intro e
    exact hs (List.eq_nil_of_length_eq_zero (by rw [← Lib.size_eq]; exact e))
  have g : ∀ i, (s.get! i) = s.data.toList.getD i 0 := fun i => by
    cases s with
    | mk d =>
      show d[i]! = d.toList.getD i 0
      by_cases h : i < d.size
      · rw [getElem!_pos d i h]; simp [List.getD, h]
      · rw [getElem!_neg d i h]; simp [List.getD, h]; rfl
  unfold Lib.decodeGo
  rw [if_neg hz, Lib.decode_at, Nat.sub_zero, g, g, g, g, Lib.size_eq, dc_eq]

theorem dec_any (s : ByteArray) (c n : Nat) (w : World) (hs : s.data.toList ≠ []) (hd : Hid (dc s.data.toList = (c, n))) (ht : Tabs w) :
    Calls Tryz.prog 92 #[.string s] w fun e w' => e = .returned (.tuple #[.int .i32 c, .int .i64 n]) ∧ Below w.heap.size w w' := by
  refine (Tryz.utf8_DecodeRuneInString s w ht).mono fun e w' ⟨he, hb⟩ => ?_
  rw [dc_go s hs, hd.out] at he
  exact ⟨he, hb⟩

set_option maxHeartbeats 400000 in
theorem longer_any (a l c : Nat) (w : World) (ha : a < 1000000000000000) (hl : l < 1000000000000000) :
    Calls Tryz.prog 76 #[.agg #[.int .i64 a, .int .i64 l], .int .i32 c] w fun e w' => e = .returned (.agg #[.int .i64 (a + 1 : Nat), .int .i64 (if c < 32 then l + 1 else l : Nat)]) ∧ Below w.heap.size w w' := by
  by_cases hc : c < 32
  · rw [if_pos hc]
    go_enter Tryz.func76, Tryz.ntmps76
    go_wp2
    exact bodyPost_ret (v := .agg #[.int .i64 (a + 1 : Nat), .int .i64 (l + 1 : Nat)]) (by simp [results, Tryz.results76, go_sem]) rfl ⟨rfl, ((Below.refl _ _).alloc (Nat.le_refl _) _).alloc (by simp) _⟩
  · rw [if_neg hc]
    go_enter Tryz.func76, Tryz.ntmps76
    go_wp2
    exact bodyPost_ret (v := .agg #[.int .i64 (a + 1 : Nat), .int .i64 l]) (by simp [results, Tryz.results76, go_sem]) rfl ⟨rfl, ((Below.refl _ _).alloc (Nat.le_refl _) _).alloc (by simp) _⟩

theorem okc_int (c : Nat) : okc c = ((c : Int) == 9 || (c : Int) == 10 || (c : Int) == 13 || (decide ((32 : Int) ≤ c) && !((c : Int) == 65534) && !((c : Int) == 65535))) := by
  rw [okc_eq, Bool.eq_iff_iff]
  simp
  omega
set_option maxHeartbeats 400000 in
theorem allowed_any (c : Nat) (w : World) :
    Calls Tryz.prog 93 #[.int .i32 c] w fun e w' => e = .returned (.bool (okc c)) ∧ w = w' := by
  rw [okc_int]
  obtain ⟨z, hz⟩ : ∃ z : Int, (c : Int) = z := ⟨_, rfl⟩
  rw [hz]
  clear hz
  go_enter Tryz.func93, Tryz.ntmps93
  go_wp2
  all_goals (go_ret; refine ⟨ret_bool ?_, rfl⟩; simp [*])

/-- What a text's characters make: how many there are, how many of them below the blank. -/
def spanOf (l : List UInt8) : Value := match ch l with
  | some x => .tuple #[.agg #[.int .i64 x.length, .int .i64 (low x)], .bool true]
  | none => .tuple #[.agg #[.int .i64 0, .int .i64 0], .bool false]
theorem spanOf_some {l : List UInt8} {x : List Nat} (h : ch l = some x) : spanOf l = .tuple #[.agg #[.int .i64 x.length, .int .i64 (low x)], .bool true] := by unfold spanOf; rw [h]
theorem spanOf_none {l : List UInt8} (h : ch l = none) : spanOf l = .tuple #[.agg #[.int .i64 0, .int .i64 0], .bool false] := by unfold spanOf; rw [h]

set_option maxHeartbeats 1000000 in
theorem walk_span (s : ByteArray) (w : World) (hT : Tabs w) (hs : s.size ≤ 140737488355328) :
    Calls Tryz.prog 75 #[.string s, .func (.func 76) #[] #[]] w fun e w' => e = .returned (spanOf s.data.toList) ∧ Below w.heap.size w w' := by
  go_enter Tryz.func75, Tryz.ntmps75
  go_wp2_with fail
  go_loopw [8] (fun at_ wr => ∃ (k : Nat) (x : List Nat), k ≤ s.size ∧ at_ = .int .i64 k ∧ x.length ≤ k ∧ At s.data.toList k x ∧
      Bk wr w.heap.size 90 #[.int .i64 0, .int .i64 0] ∧ Bk wr (w.heap.size + 1) 90 #[.int .i64 x.length, .int .i64 (low x)] ∧
      Bk wr (w.heap.size + 1 + 1) 90 #[.int .i64 0, .int .i64 0] ∧ Below w.heap.size w wr) (fun at_ _ => s.size - (intOf at_).toNat)
  case atStart =>
    refine ⟨0, [], Nat.zero_le _, rfl, Nat.le_refl _, At.start _, ((Bk.new _ _ _).alloc _).alloc _, ?_, Bk.new2 _ _ _ _ _, ?_⟩
    · rw [low_nil]; exact (Bk.new1 _ _ _ _).alloc _
    · exact (((Below.refl _ _).alloc (Nat.le_refl _) _).alloc (by simp) _).alloc (by simp; omega) _
  case round =>
    obtain ⟨k, x, hk, rfl, hx, hat, B0, B1, B2, hb⟩ := hrel
    have hlow := low_le x
    have hsz := Lib.hid (Lib.size_eq s)
    have hsw := hb.size
    have l0 := B0.lt
    have l1 := B1.lt
    have l2 := B2.lt
    by_cases hlt : k < s.size
    · have hlt' : k < s.data.toList.length := by rw [← hsz.out]; exact hlt
      have hne := drop_ne hlt'
      obtain ⟨c, n, hd, hn1, hn2, hc1⟩ : ∃ c n, Hid (dc (s.data.toList.drop k) = (c, n)) ∧ 1 ≤ n ∧ k + n ≤ s.size ∧ c ≤ 1114111 := by
        refine ⟨_, _, Lib.hid rfl, dc_ge1 _, ?_, dc_rune _⟩
        have := dc_le hne; rw [List.length_drop, ← hsz.out] at this; omega
      have hext := Lib.hid (Lib.extract_to_end s k)
      go_wp2_with fail
      refine (dec_any _ c n wr (by rw [hext.out]; exact hne) (by unfold Hid; rw [hext.out]; exact hd.out) (hT.below hb)).mono ?_
      rintro e w1 ⟨rfl, hb1⟩
      have C0 := B0.below hb1 l0
      have C1 := B1.below hb1 l1
      have C2 := B2.below hb1 l2
      have hbw : Below w.heap.size w w1 := hb.trans (hb1.mono hsw)
      have hs1 := hb1.size
      clear B0 B1 B2
      have nxe : Hid (nx (s.data.toList.drop k) = if (c == 65533 && n == 1 || !okc c) then (0, 0) else (c, n)) := by unfold Hid; rw [nx_eq, hd.out]
      have c20 := C2.cell 0
      have c21 := C2.cell 1
      have f00 := C0.free 0
      have f01 := C0.free 1
      have c00 := C0.cell 0
      have c01 := C0.cell 1
      have c10 := C1.cell 0
      have c11 := C1.cell 1
      have f10 := C1.free 0
      have f11 := C1.free 1
      simp only [Nat.reduceLT, List.size_toArray, List.length_cons, List.length_nil, getElem?_pos, Nat.reduceAdd, List.getElem_toArray, List.getElem_cons_zero, List.getElem_cons_succ] at c20 c21 c00 c01 c10 c11
      have r0 := ((C0.put 0 (.int .i64 0)).put 1 (.int .i64 0)).cell 0
      have r1 := ((C0.put 0 (.int .i64 0)).put 1 (.int .i64 0)).cell 1
      simp only [List.setIfInBounds_toArray, List.set_cons_zero, List.set_cons_succ, Nat.reduceLT, List.size_toArray, List.length_cons, List.length_nil, getElem?_pos, Nat.reduceAdd, List.getElem_toArray, List.getElem_cons_zero, List.getElem_cons_succ] at r0 r1
      have fin : ∀ h : Hid (ch s.data.toList = none), spanOf s.data.toList = .tuple #[.agg #[.int .i64 0, .int .i64 0], .bool false] := fun h => spanOf_none h.out
      by_cases hbad : (c == 65533 && n == 1) = true
      · simp only [Bool.and_eq_true, beq_iff_eq] at hbad
        obtain ⟨rfl, rfl⟩ := hbad
        have hno : Hid (ch s.data.toList = none) := hat.bad hlt' (by rw [nxe.out]; rfl)
        go_wp2_with fail
        exact bodyPost_ret (v := .tuple #[.agg #[.int .i64 0, .int .i64 0], .bool false]) (by simp [results, Tryz.results75, go_sem, r0, r1]) rfl ⟨by rw [fin hno], (hbw.setCell (by simp) _).setCell (by simp) _⟩
      · have hbi : ¬ ((c : Int) = 65533 ∧ (n : Int) = 1) := by
          intro h; apply hbad; simp only [Bool.and_eq_true, beq_iff_eq]; omega
        cases hok : okc c with
        | false =>
          have hno : Hid (ch s.data.toList = none) := hat.bad hlt' (by rw [nxe.out, hok, Bool.not_false, Bool.or_true, if_pos rfl])
          have hgo : ∀ W : World, Calls Tryz.prog 93 #[.int .i32 c] W fun e w' => e = .returned (.bool false) ∧ W = w' := fun W => by have := allowed_any c W; rwa [hok] at this
          have HGO := Lib.hid hgo
          clear hgo hok
          by_cases h1 : (c : Int) = 65533
          · have g1 : ((c : Int) == 65533) = true := by simpa using h1
            have g2 : ((n : Int) == 1) = false := by simp; omega
            clear h1 hbad
            go_wp2_with (go_at_call 93; refine (HGO.out _).mono ?_; rintro e w2 ⟨rfl, rfl⟩)
            exact bodyPost_ret (v := .tuple #[.agg #[.int .i64 0, .int .i64 0], .bool false]) (by simp [results, Tryz.results75, go_sem, r0, r1]) rfl ⟨by rw [fin hno], (hbw.setCell (by simp) _).setCell (by simp) _⟩
          · have g1 : ((c : Int) == 65533) = false := by simpa using h1
            clear h1 hbad
            go_wp2_with (go_at_call 93; refine (HGO.out _).mono ?_; rintro e w2 ⟨rfl, rfl⟩)
            exact bodyPost_ret (v := .tuple #[.agg #[.int .i64 0, .int .i64 0], .bool false]) (by simp [results, Tryz.results75, go_sem, r0, r1]) rfl ⟨by rw [fin hno], (hbw.setCell (by simp) _).setCell (by simp) _⟩
        | true =>
          have hnx : Hid (nx (s.data.toList.drop k) = (c, n)) := by
            unfold Hid; rw [nxe.out, hok, if_neg]; simp only [Bool.not_true, Bool.or_false]; exact hbad
          have hat' := hat.next hlt' (by rw [hnx.out]; show n ≠ 0; omega)
          rw [hnx.out] at hat'
          have hgo : ∀ W : World, Calls Tryz.prog 93 #[.int .i32 c] W fun e w' => e = .returned (.bool true) ∧ W = w' := fun W => by have := allowed_any c W; rwa [hok] at this
          have HGO := Lib.hid hgo
          have hlw := low_snoc x c
          obtain ⟨m, hm⟩ : ∃ m, (if c < 32 then low x + 1 else low x) = m := ⟨_, rfl⟩
          have hmb : m ≤ low x + 1 := by rw [← hm]; split <;> omega
          have HL := fun W => longer_any x.length (low x) c W (by omega) (by omega)
          rw [hm] at HL hlw
          have HLO := Lib.hid HL
          have HLW := Lib.hid hlw
          clear hgo hok hm HL hlw
          by_cases h1 : (c : Int) = 65533
          · have g1 : ((c : Int) == 65533) = true := by simpa using h1
            have g2 : ((n : Int) == 1) = false := by simp; omega
            clear h1 hbad
            go_wp2_with (first | (go_at_call 93; refine (HGO.out _).mono ?_; rintro e w2 ⟨rfl, rfl⟩) | (go_at_call 76; refine (HLO.out _).mono ?_; rintro e w2 ⟨rfl, hb2⟩; have hs2 := hb2.size; have D0 := C0.below hb2 C0.lt; have D2 := C2.below hb2 C2.lt; have D1 := C1.below hb2 C1.lt; have d10 := D1.cell 0; have d11 := D1.cell 1; have g10 := D1.free 0; have g11 := D1.free 1; simp only [Nat.reduceLT, List.size_toArray, List.length_cons, List.length_nil, getElem?_pos, Nat.reduceAdd, List.getElem_toArray, List.getElem_cons_zero, List.getElem_cons_succ] at d10 d11))
            go_roundw
            case rel => exact ⟨k + n, x ++ [c], hn2, by go_num, by simp; omega, hat', (D0.far (by simp) _).far (by simp) _, by rw [HLW.out, List.length_append]; exact D1.two _ _, (D2.far (by simp) _).far (by simp) _, ((hbw.trans (hb2.mono (by omega))).setCell (by simp) _).setCell (by simp) _⟩
            case measure => simp [intOf]; omega
          · have g1 : ((c : Int) == 65533) = false := by simpa using h1
            clear h1 hbad
            go_wp2_with (first | (go_at_call 93; refine (HGO.out _).mono ?_; rintro e w2 ⟨rfl, rfl⟩) | (go_at_call 76; refine (HLO.out _).mono ?_; rintro e w2 ⟨rfl, hb2⟩; have hs2 := hb2.size; have D0 := C0.below hb2 C0.lt; have D2 := C2.below hb2 C2.lt; have D1 := C1.below hb2 C1.lt; have d10 := D1.cell 0; have d11 := D1.cell 1; have g10 := D1.free 0; have g11 := D1.free 1; simp only [Nat.reduceLT, List.size_toArray, List.length_cons, List.length_nil, getElem?_pos, Nat.reduceAdd, List.getElem_toArray, List.getElem_cons_zero, List.getElem_cons_succ] at d10 d11))
            go_roundw
            case rel => exact ⟨k + n, x ++ [c], hn2, by go_num, by simp; omega, hat', (D0.far (by simp) _).far (by simp) _, by rw [HLW.out, List.length_append]; exact D1.two _ _, (D2.far (by simp) _).far (by simp) _, ((hbw.trans (hb2.mono (by omega))).setCell (by simp) _).setCell (by simp) _⟩
            case measure => simp [intOf]; omega
    · have hke : k = s.data.toList.length := by rw [← hsz.out]; omega
      have hch : Hid (ch s.data.toList = some x) := At.stop (by rw [← hke]; exact hat)
      have c10 := B1.cell 0
      have c11 := B1.cell 1
      have f00 := B0.free 0
      have f01 := B0.free 1
      have c00 := B0.cell 0
      have c01 := B0.cell 1
      have r0 := (B0.two (.int .i64 x.length) (.int .i64 (low x))).cell 0
      have r1 := (B0.two (.int .i64 x.length) (.int .i64 (low x))).cell 1
      simp only [Nat.reduceLT, List.size_toArray, List.length_cons, List.length_nil, getElem?_pos, Nat.reduceAdd, List.getElem_toArray, List.getElem_cons_zero, List.getElem_cons_succ] at c00 c01 c10 c11 r0 r1
      have fin := spanOf_some hch.out
      have FIN := Lib.hid fin
      clear fin hke
      go_wp2_with fail
      exact bodyPost_ret (v := .tuple #[.agg #[.int .i64 x.length, .int .i64 (low x)], .bool true]) (by simp [results, Tryz.results75, go_sem, r0, r1]) rfl ⟨by rw [FIN.out], (hb.setCell (by simp) _).setCell (by simp) _⟩

set_option maxHeartbeats 400000 in
theorem valid_any (s : ByteArray) (w : World) (hT : Tabs w) (hs : s.size ≤ 140737488355328) :
    Calls Tryz.prog 127 #[.string s] w fun e w' => e = .returned (.bool (valid s.data.toList)) ∧ Below w.heap.size w w' := by
  have HW := Lib.hid (walk_span s w hT hs)
  cases hch : ch s.data.toList with
  | none =>
    have HS := Lib.hid (spanOf_none hch)
    rw [valid_none hch]
    clear hch
    go_enter Tryz.func127, Tryz.ntmps127
    go_wp2_with (go_at_call 75; refine HW.out.mono ?_; rintro e w1 ⟨rfl, hb⟩; rw [HS.out])
    go_ret
    exact ⟨rfl, hb.alloc hb.size _⟩
  | some x =>
    have HS := Lib.hid (spanOf_some hch)
    rw [valid_some hch]
    clear hch
    go_enter Tryz.func127, Tryz.ntmps127
    go_wp2_with (go_at_call 75; refine HW.out.mono ?_; rintro e w1 ⟨rfl, hb⟩; rw [HS.out])
    go_ret
    exact ⟨rfl, hb.alloc hb.size _⟩
end Go.Proofs.YtogjhpcjjmcjfaaGreatDoor
end
section
/- what is reached of it -/
namespace Go.Proofs.YtogjhpcjjmcjfaaGreatDoor
open Go.RowKit
theorem infoStr : (Tryz.prog.info? 9).map (fun i => (i.zero, i.size, i.bytes)) = some (some (.string ⟨#[]⟩), 1, 16) := by kernel_rfl

/-- Strings as values. -/
def strs (x : List ByteArray) : List Value := x.map Value.string
theorem strs_length (x : List ByteArray) : (strs x).length = x.length := List.length_map _
theorem strs_get {x : List ByteArray} {i : Nat} {b : ByteArray} (h : x[i]? = some b) : (strs x)[i]? = some (.string b) := by simp [strs, h]
attribute [irreducible] strs
/-- The slice v, made by the call (above block B), holds just the strings x. -/
def OwnT (B : Nat) (w : World) (v : Value) (x : List ByteArray) : Prop := w.ownsRow B 9 1 v x.length (strs x)
theorem OwnT.nil (B : Nat) (w : World) : OwnT B w (.slice none 0 0) [] := by
  unfold OwnT
  rw [show strs [] = [] from by unfold strs; rfl]
  exact World.ownsRow_nil _ _ _ _
theorem OwnT.below {B : Nat} {w w' : World} {v : Value} {x : List ByteArray} (h : OwnT B w v x) (hb : Below w.heap.size w w') : OwnT B w' v x := by
  have h' : w.ownsRow B 9 1 v x.length (strs x) := h
  refine h'.kept (w' := w') (row := some w.heap.size) ⟨hb.os, hb.tape, hb.output, hb.size, fun i hi _ => hb.block i hi⟩ ?_
  cases ho : v.ownBlock with
  | none => exact .inl rfl
  | some g => exact .inr (fun e => by have := (h'.lt g ho).2; injection e with e; omega)
theorem OwnT.low {B : Nat} {w : World} {v : Value} {x : List ByteArray} (h : OwnT B w v x) {j : Nat} (hj : v.ownBlock = some j) : B ≤ j ∧ j < w.heap.size := World.ownsRow.lt h j hj
theorem OwnT.slice {B : Nat} {w : World} {v : Value} {x : List ByteArray} (h : OwnT B w v x) : ∃ A cap, v = .slice A x.length cap := by
  rcases h.2 with ⟨rfl, h0⟩ | ⟨g, cap, cur, rfl, _⟩
  · exact ⟨none, 0, by rw [h0]⟩
  · exact ⟨_, _, rfl⟩

/-- A slice that can be read: it holds just the strings x, below block B (nil and empty ones too). -/
def ReadT (B : Nat) (w : World) (v : Value) (x : List ByteArray) : Prop :=
  ∃ A cap, v = .slice A x.length cap ∧ (0 < x.length → ∃ ad : Addr, A = some ad ∧ ad.block < B ∧ ∀ i b, x[i]? = some b → w.cell? (ad.add i) = some (.string b))
theorem ReadT.below {B : Nat} {w w' : World} {v : Value} {x : List ByteArray} (h : ReadT B w v x) (hb : Below B w w') : ReadT B w' v x := by
  obtain ⟨A, cap, rfl, h2⟩ := h
  refine ⟨A, cap, rfl, fun h0 => ?_⟩
  obtain ⟨ad, rfl, hl, hc⟩ := h2 h0
  refine ⟨ad, rfl, hl, fun i b hi => (hb.cell ?_).trans (hc i b hi)⟩
  rw [addBlock]
  exact hl
theorem ReadT.more {B C : Nat} {w : World} {v : Value} {x : List ByteArray} (h : ReadT B w v x) (hB : B ≤ C) : ReadT C w v x := by
  obtain ⟨A, cap, rfl, h2⟩ := h
  refine ⟨A, cap, rfl, fun h0 => ?_⟩
  obtain ⟨ad, rfl, hl, hc⟩ := h2 h0
  exact ⟨ad, rfl, by omega, hc⟩
theorem ReadT.nil (B : Nat) (w : World) (cap : Nat) : ReadT B w (.slice none 0 cap) [] := ⟨none, cap, rfl, fun h => absurd h (by simp)⟩
theorem OwnT.reads {B : Nat} {w : World} {v : Value} {x : List ByteArray} (h : OwnT B w v x) : ReadT w.heap.size w v x := by
  have h' : w.ownsRow B 9 1 v x.length (strs x) := h
  rcases h'.2 with ⟨rfl, h0⟩ | ⟨g, cap, cur, rfl, _, hh, _⟩
  · exact ⟨none, 0, by rw [h0], fun h => absurd h (by omega)⟩
  · refine ⟨_, cap, rfl, fun h0 => ⟨_, rfl, lt_of_block hh, fun i b hi => ?_⟩⟩
    exact h'.cells (g := g) rfl i _ (strs_get hi)
/-- A list that lies in a new block. -/
theorem ReadT.made {w : World} {g cap n o : Nat} {x : List ByteArray} (hn : x.length = n) (hg : g < w.heap.size) (hc : ∀ i b, x[i]? = some b → w.cell? ⟨g, o + i, none⟩ = some (.string b)) : ReadT w.heap.size w (.slice (some ⟨g, o, none⟩) n cap) x := by
  subst hn
  refine ⟨_, cap, rfl, fun _ => ⟨_, rfl, hg, fun i b hi => ?_⟩⟩
  rw [add_at]
  exact hc i b hi

set_option maxHeartbeats 400000 in
theorem plainOneT (a b : ByteArray) (w : World) : Calls Tryz.prog 43 #[.string a, .string b] w fun e w' => e = .returned (.bool (a.toList == b.toList)) ∧ w = w' := by
  go_enter Tryz.func43, Tryz.ntmps43
  go_wp2
  go_ret
  exact ⟨rfl, rfl⟩

theorem below_drewN1 (w : World) (n : Nat) : Below w.heap.size w (w.drewN n) := ⟨rfl, rfl, rfl, Nat.le_refl _, fun _ _ => rfl⟩
theorem below_drewN3 (w : World) (n m : Nat) : Below w.heap.size w ((w.drewN n).drewN m) := ⟨rfl, rfl, rfl, Nat.le_refl _, fun _ _ => rfl⟩
set_option maxHeartbeats 1000000 in
theorem sameT_any (B : Nat) (v u : Value) (x y : List ByteArray) (w : World) (hx : ReadT B w v x) (hy : ReadT B w u y) (hl : x.length ≤ 140737488355328) (hm : y.length ≤ 140737488355328) :
    Calls Tryz.prog 42 #[v, u, .func (.func 43) #[] #[]] w fun e w' => e = .returned (.bool (decide (x = y))) ∧ Below w.heap.size w w' := by
  obtain ⟨A, cap, rfl, hx2⟩ := hx
  obtain ⟨A', cap', rfl, hy2⟩ := hy
  by_cases hne : x.length = y.length
  · have HNE := Lib.hid hne
    have hbne : (((x.length : Nat) : Int) != ((y.length : Nat) : Int)) = false := by simp [hne]
    clear hne
    go_enter Tryz.func42, Tryz.ntmps42
    go_wp2_with fail
    go_loopw [7] (fun i wr => ∃ (k n : Nat), k ≤ x.length ∧ i = .int .i64 k ∧ Hid (x.take k = y.take k) ∧ wr = w.drewN n) (fun i _ => x.length - (intOf i).toNat)
    case atStart => exact ⟨0, 0, Nat.zero_le _, rfl, Lib.hid (by simp), rfl⟩
    case round =>
      obtain ⟨k, n, hk, rfl, hte, rfl⟩ := hrel
      by_cases hlt : k < x.length
      · have hlty : k < y.length := by rw [← HNE.out]; exact hlt
        obtain ⟨ad, rfl, hlb, hc⟩ := hx2 (by omega)
        obtain ⟨bd, rfl, hlb', hd⟩ := hy2 (by omega)
        obtain ⟨p, hp⟩ : ∃ p, x[k]? = some p := ⟨_, List.getElem?_eq_getElem hlt⟩
        obtain ⟨q, hq⟩ : ∃ q, y[k]? = some q := ⟨_, List.getElem?_eq_getElem hlty⟩
        have c1 := hc k p hp
        have d1 := hd k q hq
        have HP := Lib.hid hp
        have HQ := Lib.hid hq
        clear hp hq hc hd hx2 hy2
        go_wp2_with fail
        go_quiet ((go_at_call 43; exact (plainOneT p q _).mono (fun _ _ h => ⟨h.1, _, h.2.symm⟩)))
        go_wp2_with fail
        · have hpq : (p.toList == q.toList) = false := by simpa using (show (!(p.toList == q.toList)) = true by assumption)
          have hq2 : decide (x = y) = false := by
            refine decide_eq_false (fun e => ?_)
            subst e
            have e2 : p = q := Option.some.inj (HP.out.symm.trans HQ.out)
            subst e2
            simp at hpq
          go_ret
          exact ⟨ret_bool hq2.symm, below_drewN3 w n nq⟩
        · have hpq : (p.toList == q.toList) = true := by simpa using (show (!(p.toList == q.toList)) = false by assumption)
          have e2 : p = q := (Lib.bytes_beq_iff p q).1 hpq
          go_roundw
          case rel => exact ⟨k + 1, n + nq, by omega, by go_num, take_succ_same HP.out HQ.out hte.out e2, rfl⟩
          case measure => simp [intOf]; omega
      · have hke : k = x.length := by omega
        have hxy : decide (x = y) = true := by
          have h1 := hte.out
          rw [hke, List.take_length, HNE.out, List.take_length] at h1
          exact decide_eq_true h1
        clear hke
        go_wp2_with fail
        go_ret
        exact ⟨ret_bool hxy.symm, below_drewN1 w n⟩
  · have hbne : (((x.length : Nat) : Int) != ((y.length : Nat) : Int)) = true := by simp; omega
    have hq : decide (x = y) = false := decide_eq_false (fun e => hne (congrArg List.length e))
    rw [hq]
    clear hq hne
    go_enter Tryz.func42, Tryz.ntmps42
    go_wp2_with fail
    go_ret
    exact ⟨rfl, Below.refl _ _⟩
set_option maxHeartbeats 400000 in
/-- help.Plain: two lists of strings held against each other. -/
theorem plainT_any (B : Nat) (v u : Value) (x y : List ByteArray) (w : World) (hx : ReadT B w v x) (hy : ReadT B w u y) (hl : x.length ≤ 140737488355328) (hm : y.length ≤ 140737488355328) :
    Calls Tryz.prog 19 #[v, u] w fun e w' => e = .returned (.bool (decide (x = y))) ∧ Below w.heap.size w w' := by
  have HS := Lib.hid (sameT_any B v u x y w hx hy hl hm)
  clear hx hy
  go_enter Tryz.func19, Tryz.ntmps19
  go_wp2_with (go_at_call 42; refine HS.out.mono ?_; rintro e w2 ⟨rfl, hb⟩)
  go_ret
  exact ⟨rfl, hb⟩
end Go.Proofs.YtogjhpcjjmcjfaaGreatDoor
end
