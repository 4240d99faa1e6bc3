import Derived.Test.YtapelnndjjbeeaaGreatDoorZ31
import Derived.Test.YtapelnndjjbeeaaGreatDoorZ16
import Derived.Test.YtapelnndjjbeeaaGreatDoorZ18
import Derived.Lib.Hide
import Derived.Laws.StructEq
import Derived.Lib.SlicesS
import Derived.Deep.RegionWith
import Derived.Test.YtapelnndjjbeeaaGreatDoorZ26
import Derived.Test.YtapelnndjjbeeaaGreatDoorZ27
import Derived.Test.YtapelnndjjbeeaaGreatDoorZ28
import Derived.Test.YtapelnndjjbeeaaGreatDoorZ04
import Derived.WalkKit
section
/- what is reached of it -/
namespace Go.Proofs.YtapelnndjjbeeaaGreatDoor
open Go.RowKit
theorem bts_eqb (a b : List UInt8) : ((bts a).toList == (bts b).toList) = decide (a = b) := by
  rw [ByteArray.toList_mk, ByteArray.toList_mk]
  by_cases h : a = b
  · simp [h]
  · rw [decide_eq_false h]
    simpa using h
theorem eqGuardA (op : BinOp) (x y : Operand) (p q : Att) (w : World) : (eqGuard op 48 x y (agA p) (agA q)).run Tryz.prog w = .ok () w := run_eqGuard_agg w op 48 x y _ _ (by kernel_rfl)
theorem equalAt (p q : Att) (w : World) : (Op.equalIn 10000 48 (agA p) (agA q)).run Tryz.prog w = .ok (decide (p = q)) w := by
  have u3 := Tryz.underlying9
  have a3 := Tryz.isAgg9
  have z3 := Tryz.sizeOf9
  have hS : Tryz.prog.underlying 48 = some (.struct (Tryz.prog.fieldsOf 48)) := by kernel_rfl
  have hp : Tryz.prog.stoodInHeld 48 = false := by kernel_rfl
  rw [show (10000 : Nat) = 9999 + 1 from rfl, run_equalIn_agg w 9999 48 _ _ hS hp]
  simp only [Program.fieldsOf, Tryz.underlying48]
  obtain ⟨a, b⟩ := p
  obtain ⟨c, d⟩ := q
  have e1 := bts_eqb a c
  have e2 := bts_eqb b d
  dsimp only
  generalize bts a = A at e1 ⊢
  generalize bts b = B at e2 ⊢
  generalize bts c = C at e1 ⊢
  generalize bts d = D at e2 ⊢
  go_simp
  by_cases h1 : a = c <;> by_cases h2 : b = d <;> simp [h1, h2] at e1 e2 ⊢ <;> simp [e1, e2]
end Go.Proofs.YtapelnndjjbeeaaGreatDoor
end
section
/- what is reached of it -/
namespace Go.Proofs.YtapelnndjjbeeaaGreatDoor
open Go.RowKit Vc
/-- Rows that stand, one by one. -/
def RowsP (C : Nat) (w : World) (us : List Value) (cs : List (List Pr)) : Prop := us.length = cs.length ∧ ∀ (i : Nat) (u : Value) (c : List Pr), us[i]? = some u → cs[i]? = some c → RowP C w u c
theorem RowsP.nil (C : Nat) (w : World) : RowsP C w [] [] := ⟨rfl, fun i u c h => by simp at h⟩
theorem RowsP.keep {C D : Nat} {w w' : World} {us : List Value} {cs : List (List Pr)} (h : RowsP C w us cs) (hC : C ≤ D) (hb : ∀ g cs, g < C → Bk w g 41 cs → Bk w' g 41 cs) (ha : KeepA w w') : RowsP D w' us cs :=
  ⟨h.1, fun i u c h1 h2 => ((h.2 i u c h1 h2).keep hb ha).more hC⟩
theorem RowsP.below {C : Nat} {w w' : World} {us : List Value} {cs : List (List Pr)} (h : RowsP C w us cs) (hb : Below w.heap.size w w') : RowsP C w' us cs :=
  h.keep (Nat.le_refl _) (fun _ _ _ hg => (hb.block _ hg.lt).trans hg) (KeepA.below hb)
theorem up_end : up endT = endT := by decide +kernel
theorem plain_end : Plainly ⟨#[69, 78, 68, 58, 86, 67, 65, 82, 68]⟩ := Plainly.of (by decide +kernel)
/-- a store into a block -/
theorem Bk.stored {w : World} {g k : Nat} {t tk : TypeId} {cs ck : Array Value} (hk : Bk w k tk ck) (hg : Bk w g t cs) (ht : tk ≠ t) (o : Nat) (x : Value) : Bk (w.setCell ⟨g, o, none⟩ x) k tk ck :=
  (Below.heap_setCell _ _ _ _ (Bk.type_ne hk hg ht)).trans hk
end Go.Proofs.YtapelnndjjbeeaaGreatDoor
end
section
/- what is reached of it -/
namespace Go.Proofs.YtapelnndjjbeeaaGreatDoor
open Go.RowKit Tx
theorem index_clean : ∀ l : List UInt8, (Lib.indexAny l [13, 10] = -1 ∧ clean l) ∨ (0 ≤ Lib.indexAny l [13, 10] ∧ ¬ clean l)
  | [] => .inl ⟨rfl, fun c hc => by cases hc⟩
  | b :: l => by
    by_cases h : b = 13 ∨ b = 10
    · right
      refine ⟨?_, fun hc => ?_⟩
      · unfold Lib.indexAny
        rw [if_pos (by rcases h with h | h <;> subst h <;> decide)]
        exact Int.le_refl _
      · have := hc b (by simp)
        rcases h with rfl | rfl
        · exact this.2 rfl
        · exact this.1 rfl
    · have hn : ([13, 10] : List UInt8).contains b = false := by
        have h1 : b ≠ 13 := fun e => h (.inl e)
        have h2 : b ≠ 10 := fun e => h (.inr e)
        simp [h1, h2]
      rcases index_clean l with ⟨h1, h2⟩ | ⟨h1, h2⟩
      · left
        refine ⟨?_, fun c hc => ?_⟩
        · unfold Lib.indexAny
          rw [hn, h1]
          rfl
        · rcases List.mem_cons.1 hc with rfl | hc
          · exact ⟨fun e => h (.inr e), fun e => h (.inl e)⟩
          · exact h2 c hc
      · right
        refine ⟨?_, fun hc => h2 (fun c hm => hc c (by simp [hm]))⟩
        unfold Lib.indexAny
        rw [hn]
        have : (Lib.indexAny l [13, 10] == -1) = false := by rw [beq_eq_false_iff_ne]; omega
        rw [this]
        simp
        omega
set_option maxHeartbeats 1000000 in
/-- strings.ContainsAny(s, "\\r\\n") -/
theorem hasEnd_any (s : ByteArray) (w : World) (hs : s.size < 4294967281) : Calls Tryz.prog 237 #[.string s, .string ⟨#[13, 10]⟩] w fun e w' => e = .returned (.bool (!decide (clean s.data.toList))) ∧ Below w.heap.size w w' := by
  have H := sindex_any s w hs
  obtain ⟨i, hi⟩ : ∃ i, Lib.indexAny s.data.toList [13, 10] = i := ⟨_, rfl⟩
  have hc := index_clean s.data.toList
  rw [hi] at H hc
  have HO := Lib.hid H
  have hd : (!decide (clean s.data.toList)) = decide (0 ≤ i) := by
    rcases hc with ⟨h1, h2⟩ | ⟨h1, h2⟩
    · subst h1
      simp [h2]
    · simp [h1, h2]
  rw [hd]
  clear H hi hc hd
  go_enter Tryz.func237, Tryz.ntmps237
  go_wp2_with (go_at_call 277; refine HO.out.mono ?_; rintro e w1 ⟨rfl, b1⟩)
  go_ret
  exact ⟨ret_bool rfl, b1⟩

end Go.Proofs.YtapelnndjjbeeaaGreatDoor
end
section
/- what is reached of it -/
namespace Go.Proofs.YtapelnndjjbeeaaGreatDoor
open Go.RowKit Tx
/-- nothing turns below C where block b is as it was -/
theorem Btw.whole {b C : Nat} {w w' : World} (h : Btw b C w w') (hb : w'.heap[b]? = w.heap[b]?) : Below C w w' :=
  ⟨h.below.os, h.below.tape, h.below.output, h.below.size, fun g hg => by
    rcases Nat.lt_trichotomy g b with h1 | h1 | h1
    · exact h.below.block g h1
    · subst h1; exact hb
    · exact h.mid g h1 hg⟩
/-- a part that is not the first one is not empty -/
theorem ivs_first : ∀ (bs : List Bool) (o k : Nat), ∃ e t, ivs o k bs = (o, e) :: t ∧ k ≤ e ∧ ∀ x ∈ t, x.1 < x.2
  | [], o, k => ⟨k, [], rfl, Nat.le_refl _, fun x hx => by cases hx⟩
  | b :: bs, o, k => by
    cases b with
    | true =>
      obtain ⟨e, t, h1, h2, h3⟩ := ivs_first bs k (k + 1)
      refine ⟨k, ivs k (k + 1) bs, rfl, Nat.le_refl _, fun x hx => ?_⟩
      rw [h1] at hx
      rcases List.mem_cons.1 hx with rfl | hx
      · exact h2
      · exact h3 x hx
    | false =>
      obtain ⟨e, t, h1, h2, h3⟩ := ivs_first bs o (k + 1)
      exact ⟨e, t, h1, by omega, h3⟩
end Go.Proofs.YtapelnndjjbeeaaGreatDoor
end
section
/- what is reached of it -/
namespace Go.Proofs.YtapelnndjjbeeaaGreatDoor
open Go.RowKit Vc
/-- A slice of slices of properties that can be read. -/
def ReadV (w : World) (v : Value) (cs : List (List Pr)) : Prop := ∃ A cap, v = .slice A cs.length cap ∧ (0 < cs.length → ∃ ad : Addr, A = some ad ∧ ad.block < w.heap.size ∧ ∀ i c, cs[i]? = some c → ∃ u, w.cell? (ad.add i) = some u ∧ ReadP w u c)
theorem ReadV.below {w w' : World} {v : Value} {cs : List (List Pr)} (h : ReadV w v cs) (hb : Below w.heap.size w w') : ReadV w' v cs := by
  obtain ⟨A, cap, rfl, h2⟩ := h
  refine ⟨A, cap, rfl, fun h0 => ?_⟩
  obtain ⟨ad, rfl, hl, hc⟩ := h2 h0
  refine ⟨ad, rfl, Nat.lt_of_lt_of_le hl hb.size, fun i c hi => ?_⟩
  obtain ⟨u, h3, h4⟩ := hc i c hi
  exact ⟨u, by rw [hb.cell (by rw [addBlock]; exact hl)]; exact h3, h4.below hb⟩
theorem ReadV.nil (w : World) : ReadV w (.slice none 0 0) [] := ⟨none, 0, rfl, fun h => absurd h (Nat.not_lt_zero _)⟩
theorem ReadV.slice {w : World} {v : Value} {cs : List (List Pr)} (h : ReadV w v cs) : ∃ A cap, v = .slice A cs.length cap := by
  obtain ⟨A, cap, rfl, _⟩ := h
  exact ⟨A, cap, rfl⟩
/-- The slice v, made by the call (above block B), holds just these slices. -/
def OwnG (B : Nat) (w : World) (v : Value) (us : List Value) : Prop := w.ownsRow B 22 1 v us.length us
theorem OwnG.nil (B : Nat) (w : World) : OwnG B w (.slice none 0 0) [] := World.ownsRow_nil _ _ _ _
theorem OwnG.slice {B : Nat} {w : World} {v : Value} {l : List Value} (h : OwnG B w v l) : ∃ A cap, v = .slice A l.length cap := by
  rcases h.2 with ⟨rfl, h0⟩ | ⟨g, cap, cur, rfl, _⟩
  · exact ⟨none, 0, by rw [h0]⟩
  · exact ⟨_, _, rfl⟩
theorem OwnG.keep {B : Nat} {w w' : World} {v : Value} {l : List Value} (h : OwnG B w v l) (hb : ∀ g cs, Bk w g 22 cs → Bk w' g 22 cs) : OwnG B w' v l :=
  ⟨h.1, h.2.imp id fun ⟨g, cap, cur, k1, k2, k3, k4⟩ => ⟨g, cap, cur, k1, k2, hb g cur k3, k4⟩⟩
theorem OwnG.below {B : Nat} {w w' : World} {v : Value} {l : List Value} (h : OwnG B w v l) (hb : Below w.heap.size w w') : OwnG B w' v l := h.keep (fun _ _ hg => (hb.block _ hg.lt).trans hg)
theorem OwnG.reads {B : Nat} {w : World} {v : Value} {us : List Value} {cs : List (List Pr)} (h : OwnG B w v us) (hl : us.length = cs.length) (hr : ∀ (i : Nat) (u : Value) (c : List Pr), us[i]? = some u → cs[i]? = some c → ReadP w u c) : ReadV w v cs := by
  have h' : w.ownsRow B 22 1 v us.length us := h
  rcases h'.2 with ⟨rfl, h0⟩ | ⟨g, cap, cur, rfl, hg, hh, h1, h2, h3, h4⟩
  · refine ⟨none, 0, by rw [← hl, h0], fun h => by omega⟩
  · refine ⟨_, cap, by rw [hl], fun _ => ⟨_, rfl, lt_of_block hh, fun i c hi => ?_⟩⟩
    have hi2 := (List.getElem?_eq_some_iff.1 hi).1
    have hu : us[i]? = some us[i] := List.getElem?_eq_getElem (by omega)
    refine ⟨us[i], ?_, hr i _ c hu hi⟩
    rw [add_at, Nat.zero_add]
    have hk : Bk w g 22 cur := hh
    rw [hk.cell, ← Array.getElem?_toList, ← hu]
    conv => rhs; rw [← h4]
    rw [List.getElem?_take_of_lt (by omega)]
theorem RowP.one {C : Nat} {w : World} {v : Value} {ps : List Pr} (h : RowP C w v ps) : v.oneCell' = true := by
  obtain ⟨A, cap, rfl, _⟩ := h
  rfl
end Go.Proofs.YtapelnndjjbeeaaGreatDoor
end
section
/- what is reached of it -/
namespace Go.Proofs.YtapelnndjjbeeaaGreatDoor
open Go.RowKit Vc
/-- What Read answers. -/
def ReadsV (B : Nat) (w : World) (l : List UInt8) (e : Ending) (w' : World) : Prop :=
  (∃ v, e = .returned (.tuple #[v, .int .i64 ((readV l).2.1 : Nat), .int .i64 ((readV l).2.2 : Nat)]) ∧ ReadV w' v (readV l).1) ∧ Below B w w'
theorem ReadsV.of {B : Nat} {w w' : World} {l : List UInt8} {v : Value} {r : List (List Pr) × Nat × Nat} {z1 z2 : Int} (h : readV l = r) (hv : ReadV w' v r.1) (h1 : (r.2.1 : Int) = z1) (h2 : (r.2.2 : Int) = z2) (hb : Below B w w') : ReadsV B w l (.returned (.tuple #[v, .int .i64 z1, .int .i64 z2])) w' := by
  subst h h1 h2
  exact ⟨⟨v, rfl, hv⟩, hb⟩
end Go.Proofs.YtapelnndjjbeeaaGreatDoor
end
section
/- what is reached of it -/
namespace Go.Proofs.YtapelnndjjbeeaaGreatDoor
open Go.RowKit
/-- A law answers true, and turns no memory that was there. -/
def Holds (w : World) (e : Ending) (w' : World) : Prop := e = .returned (.bool true) ∧ Below w.heap.size w w'
end Go.Proofs.YtapelnndjjbeeaaGreatDoor
end
section
/- what is reached of it -/
namespace Go.Proofs.YtapelnndjjbeeaaGreatDoor
open Go.RowKit Vc
/-- What the walks of package vcard need of the tables. -/
def OkwV (w : World) : Prop := Tabs w ∧ MaxL w ∧ Folds w
theorem OkwV.below {w w' : World} (h : OkwV w) (hb : Below w.heap.size w w') : OkwV w' := ⟨h.1.below hb, h.2.1.below hb, h.2.2.below hb⟩
end Go.Proofs.YtapelnndjjbeeaaGreatDoor
end
