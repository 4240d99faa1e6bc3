import Derived.Test.YtogjhpcjjmcjfaaGreatDoorL27
import Derived.Lib.Strings
import Derived.Test.YtogjhpcjjmcjfaaGreatDoorL11
import Derived.Test.YtogjhpcjjmcjfaaGreatDoorL03
import Derived.Test.YtogjhpcjjmcjfaaGreatDoorL10
import Derived.Lib.Hide
import Derived.Laws.StructEq
import Derived.Lib.SlicesS
import Derived.Deep.RegionWith
import Derived.Deep.Cut
import Derived.Deep.DeepCutAuto
import Derived.IntWalk
import Derived.Deep.QuietTactic
import Derived.BigQuiet
import Derived.Lib.ConvBytes
import Derived.Lib.AtoiErrMem
import Derived.Test.YtogjhpcjjmcjfaaGreatDoorL12
import Derived.Shelf.SlicesQ.IndexFunc
import Derived.Deep.RegionLaw
import Derived.Deep.Upon
import Derived.Deep.MidRow
import Derived.Shelf.SlicesE.Clone
import Derived.Lib.SliceRun
import Derived.Test.YtogjhpcjjmcjfaaGreatDoorL29
section
/- what is reached of it -/
namespace Go.Proofs.YtogjhpcjjmcjfaaGreatDoor
open Go.RowKit Vc Ct
/-- Only blocks that S names may have turned. -/
structure But (S : Nat → Prop) (w w' : World) : Prop where
  os : w'.os = w.os
  tape : w'.tape = w.tape
  output : w'.output = w.output
  size : w.heap.size ≤ w'.heap.size
  block : ∀ k, k < w.heap.size → ¬ S k → w'.heap[k]? = w.heap[k]?
theorem But.refl (S : Nat → Prop) (w : World) : But S w w := ⟨rfl, rfl, rfl, Nat.le_refl _, fun _ _ _ => rfl⟩
theorem But.trans {S : Nat → Prop} {a b c : World} (h : But S a b) (k : But S b c) : But S a c :=
  ⟨k.os.trans h.os, k.tape.trans h.tape, k.output.trans h.output, Nat.le_trans h.size k.size, fun i hi hs => (k.block i (Nat.lt_of_lt_of_le hi h.size) hs).trans (h.block i hi hs)⟩
theorem But.new {S : Nat → Prop} {a b : World} (h : Below a.heap.size a b) : But S a b := ⟨h.os, h.tape, h.output, h.size, fun i hi _ => h.block i hi⟩
theorem But.below {S : Nat → Prop} {a b : World} {B : Nat} (h : But S a b) (hB : B ≤ a.heap.size) (hn : ∀ i, i < B → ¬ S i) : Below B a b := ⟨h.os, h.tape, h.output, h.size, fun i hi => h.block i (by omega) (hn i hi)⟩
theorem But.grown {a b : World} {g : Nat} (h : But (· = g) a b) : a.grownBy b (some g) := ⟨h.os, h.tape, h.output, h.size, fun i hi hn => h.block i hi (fun e => hn (by rw [e]))⟩
/-- A block of texts. -/
def Txts (w : World) (h : Nat) (xs : List (List UInt8)) : Prop := ∃ cs : Array Value, Bk w h 9 cs ∧ ∀ (j : Nat) (x : List UInt8), xs[j]? = some x → cs[j]? = some (Value.string (bts x))
theorem Txts.cell {w : World} {h : Nat} {xs : List (List UInt8)} (t : Txts w h xs) {j : Nat} {x : List UInt8} (hj : xs[j]? = some x) : w.cell? ⟨h, j, none⟩ = some (.string (bts x)) := by
  obtain ⟨cs, hk, hc⟩ := t
  rw [hk.cell]
  exact hc j x hj
theorem Txts.lt {w : World} {h : Nat} {xs : List (List UInt8)} (t : Txts w h xs) : h < w.heap.size := by
  obtain ⟨cs, hk, _⟩ := t
  exact hk.lt
theorem Txts.holds {w : World} {h : Nat} {xs : List (List UInt8)} (t : Txts w h xs) : Go.Sort.Holds encStr w h 0 xs.toArray := by
  obtain ⟨cs, hk, hc⟩ := t
  intro j hj
  have hj2 : j < xs.length := by simpa using hj
  rw [Nat.zero_add, hk.cell, hc j xs[j] (List.getElem?_eq_getElem hj2), getElem!_pos _ j hj]
  exact ⟨by simp [encStr], hk.free j⟩
/-- texts laid in the place of as many -/
theorem Txts.put {w : World} {h : Nat} {xs ys : List (List UInt8)} (t : Txts w h xs) (hl : ys.length = xs.length) (n : Nat) (os : Array Obj) : Txts (Go.Sort.grow (Go.Sort.putRow encStr (Go.Sort.ahead w n) h 0 ys.toArray) os) h ys ∧ But (· = h) w (Go.Sort.grow (Go.Sort.putRow encStr (Go.Sort.ahead w n) h 0 ys.toArray) os) := by
  have hH := t.holds
  have hlt := t.lt
  obtain ⟨cs, hk, hc⟩ := t
  have hsz : (Go.Sort.putRow encStr (Go.Sort.ahead w n) h 0 ys.toArray).heap.size = w.heap.size := by rw [Go.Sort.size_putRow]; rfl
  have hK : (Go.Sort.putRow encStr (Go.Sort.ahead w n) h 0 ys.toArray).heap[h]? = some (.cells (Go.Sort.putCells encStr 0 ys.toArray cs) 9 (0, 0)) := by
    unfold Go.Sort.putRow Go.Sort.mapBlock
    have e : (Go.Sort.ahead w n).heap[h]? = some (.cells cs 9 (0, 0)) := hk
    show ((Go.Sort.ahead w n).heap.modify h _)[h]? = _
    rw [Array.getElem?_modify, if_pos rfl, e]
    rfl
  refine ⟨⟨Go.Sort.putCells encStr 0 ys.toArray cs, (Go.Sort.heap_grow_old _ os (by rw [hsz]; exact hlt)).trans hK, fun j y hj => ?_⟩, ⟨rfl, rfl, rfl, ?_, fun i hi hne => ?_⟩⟩
  · have hj2 : j < ys.length := (List.getElem?_eq_some_iff.1 hj).1
    obtain ⟨x, hx⟩ : ∃ x, xs[j]? = some x := ⟨_, List.getElem?_eq_getElem (by omega)⟩
    have hcj := hc j x hx
    unfold Go.Sort.putCells
    rw [Array.getElem?_mapIdx, hcj, Option.map_some, if_pos ⟨Nat.zero_le _, by simpa using hj2⟩, Nat.sub_zero, getElem!_pos _ j (by simpa using hj2)]
    have e3 : ys[j] = y := (List.getElem?_eq_some_iff.1 hj).2
    rw [← e3]
    simp [encStr]
  · rw [Go.Sort.size_grow, hsz]; omega
  · rw [Go.Sort.heap_grow_old _ os (by rw [hsz]; exact hi)]
    unfold Go.Sort.putRow Go.Sort.mapBlock
    show ((Go.Sort.ahead w n).heap.modify h _)[i]? = _
    rw [Array.getElem?_modify, if_neg (fun e => hne e.symm)]
    rfl
theorem compact_le (l : List (List UInt8)) : (Lib.compact l).length ≤ l.length := by
  unfold Lib.compact Lib.compactUpTo
  rw [List.length_map]
  exact Nat.le_trans (List.length_filter_le _ _) (by simp)
theorem But.on {S : Nat → Prop} {a b c : World} (h : But S a b) (k : Below a.heap.size b c) : But S a c :=
  ⟨k.os.trans h.os, k.tape.trans h.tape, k.output.trans h.output, Nat.le_trans h.size k.size, fun i hi hs => (k.block i hi).trans (h.block i hi hs)⟩
theorem Txts.below {w w' : World} {h B : Nat} {xs : List (List UInt8)} (t : Txts w h xs) (hb : Below B w w') (hh : h < B) : Txts w' h xs := by
  obtain ⟨cs, hk, hc⟩ := t
  exact ⟨cs, hk.below hb hh, hc⟩
theorem Txts.set {w : World} {g h o : Nat} {xs : List (List UInt8)} (t : Txts w h xs) (hn : h ≠ g) (u : Value) : Txts (w.setCell ⟨g, o, none⟩ u) h xs := by
  obtain ⟨cs, hk, hc⟩ := t
  exact ⟨cs, hk.far hn u, hc⟩
theorem Txts.more {w : World} {h : Nat} {xs ys : List (List UInt8)} (t : Txts w h (xs ++ ys)) : Txts w h xs := by
  obtain ⟨cs, hk, hc⟩ := t
  exact ⟨cs, hk, fun j x hj => hc j x (by rw [List.getElem?_append_left (List.getElem?_eq_some_iff.1 hj).1]; exact hj)⟩
theorem OwnT.set {B g o : Nat} {w : World} {v u : Value} {x : List ByteArray} (h : OwnT B w v x) (hg : g < B) : OwnT B (w.setCell ⟨g, o, none⟩ u) v x :=
  h.kept fun j hj => Below.heap_setCell _ _ _ _ (by have := (h.low hj).1; show j ≠ g; omega)
end Go.Proofs.YtogjhpcjjmcjfaaGreatDoor
end
section
/- what is reached of it -/
namespace Go.Proofs.YtogjhpcjjmcjfaaGreatDoor
open Go.RowKit Tx
set_option maxHeartbeats 400000 in
theorem line_any (s : ByteArray) (most : Int) (w : World) (hT : Tabs w) (hs : s.size ≤ 140737488355328) :
    Calls Tryz.prog 55 #[.string s, .int .i64 most] w fun e w' => e = .returned (.bool (line s.data.toList most)) ∧ Below w.heap.size w w' := by
  have HW := Lib.hid (walk_span s w hT hs)
  cases hch : ch s.data.toList with
  | none =>
    have HS := Lib.hid (spanOf_none hch)
    rw [line_none hch]
    clear hch
    go_enter Tryz.func55, Tryz.ntmps55
    go_wp2_with (go_at_call 75; refine HW.out.mono ?_; rintro e w1 ⟨rfl, hb⟩; rw [HS.out])
    go_ret
    exact ⟨rfl, hb.alloc hb.size _⟩
  | some x =>
    have HS := Lib.hid (spanOf_some hch)
    rw [line_some hch]
    clear hch
    obtain ⟨a, ha⟩ : ∃ a, x.length = a := ⟨_, rfl⟩
    obtain ⟨b, hb0⟩ : ∃ b, low x = b := ⟨_, rfl⟩
    rw [ha, hb0] at HS
    rw [ha, hb0]
    clear ha hb0
    by_cases h0 : b = 0
    · subst h0
      go_enter Tryz.func55, Tryz.ntmps55
      go_wp2_with (go_at_call 75; refine HW.out.mono ?_; rintro e w1 ⟨rfl, hb⟩; rw [HS.out])
      go_ret
      exact ⟨rfl, hb.alloc hb.size _⟩
    · have g0 : ((b : Int) == 0) = false := by simpa using h0
      have g1 : (b == 0) = false := by simpa using h0
      go_enter Tryz.func55, Tryz.ntmps55
      go_wp2_with (go_at_call 75; refine HW.out.mono ?_; rintro e w1 ⟨rfl, hb⟩; rw [HS.out])
      go_ret
      exact ⟨by simp [g1], hb.alloc hb.size _⟩
end Go.Proofs.YtogjhpcjjmcjfaaGreatDoor
end
section
/- what is reached of it -/
namespace Go.Proofs.YtogjhpcjjmcjfaaGreatDoor
open Go.RowKit Vc Ct
theorem bytes_eqb2 (a b : List UInt8) : ((bts a).toList == (bts b).toList) = decide (a = b) := by
  rw [ByteArray.toList_mk, ByteArray.toList_mk]
  by_cases h : a = b
  · simp [h]
  · simp [h]
end Go.Proofs.YtogjhpcjjmcjfaaGreatDoor
end
section
/- what is reached of it -/
namespace Go.Proofs.YtogjhpcjjmcjfaaGreatDoor
open Go.RowKit Vc Ct
theorem Txts.own {w : World} {h : Nat} {xs : List (List UInt8)} (t : Txts w h xs) (cap : Nat) : ReadT w.heap.size w (.slice (some ⟨h, 0, none⟩) xs.length cap) (sts xs) := by
  refine ReadT.made (by unfold sts; rw [List.length_map]) t.lt (fun i b hi => ?_)
  unfold sts at hi
  rw [List.getElem?_map] at hi
  obtain ⟨x, hx, rfl⟩ := Option.map_eq_some_iff.1 hi
  rw [Nat.zero_add]
  exact t.cell hx
theorem OwnT.weakT {B B' : Nat} {w : World} {v : Value} {x : List ByteArray} (h : OwnT B w v x) (hB : B' ≤ B) : OwnT B' w v x :=
  ⟨h.1, h.2.imp id fun ⟨g, cap, cur, k1, k2, k3⟩ => ⟨g, cap, cur, k1, Nat.le_trans hB k2, k3⟩⟩
end Go.Proofs.YtogjhpcjjmcjfaaGreatDoor
end
section
/- what is reached of it -/
namespace Go.Proofs.YtogjhpcjjmcjfaaGreatDoor
open Go.RowKit Vc Ct
/-- may these be groups, after one? -/
def riseB : List UInt8 → List (List UInt8) → Bool
  | _, [] => true
  | last, g :: t => Jd.ltL last g && Tx.line g 100 && riseB g t
theorem lt_nil (g : List UInt8) : Jd.ltL [] g = decide (g ≠ []) := by
  cases g with
  | nil => rw [Jd.lt_irr]; rfl
  | cons c g => rw [(lt_iff [] (c :: g)).2 (List.nil_lt_cons c g)]; simp
theorem rise_right (l : List (List UInt8)) : rightG l = (decide (l.length ≤ 8) && riseB [] l) := by
  have key : ∀ (t : List (List UInt8)) (x : List UInt8), riseB x t = (t.all (fun g => decide (g ≠ []) && Tx.line g 100) && risingB (x :: t)) ∨ (x = [] ∧ t = []) := by
    intro t
    induction t with
    | nil => intro x; exact .inl rfl
    | cons y t ih =>
      intro x
      left
      show (Jd.ltL x y && Tx.line y 100 && riseB y t) = _
      have hy : Jd.ltL x y = true → y ≠ [] := fun h e => by
        subst e
        exact absurd ((lt_iff x []).1 h) (List.not_lt_nil x)
      rw [List.all_cons]
      show _ = ((decide (y ≠ []) && Tx.line y 100 && t.all (fun g => decide (g ≠ []) && Tx.line g 100)) && (Jd.ltL x y && risingB (y :: t)))
      cases hl : Jd.ltL x y with
      | false => simp
      | true =>
        have hne := hy hl
        rw [decide_eq_true hne]
        rcases ih y with h | ⟨h, _⟩
        · rw [h]
          cases Tx.line y 100 <;> simp
        · exact absurd h hne
  unfold rightG
  rw [Bool.and_assoc]
  congr 1
  cases l with
  | nil => rfl
  | cons g t =>
    show _ = (Jd.ltL [] g && Tx.line g 100 && riseB g t)
    rw [lt_nil, List.all_cons]
    by_cases hg : g = []
    · subst hg
      simp
    · rw [decide_eq_true hg]
      rcases key t g with h | ⟨h, _⟩
      · rw [h]
        cases Tx.line g 100 <;> simp
      · exact absurd h hg
theorem rise_at : ∀ {l : List (List UInt8)} {last : List UInt8} {k : Nat} {g : List UInt8}, l[k]? = some g → riseB last (l.take k) = true → riseB last (l.take (k + 1)) = (Jd.ltL (((l.take k).getLast?).getD last) g && Tx.line g 100)
  | [], _, k, _, h, _ => by simp at h
  | x :: t, last, 0, g, h, _ => by
    obtain rfl : x = g := by simpa using h
    show (Jd.ltL last x && Tx.line x 100 && true) = _
    rw [Bool.and_true]
    rfl
  | x :: t, last, k + 1, g, h, hr => by
    have hr2 : (Jd.ltL last x && Tx.line x 100 && riseB x (t.take k)) = true := hr
    obtain ⟨h1, h2⟩ := Bool.and_eq_true_iff.1 hr2
    show (Jd.ltL last x && Tx.line x 100 && riseB x (t.take (k + 1))) = _
    rw [h1, Bool.true_and, rise_at (l := t) (by simpa using h) h2]
    congr 2
    show _ = (((x :: t.take k).getLast?).getD last)
    rw [List.getLast?_cons]
    cases (t.take k).getLast? <;> rfl
theorem rise_stop : ∀ {l : List (List UInt8)} {last : List UInt8} {k : Nat}, riseB last (l.take k) = false → riseB last l = false
  | [], last, k, h => by simp [riseB] at h
  | x :: t, last, 0, h => by simp [riseB] at h
  | x :: t, last, k + 1, h => by
    have h2 : (Jd.ltL last x && Tx.line x 100 && riseB x (t.take k)) = false := h
    show (Jd.ltL last x && Tx.line x 100 && riseB x t) = false
    cases h3 : (Jd.ltL last x && Tx.line x 100) with
    | false => rfl
    | true =>
      rw [h3, Bool.true_and] at h2
      rw [rise_stop h2]
      rfl
end Go.Proofs.YtogjhpcjjmcjfaaGreatDoor
end
section
/- what is reached of it -/
namespace Go.Proofs.YtogjhpcjjmcjfaaGreatDoor.Ct
open Go.Proofs.YtogjhpcjjmcjfaaGreatDoor Tx Vc
theorem groupsL_len (l : List (List UInt8)) : (groupsL l).length ≤ l.length := by
  rw [← groups_way]
  refine Nat.le_trans (List.length_filter_le _ _) (Nat.le_trans (compact_le _) ?_)
  rw [List.length_mergeSort]
  exact Nat.le_refl _
end Go.Proofs.YtogjhpcjjmcjfaaGreatDoor.Ct
namespace Go.Proofs.YtogjhpcjjmcjfaaGreatDoor
open Go.RowKit Vc Ct
end Go.Proofs.YtogjhpcjjmcjfaaGreatDoor
end
section
/- what is reached of it -/
namespace Go.Proofs.YtogjhpcjjmcjfaaGreatDoor
open Go.RowKit Vc Ct
set_option maxHeartbeats 1000000 in
theorem rbareS_any (s : List UInt8) (w : World) (hs : s.length ≤ 1000000) :
    Calls Tryz.prog 35 #[.string (bts s)] w fun e w' => e = .returned (.bool (bareB s)) ∧ Below w.heap.size w w' := by
  have HB := Lib.hid (rbare_any (bts s) w (by rw [Lib.size_eq]; show s.length ≤ _; omega))
  unfold twoV at HB
  rw [show (bts s).data.toList = s from rfl] at HB
  have hb : bareB s = (decide (s = []) || decide (Jd.bareL s = (s, 0))) := rfl
  have e0 := emptyB (l := s)
  obtain ⟨r, hr⟩ : ∃ r, Jd.bareL s = r := ⟨_, rfl⟩
  rw [hr] at HB hb
  have en := bytes_eqb2 r.1 s
  obtain ⟨X, hX⟩ : ∃ X, bts s = X := ⟨_, rfl⟩
  obtain ⟨Y, hY⟩ : ∃ X, (⟨r.1.toArray⟩ : ByteArray) = X := ⟨_, rfl⟩
  rw [hX] at HB e0 en ⊢
  rw [hY] at HB
  rw [show bts r.1 = Y from hY] at en
  clear hr hX hY
  by_cases hs0 : s = []
  · rw [decide_eq_true hs0] at e0 hb
    have hb2 := Lib.hid hb
    obtain ⟨z, hz⟩ : ∃ z, ((r.2 : Nat) : Int) = z := ⟨_, rfl⟩
    rw [hz] at HB
    clear en hb hs0 hz
    go_enter Tryz.func35, Tryz.ntmps35
    go_wp2_with fail
    refine HB.out.mono ?_
    rintro e w1 ⟨rfl, b1⟩
    go_wp2_with fail
    go_ret
    exact ⟨by rw [hb2.out]; rfl, b1⟩
  · rw [decide_eq_false hs0] at e0
    rw [decide_eq_false hs0, Bool.false_or] at hb
    by_cases h0 : r.2 = 0
    · have hb2 : Hid (bareB s = decide (r.1 = s)) := by
        unfold Hid
        rw [hb]
        congr 1
        refine propext ⟨fun e => congrArg Prod.fst e, fun e => Prod.ext e h0⟩
      rw [h0] at HB
      obtain ⟨d, hd⟩ : ∃ d, decide (r.1 = s) = d := ⟨_, rfl⟩
      rw [hd] at hb2 en
      clear hb hs0 h0 hd
      go_enter Tryz.func35, Tryz.ntmps35
      go_wp2_with fail
      refine HB.out.mono ?_
      rintro e w1 ⟨rfl, b1⟩
      go_wp2_with fail
      go_ret
      exact ⟨by rw [hb2.out]; rfl, b1⟩
    · have hb2 : Hid (bareB s = false) := by
        unfold Hid
        rw [hb]
        exact decide_eq_false (fun e => h0 (congrArg Prod.snd e))
      have hz : (((r.2 : Nat) : Int) == 0) = false := by simpa using h0
      clear hb hs0 h0 en
      go_enter Tryz.func35, Tryz.ntmps35
      go_wp2_with fail
      refine HB.out.mono ?_
      rintro e w1 ⟨rfl, b1⟩
      go_wp2_with fail
      go_ret
      exact ⟨by rw [hb2.out]; rfl, b1⟩
end Go.Proofs.YtogjhpcjjmcjfaaGreatDoor
end
