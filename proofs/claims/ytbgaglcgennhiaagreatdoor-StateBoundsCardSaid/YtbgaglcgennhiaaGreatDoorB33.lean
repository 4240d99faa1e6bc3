import Derived.Test.YtbgaglcgennhiaaGreatDoorB31
import Derived.Sort.KeysCollected
import Derived.Sort.Walk0
import Derived.Lib.SlicesCompact
import Derived.Laws.EntriesVeiled
import Derived.Test.YtbgaglcgennhiaaGreatDoorB17
import Derived.Deep.RegionWith
import Derived.Deep.RegionLaw
import Derived.Deep.QuietTactic
import Derived.BigQuiet
import Derived.Test.YtbgaglcgennhiaaGreatDoorB28
import Derived.Sort.Grow
import Derived.Lib.Strings
import Derived.Test.YtbgaglcgennhiaaGreatDoorB29
import Derived.Test.YtbgaglcgennhiaaGreatDoorB14
import Derived.Test.YtbgaglcgennhiaaGreatDoorB05
import Derived.Lib.Hide
import Derived.Laws.StructEq
import Derived.Lib.SlicesS
import Derived.Deep.Cut
import Derived.Deep.DeepCutAuto
import Derived.IntWalk
import Derived.Test.YtbgaglcgennhiaaGreatDoorB24
import Derived.Lib.ConvBytes
import Derived.Lib.AtoiErrMem
import Derived.Test.YtbgaglcgennhiaaGreatDoorB32
import Derived.Shelf.SlicesQ.IndexFunc
import Derived.Deep.Upon
import Derived.Deep.MidRow
import Derived.Shelf.SlicesE.Clone
import Derived.Lib.SliceRun
import Derived.Laws.AppendOwnNone
section
/- what is reached of it -/
namespace Go.Proofs.YtbgaglcgennhiaaGreatDoor.Ct
open Go.Proofs.YtbgaglcgennhiaaGreatDoor Tx Vc
theorem lt_iff (x y : List UInt8) : Jd.ltL x y = true ↔ x < y := by
  unfold Jd.ltL
  rw [Go.Proofs.bytesLess_eq, decide_eq_true_eq]
theorem rising_pair : ∀ {l : List (List UInt8)}, l.Pairwise (fun x y => Jd.ltL x y = true) → risingB l = true
  | [], _ => rfl
  | [_], _ => rfl
  | x :: y :: t, h => by
    obtain ⟨h1, h2⟩ := List.pairwise_cons.1 h
    show (Jd.ltL x y && risingB (y :: t)) = true
    rw [h1 y List.mem_cons_self, rising_pair h2]
    rfl
/-- all that is sorted stands in order -/
theorem sorted_at {zs : List (List UInt8)} : (zs.mergeSort fun x y => decide (x ≤ y)).Pairwise (fun x y => x ≤ y) := by
  have tr : ∀ a b c : List UInt8, decide (a ≤ b) = true → decide (b ≤ c) = true → decide (a ≤ c) = true := fun a b c h1 h2 => by
    simp only [decide_eq_true_eq] at *
    exact List.le_trans h1 h2
  have tot : ∀ a b : List UInt8, (decide (a ≤ b) || decide (b ≤ a)) = true := fun a b => by
    simp only [Bool.or_eq_true, decide_eq_true_eq]
    exact List.le_total a b
  exact (List.pairwise_mergeSort tr tot zs).imp (fun h => of_decide_eq_true h)
theorem compact_rising {s : List (List UInt8)} (h : s.Pairwise (fun x y => x ≤ y)) : (Lib.compact s).Pairwise (fun x y => Jd.ltL x y = true) ∧ ∀ x, x ∈ Lib.compact s ↔ x ∈ s := by
  have hle : ∀ i j, i ≤ j → j < s.length → s.toArray[i]! ≤ s.toArray[j]! := fun i j hij hj => by
    have hi : i < s.length := by omega
    rw [getElem!_pos _ i (by simpa using hi), getElem!_pos _ j (by simpa using hj)]
    rcases Nat.lt_or_eq_of_le hij with h2 | h2
    · have := List.pairwise_iff_getElem.1 h i j hi hj h2
      simpa using this
    · subst h2
      exact List.le_refl _
  constructor
  · unfold Lib.compact Lib.compactUpTo
    rw [List.pairwise_map]
    have hr : ((List.range s.length).filter (Lib.keeps s.toArray)).Pairwise (fun i j => i < j ∧ Lib.keeps s.toArray j = true ∧ j < s.length) := by
      refine List.Pairwise.imp_of_mem (R := fun i j => i < j) (fun {i j} hi hj hlt => ?_) (List.Pairwise.filter _ List.pairwise_lt_range)
      obtain ⟨k1, k2⟩ := List.mem_filter.1 hj
      exact ⟨hlt, k2, List.mem_range.1 k1⟩
    refine hr.imp (fun {i j} hij => ?_)
    obtain ⟨hlt, hk, hj⟩ := hij
    rw [lt_iff]
    have h1 := hle i j (by omega) hj
    rcases List.le_iff_lt_or_eq.1 h1 with h2 | h2
    · exact h2
    · exfalso
      unfold Lib.keeps at hk
      rcases of_decide_eq_true hk with k | k
      · omega
      · apply k
        have a1 := hle i (j - 1) (by omega) (by omega)
        have a2 := hle (j - 1) j (by omega) hj
        rw [h2] at a1
        exact List.le_antisymm a1 a2
  · intro x
    unfold Lib.compact Lib.compactUpTo
    rw [List.mem_map]
    constructor
    · rintro ⟨i, hi, rfl⟩
      have := List.mem_range.1 (List.mem_filter.1 hi).1
      rw [getElem!_pos _ i (by simpa using this)]
      simp
    · intro hx
      obtain ⟨j, hj, rfl⟩ := List.getElem_of_mem hx
      have key : ∀ j, j < s.length → ∃ k, k < s.length ∧ Lib.keeps s.toArray k = true ∧ s.toArray[k]! = s.toArray[j]! := by
        intro j
        induction j with
        | zero => exact fun hj => ⟨0, hj, decide_eq_true (.inl rfl), rfl⟩
        | succ j ih =>
          intro hj
          by_cases hk : Lib.keeps s.toArray (j + 1) = true
          · exact ⟨j + 1, hj, hk, rfl⟩
          · obtain ⟨k, k1, k2, k3⟩ := ih (by omega)
            refine ⟨k, k1, k2, k3.trans ?_⟩
            unfold Lib.keeps at hk
            have h2 := of_decide_eq_false (Bool.eq_false_iff.2 hk)
            have h3 : ¬ s.toArray[j + 1]! ≠ s.toArray[j + 1 - 1]! := fun e => h2 (.inr e)
            exact (Decidable.not_not.1 h3).symm
      obtain ⟨k, k1, k2, k3⟩ := key j hj
      refine ⟨k, List.mem_filter.2 ⟨List.mem_range.2 k1, k2⟩, k3.trans ?_⟩
      rw [getElem!_pos _ j (by simpa using hj)]
      simp
/-- sorted, each once, none "": these are the groups -/
theorem groups_way (zs : List (List UInt8)) : (Lib.compact (zs.mergeSort fun x y => decide (x ≤ y))).filter (fun x => decide (x ≠ [])) = groupsL zs := by
  obtain ⟨h1, h2⟩ := compact_rising (sorted_at (zs := zs))
  refine groups_is (rising_pair (h1.filter _)) fun g => ?_
  rw [List.mem_filter, h2, List.mem_mergeSort, decide_eq_true_eq]
end Go.Proofs.YtbgaglcgennhiaaGreatDoor.Ct
end
section
/- what is reached of it -/
namespace Go.Proofs.YtbgaglcgennhiaaGreatDoor
open Go.RowKit Vc Ct
/-- Only blocks that S names may have turned. -/
structure But (S : Nat → Prop) (w w' : World) : Prop where
  os : w'.os = w.os
  tape : w'.tape = w.tape
  output : w'.output = w.output
  size : w.heap.size ≤ w'.heap.size
  block : ∀ k, k < w.heap.size → ¬ S k → w'.heap[k]? = w.heap[k]?
theorem But.refl (S : Nat → Prop) (w : World) : But S w w := ⟨rfl, rfl, rfl, Nat.le_refl _, fun _ _ _ => rfl⟩
theorem But.trans {S : Nat → Prop} {a b c : World} (h : But S a b) (k : But S b c) : But S a c :=
  ⟨k.os.trans h.os, k.tape.trans h.tape, k.output.trans h.output, Nat.le_trans h.size k.size, fun i hi hs => (k.block i (Nat.lt_of_lt_of_le hi h.size) hs).trans (h.block i hi hs)⟩
theorem But.new {S : Nat → Prop} {a b : World} (h : Below a.heap.size a b) : But S a b := ⟨h.os, h.tape, h.output, h.size, fun i hi _ => h.block i hi⟩
theorem But.below {S : Nat → Prop} {a b : World} {B : Nat} (h : But S a b) (hB : B ≤ a.heap.size) (hn : ∀ i, i < B → ¬ S i) : Below B a b := ⟨h.os, h.tape, h.output, h.size, fun i hi => h.block i (by omega) (hn i hi)⟩
theorem But.grown {a b : World} {g : Nat} (h : But (· = g) a b) : a.grownBy b (some g) := ⟨h.os, h.tape, h.output, h.size, fun i hi hn => h.block i hi (fun e => hn (by rw [e]))⟩
/-- A block of texts. -/
def Txts (w : World) (h : Nat) (xs : List (List UInt8)) : Prop := ∃ cs : Array Value, Bk w h 9 cs ∧ ∀ (j : Nat) (x : List UInt8), xs[j]? = some x → cs[j]? = some (Value.string (bts x))
theorem Txts.cell {w : World} {h : Nat} {xs : List (List UInt8)} (t : Txts w h xs) {j : Nat} {x : List UInt8} (hj : xs[j]? = some x) : w.cell? ⟨h, j, none⟩ = some (.string (bts x)) := by
  obtain ⟨cs, hk, hc⟩ := t
  rw [hk.cell]
  exact hc j x hj
theorem Txts.lt {w : World} {h : Nat} {xs : List (List UInt8)} (t : Txts w h xs) : h < w.heap.size := by
  obtain ⟨cs, hk, _⟩ := t
  exact hk.lt
theorem Txts.holds {w : World} {h : Nat} {xs : List (List UInt8)} (t : Txts w h xs) : Go.Sort.Holds encStr w h 0 xs.toArray := by
  obtain ⟨cs, hk, hc⟩ := t
  intro j hj
  have hj2 : j < xs.length := by simpa using hj
  rw [Nat.zero_add, hk.cell, hc j xs[j] (List.getElem?_eq_getElem hj2), getElem!_pos _ j hj]
  exact ⟨by simp [encStr], hk.free j⟩
/-- texts laid in the place of as many -/
theorem Txts.put {w : World} {h : Nat} {xs ys : List (List UInt8)} (t : Txts w h xs) (hl : ys.length = xs.length) (n : Nat) (os : Array Obj) : Txts (Go.Sort.grow (Go.Sort.putRow encStr (Go.Sort.ahead w n) h 0 ys.toArray) os) h ys ∧ But (· = h) w (Go.Sort.grow (Go.Sort.putRow encStr (Go.Sort.ahead w n) h 0 ys.toArray) os) := by
  have hH := t.holds
  have hlt := t.lt
  obtain ⟨cs, hk, hc⟩ := t
  have hsz : (Go.Sort.putRow encStr (Go.Sort.ahead w n) h 0 ys.toArray).heap.size = w.heap.size := by rw [Go.Sort.size_putRow]; rfl
  have hK : (Go.Sort.putRow encStr (Go.Sort.ahead w n) h 0 ys.toArray).heap[h]? = some (.cells (Go.Sort.putCells encStr 0 ys.toArray cs) 9 (0, 0)) := by
    unfold Go.Sort.putRow Go.Sort.mapBlock
    have e : (Go.Sort.ahead w n).heap[h]? = some (.cells cs 9 (0, 0)) := hk
    show ((Go.Sort.ahead w n).heap.modify h _)[h]? = _
    rw [Array.getElem?_modify, if_pos rfl, e]
    rfl
  refine ⟨⟨Go.Sort.putCells encStr 0 ys.toArray cs, (Go.Sort.heap_grow_old _ os (by rw [hsz]; exact hlt)).trans hK, fun j y hj => ?_⟩, ⟨rfl, rfl, rfl, ?_, fun i hi hne => ?_⟩⟩
  · have hj2 : j < ys.length := (List.getElem?_eq_some_iff.1 hj).1
    obtain ⟨x, hx⟩ : ∃ x, xs[j]? = some x := ⟨_, List.getElem?_eq_getElem (by omega)⟩
    have hcj := hc j x hx
    unfold Go.Sort.putCells
    rw [Array.getElem?_mapIdx, hcj, Option.map_some, if_pos ⟨Nat.zero_le _, by simpa using hj2⟩, Nat.sub_zero, getElem!_pos _ j (by simpa using hj2)]
    have e3 : ys[j] = y := (List.getElem?_eq_some_iff.1 hj).2
    rw [← e3]
    simp [encStr]
  · rw [Go.Sort.size_grow, hsz]; omega
  · rw [Go.Sort.heap_grow_old _ os (by rw [hsz]; exact hi)]
    unfold Go.Sort.putRow Go.Sort.mapBlock
    show ((Go.Sort.ahead w n).heap.modify h _)[i]? = _
    rw [Array.getElem?_modify, if_neg (fun e => hne e.symm)]
    rfl
theorem But.on {S : Nat → Prop} {a b c : World} (h : But S a b) (k : Below a.heap.size b c) : But S a c :=
  ⟨k.os.trans h.os, k.tape.trans h.tape, k.output.trans h.output, Nat.le_trans h.size k.size, fun i hi hs => (k.block i hi).trans (h.block i hi hs)⟩
theorem Txts.below {w w' : World} {h B : Nat} {xs : List (List UInt8)} (t : Txts w h xs) (hb : Below B w w') (hh : h < B) : Txts w' h xs := by
  obtain ⟨cs, hk, hc⟩ := t
  exact ⟨cs, hk.below hb hh, hc⟩
theorem Txts.set {w : World} {g h o : Nat} {xs : List (List UInt8)} (t : Txts w h xs) (hn : h ≠ g) (u : Value) : Txts (w.setCell ⟨g, o, none⟩ u) h xs := by
  obtain ⟨cs, hk, hc⟩ := t
  exact ⟨cs, hk.far hn u, hc⟩
theorem Txts.more {w : World} {h : Nat} {xs ys : List (List UInt8)} (t : Txts w h (xs ++ ys)) : Txts w h xs := by
  obtain ⟨cs, hk, hc⟩ := t
  exact ⟨cs, hk, fun j x hj => hc j x (by rw [List.getElem?_append_left (List.getElem?_eq_some_iff.1 hj).1]; exact hj)⟩
theorem OwnT.set {B g o : Nat} {w : World} {v u : Value} {x : List ByteArray} (h : OwnT B w v x) (hg : g < B) : OwnT B (w.setCell ⟨g, o, none⟩ u) v x :=
  h.kept fun j hj => Below.heap_setCell _ _ _ _ (by have := (h.low hj).1; show j ≠ g; omega)
end Go.Proofs.YtbgaglcgennhiaaGreatDoor
end
section
/- what is reached of it -/
namespace Go.Proofs.YtbgaglcgennhiaaGreatDoor
open Go.RowKit Tx
set_option maxHeartbeats 400000 in
theorem line_any (s : ByteArray) (most : Int) (w : World) (hT : Tabs w) (hs : s.size ≤ 140737488355328) :
    Calls Tryz.prog 123 #[.string s, .int .i64 most] w fun e w' => e = .returned (.bool (line s.data.toList most)) ∧ Below w.heap.size w w' := by
  have HW := Lib.hid (walk_span s w hT hs)
  cases hch : ch s.data.toList with
  | none =>
    have HS := Lib.hid (spanOf_none hch)
    rw [line_none hch]
    clear hch
    go_enter Tryz.func123, Tryz.ntmps123
    go_wp2_with (go_at_call 165; refine HW.out.mono ?_; rintro e w1 ⟨rfl, hb⟩; rw [HS.out])
    go_ret
    exact ⟨rfl, hb.alloc hb.size _⟩
  | some x =>
    have HS := Lib.hid (spanOf_some hch)
    rw [line_some hch]
    clear hch
    obtain ⟨a, ha⟩ : ∃ a, x.length = a := ⟨_, rfl⟩
    obtain ⟨b, hb0⟩ : ∃ b, low x = b := ⟨_, rfl⟩
    rw [ha, hb0] at HS
    rw [ha, hb0]
    clear ha hb0
    by_cases h0 : b = 0
    · subst h0
      go_enter Tryz.func123, Tryz.ntmps123
      go_wp2_with (go_at_call 165; refine HW.out.mono ?_; rintro e w1 ⟨rfl, hb⟩; rw [HS.out])
      go_ret
      exact ⟨rfl, hb.alloc hb.size _⟩
    · have g0 : ((b : Int) == 0) = false := by simpa using h0
      have g1 : (b == 0) = false := by simpa using h0
      go_enter Tryz.func123, Tryz.ntmps123
      go_wp2_with (go_at_call 165; refine HW.out.mono ?_; rintro e w1 ⟨rfl, hb⟩; rw [HS.out])
      go_ret
      exact ⟨by simp [g1], hb.alloc hb.size _⟩
end Go.Proofs.YtbgaglcgennhiaaGreatDoor
end
section
/- what is reached of it -/
namespace Go.Proofs.YtbgaglcgennhiaaGreatDoor
open Go.RowKit Vc Ct
theorem bytes_eqb2 (a b : List UInt8) : ((bts a).toList == (bts b).toList) = decide (a = b) := by
  rw [ByteArray.toList_mk, ByteArray.toList_mk]
  by_cases h : a = b
  · simp [h]
  · simp [h]
end Go.Proofs.YtbgaglcgennhiaaGreatDoor
end
section
/- what is reached of it -/
namespace Go.Proofs.YtbgaglcgennhiaaGreatDoor.Ct
open Go.Proofs.YtbgaglcgennhiaaGreatDoor Tx Vc
/-- an address, near to a text -/
def nearJ (s : List UInt8) (k : Nat) : List UInt8 := if (Jd.bareL s).2 = 0 then (Jd.bareL s).1 else ([[97, 64, 104], [98, 64, 104], [99, 64, 104], [100, 64, 120, 46, 121], [104]] : List (List UInt8)).getD (k % 5) []
theorem node_one {b : UInt8} (h : Jd.fitB 1 b = true) : Jd.part true 1 [b] = ([b], 0) := by
  show Jd.sizedL 64 (Pr.prepL 1 [b]) = _
  rw [Jd.fit_prep (fun x hx => by rw [List.mem_singleton] at hx; rw [hx]; exact h)]
  simp [Jd.sizedL]
theorem dom_xy : Jd.domL [120, 46, 121] = ([120, 46, 121], 0) := Jd.dom_of (Jd.fit_prep (by decide)) (by decide) (by decide) (by decide)
theorem near_key (s : List UInt8) (k : Nat) : Jd.bareL (nearJ s k) = (nearJ s k, 0) := by
  unfold nearJ
  by_cases h : (Jd.bareL s).2 = 0
  · rw [if_pos h]
    unfold Jd.bareL at h
    by_cases hp : (Jd.parseL s).2 = 0
    · rw [if_pos hp] at h
      by_cases hr : (Jd.parseL s).1.2.2 = []
      · have hpe : Jd.parseL s = ((Jd.parseL s).1, 0) := Prod.ext rfl hp
        rw [Jd.bare_ok hpe hr]
        exact Jd.bare_back hpe hr
      · rw [if_neg hr] at h
        exact absurd h (by simp)
    · rw [if_neg hp] at h
      exact absurd h hp
  · rw [if_neg h]
    have hk : k % 5 = 0 ∨ k % 5 = 1 ∨ k % 5 = 2 ∨ k % 5 = 3 ∨ k % 5 = 4 := by omega
    have one : ∀ b : UInt8, Jd.fitB 1 b = true → Jd.cutB 47 [b, 64, 104] = ([b, 64, 104], [], false) → Jd.halfL [b, 64, 104] = ([b], [104], true) → Jd.bareL [b, 64, 104] = ([b, 64, 104], 0) := fun b h1 h2 h3 => by
      have h : Jd.parseL [b, 64, 104] = (([b], [104], []), 0) := by
        rw [Jd.parse_eq (s := [b, 64, 104]) (c := ([b, 64, 104], [], false)) (d := ([b], [104], true)) h2 h3]
        simp only
        rw [dom_h, node_one h1]
        rfl
      rw [Jd.bare_ok h rfl]
      rfl
    rcases hk with e | e | e | e | e
    · rw [e]; exact bare_ah
    · rw [e]; exact one 98 (by decide) (by decide) (by decide)
    · rw [e]; exact one 99 (by decide) (by decide) (by decide)
    · rw [e]
      show Jd.bareL [100, 64, 120, 46, 121] = ([100, 64, 120, 46, 121], 0)
      have h : Jd.parseL [100, 64, 120, 46, 121] = (([100], [120, 46, 121], []), 0) := by
        rw [Jd.parse_eq (s := [100, 64, 120, 46, 121]) (c := ([100, 64, 120, 46, 121], [], false)) (d := ([100], [120, 46, 121], true)) (by decide) (by decide)]
        simp only
        rw [dom_xy, node_one (by decide)]
        rfl
      rw [Jd.bare_ok h rfl]
      rfl
    · rw [e]
      show Jd.bareL [104] = ([104], 0)
      have h : Jd.parseL [104] = (([], [104], []), 0) := by
        rw [Jd.parse_eq (s := [104]) (c := ([104], [], false)) (d := ([], [104], false)) (by decide) (by decide)]
        simp only
        rw [dom_h]
        rfl
      rw [Jd.bare_ok h rfl]
      rfl
theorem near_bare (s : List UInt8) (k : Nat) : bareB (nearJ s k) = true := by
  unfold bareB
  rw [near_key, decide_eq_true (rfl : (nearJ s k, 0) = (nearJ s k, 0)), Bool.or_true]
theorem note_line {t : List UInt8} (h : line t 200 = true) : noteB t = true := by
  obtain ⟨cs, h1, h2, h3⟩ := line_chars h
  unfold noteB
  rw [line_valid h, runes_some h1]
  rw [line_some h1] at h
  have hl : (cs.length : Int) ≤ 200 := of_decide_eq_true (Bool.and_eq_true_iff.1 h).2
  have hb : t.all (fun b => b != 13) = true := List.all_eq_true.2 fun b hb => by
    have h13 := line_no13 (t := t) (n := 200) (by rw [line_some h1]; exact h)
    have : b ≠ 13 := fun e => h13 (e ▸ hb)
    simpa using this
  rw [hb, decide_eq_true (show cs.length ≤ 500 by omega)]
  rfl
/-- what is near to a contact -/
structure Near (d : Con) : Prop where
  name : line d.name 100 = true
  some_ : d.name ≠ []
  family : line d.family 50 = true
  given : line d.given 50 = true
  nick : line d.nick 50 = true
  jid : d.jid = [] ∨ ∃ s k, d.jid = nearJ s k
  email : line d.email 50 = true
  tel : line d.tel 50 = true
  note : line d.note 200 = true
  uid : line d.uid 50 = true
  groups : ∃ l, d.groups = groupsL l ∧ l.length ≤ 4 ∧ ∀ g ∈ l, line g 30 = true
  other : d.other = []
theorem Near.right {d : Con} (h : Near d) : rightC d = true := by
  obtain ⟨l, hg, hl, hx⟩ := h.groups
  refine right_of h.some_ ?_ (note_line h.note) ?_ ?_ (by rw [h.other]; exact none_ok)
  · unfold textsB
    rw [h.name, line_more h.family (by decide), line_more h.given (by decide), line_more h.nick (by decide), line_more h.email (by decide), line_more h.tel (by decide), line_more h.uid (by decide)]
    rfl
  · rcases h.jid with e | ⟨s, k, e⟩
    · rw [e]; rfl
    · rw [e]; exact near_bare s k
  · rw [hg]
    exact groups_ok (by omega) hx (by decide)
end Go.Proofs.YtbgaglcgennhiaaGreatDoor.Ct
end
section
/- what is reached of it -/
namespace Go.Proofs.YtbgaglcgennhiaaGreatDoor
open Go.RowKit Vc Ct
theorem Txts.own {w : World} {h : Nat} {xs : List (List UInt8)} (t : Txts w h xs) (cap : Nat) : ReadT w.heap.size w (.slice (some ⟨h, 0, none⟩) xs.length cap) (sts xs) := by
  refine ReadT.made (by unfold sts; rw [List.length_map]) t.lt (fun i b hi => ?_)
  unfold sts at hi
  rw [List.getElem?_map] at hi
  obtain ⟨x, hx, rfl⟩ := Option.map_eq_some_iff.1 hi
  rw [Nat.zero_add]
  exact t.cell hx
end Go.Proofs.YtbgaglcgennhiaaGreatDoor
end
section
/- what is reached of it -/
namespace Go.Proofs.YtbgaglcgennhiaaGreatDoor
open Go.RowKit Vc Ct Tx
theorem sts_of {l : List (List UInt8)} {i : Nat} {b : ByteArray} (h : (sts l)[i]? = some b) : ∃ y, l[i]? = some y ∧ b = bts y := by
  unfold sts at h
  rw [List.getElem?_map] at h
  obtain ⟨y, hy, e⟩ := Option.map_eq_some_iff.1 h
  exact ⟨y, hy, e.symm⟩
end Go.Proofs.YtbgaglcgennhiaaGreatDoor
end
