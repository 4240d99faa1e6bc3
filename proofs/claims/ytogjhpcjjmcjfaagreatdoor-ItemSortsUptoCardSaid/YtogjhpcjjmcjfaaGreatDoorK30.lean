import Derived.Test.YtogjhpcjjmcjfaaGreatDoorK24
import Derived.Test.YtogjhpcjjmcjfaaGreatDoorK25
import Derived.Test.YtogjhpcjjmcjfaaGreatDoorK20
import Derived.Test.YtogjhpcjjmcjfaaGreatDoorK21
import Derived.Test.YtogjhpcjjmcjfaaGreatDoorK29
import Derived.Laws.EntriesVeiled
import Derived.Deep.RegionWith
import Derived.Deep.RegionLaw
import Derived.Deep.QuietTactic
import Derived.BigQuiet
import Derived.Lib.Strings
import Derived.Test.YtogjhpcjjmcjfaaGreatDoorK27
import Derived.Test.YtogjhpcjjmcjfaaGreatDoorK10
import Derived.Test.YtogjhpcjjmcjfaaGreatDoorK04
import Derived.Lib.Hide
import Derived.Laws.StructEq
import Derived.Lib.SlicesS
import Derived.Deep.Cut
import Derived.Deep.DeepCutAuto
import Derived.IntWalk
section
/- what is reached of it -/
namespace Go.Proofs.YtogjhpcjjmcjfaaGreatDoor
open Go.RowKit Rg Tx
theorem empty_true {a : ByteArray} (h : a.data.toList = []) : a = ⟨#[]⟩ := bytes_of h
theorem text_both {l r : ByteArray} (d : ByteArray) (h : l.data.toList ≠ []) (h2 : r.data.toList ≠ []) : Jd.textL (l.data.toList, d.data.toList, r.data.toList) = l.data.toList ++ [64] ++ d.data.toList ++ ([47] ++ r.data.toList) := by
  unfold Jd.textL
  simp only
  rw [if_neg h, if_neg h2]
theorem text_loc {l : ByteArray} (d : ByteArray) (h : l.data.toList ≠ []) : Jd.textL (l.data.toList, d.data.toList, []) = l.data.toList ++ [64] ++ d.data.toList := by
  have e : Jd.textL (l.data.toList, d.data.toList, []) = (if l.data.toList = [] then d.data.toList else l.data.toList ++ [64] ++ d.data.toList) ++ [] := rfl
  rw [e, if_neg h, List.append_nil]
theorem text_res {r : ByteArray} (d : ByteArray) (h2 : r.data.toList ≠ []) : Jd.textL ([], d.data.toList, r.data.toList) = d.data.toList ++ ([47] ++ r.data.toList) := by
  have e : Jd.textL ([], d.data.toList, r.data.toList) = d.data.toList ++ (if r.data.toList = [] then [] else [47] ++ r.data.toList) := rfl
  rw [e, if_neg h2]
theorem text_dom (d : ByteArray) : Jd.textL ([], d.data.toList, []) = d.data.toList := by
  have e : Jd.textL ([], d.data.toList, []) = d.data.toList ++ [] := rfl
  rw [e, List.append_nil]
set_option maxHeartbeats 4000000 in
theorem text_any (l d r : ByteArray) (w : World) (hl : l.size ≤ 1000000) (hd : d.size ≤ 1000000) (hr : r.size ≤ 1000000) :
    Calls Tryz.prog 74 #[.agg #[.string l, .string d, .string r]] w fun e w' => e = .returned (.string (btj (Jd.textL (l.data.toList, d.data.toList, r.data.toList)))) ∧ Below w.heap.size w w' := by
  have hb1 : Below w.heap.size w (w.alloc (.cells #[.string l, .string d, .string r] 85)) := (Below.refl _ w).alloc (Nat.le_refl _) _
  have HB := Lib.hid hb1
  clear hb1
  by_cases h1 : l.data.toList = []
  · obtain rfl := empty_true h1
    by_cases h2 : r.data.toList = []
    · obtain rfl := empty_true h2
      have HF := Lib.hid (text_dom d)
      clear h1 h2
      go_enter Tryz.func74, Tryz.ntmps74
      go_wp2_with fail
      go_ret
      exact ⟨ret_str (bytes_of HF.out.symm), HB.out⟩
    · have e2 := empty_false h2
      have HF := Lib.hid (text_res d h2)
      clear h1 h2
      go_enter Tryz.func74, Tryz.ntmps74
      go_wp2_with fail
      go_ret
      exact ⟨ret_str (bytes_of (by rw [cat_list, cat_list]; exact HF.out.symm)), HB.out⟩
  · have e1 := empty_false h1
    by_cases h2 : r.data.toList = []
    · obtain rfl := empty_true h2
      have HF := Lib.hid (text_loc d h1)
      clear h1 h2
      go_enter Tryz.func74, Tryz.ntmps74
      go_wp2_with fail
      go_ret
      exact ⟨ret_str (bytes_of (by rw [cat_list, cat_list]; exact HF.out.symm)), HB.out⟩
    · have e2 := empty_false h2
      have HF := Lib.hid (text_both d h1 h2)
      clear h1 h2
      go_enter Tryz.func74, Tryz.ntmps74
      go_wp2_with fail
      go_ret
      exact ⟨ret_str (bytes_of (by rw [cat_list, cat_list, cat_list, cat_list]; exact HF.out.symm)), HB.out⟩
theorem jidnV_of {s : Gat} : jidnV s = .tuple #[.agg #[.string (btj s.1.1), .string (btj s.1.2.1), .string (btj s.1.2.2)], .int .i64 (s.2 : Nat)] := rfl
set_option maxHeartbeats 4000000 in
theorem bare_any (s : ByteArray) (w : World) (hO : Okw w) (hs : s.size ≤ 100000000) :
    Calls Tryz.prog 54 #[.string s] w fun e w' => e = .returned (twoV (Jd.bareL s.data.toList)) ∧ Below w.heap.size w w' := by
  have HP := Lib.hid (parse_any s w hO hs)
  obtain ⟨p, hp⟩ : ∃ p, Jd.parseL s.data.toList = p := ⟨_, rfl⟩
  have hlen := Jd.parse_len (s := s.data.toList) (j := p.1)
  have hok := Jd.bare_ok (s := s.data.toList) (j := p.1)
  have hres := Jd.bare_res (s := s.data.toList) (j := p.1)
  have hbad := Jd.bare_bad (s := s.data.toList)
  rw [hp] at HP hlen hok hres hbad
  rw [jidnV_of] at HP
  clear hp hO hs
  obtain ⟨l, hl⟩ : ∃ l, btj p.1.1 = l := ⟨_, rfl⟩
  obtain ⟨d, hd⟩ : ∃ d, btj p.1.2.1 = d := ⟨_, rfl⟩
  obtain ⟨r, hr⟩ : ∃ r, btj p.1.2.2 = r := ⟨_, rfl⟩
  have dl : l.data.toList = p.1.1 := by rw [← hl]
  have dd : d.data.toList = p.1.2.1 := by rw [← hd]
  have dr : r.data.toList = p.1.2.2 := by rw [← hr]
  rw [hl, hd, hr] at HP
  by_cases h0 : p.2 = 0
  · have e0 : p = (p.1, 0) := Prod.ext rfl h0
    obtain ⟨z1, z2, z3⟩ := hlen e0
    rw [h0] at HP
    by_cases h1 : p.1.2.2 = []
    · have HF := Lib.hid (hok e0 h1)
      have hre : r = ⟨#[]⟩ := empty_true (by rw [dr]; exact h1)
      subst hre
      have HT := Lib.hid (fun W => text_any l d ⟨#[]⟩ W (by rw [Lib.size_eq, dl]; omega) (by rw [Lib.size_eq, dd]; omega) (by decide))
      have e3 : (l.data.toList, d.data.toList, (⟨#[]⟩ : ByteArray).data.toList) = p.1 := by rw [dl, dd]; exact Prod.ext rfl (Prod.ext rfl h1.symm)
      rw [e3] at HT
      rw [show twoV (Jd.bareL s.data.toList) = .tuple #[.string (btj (Jd.textL p.1)), .int .i64 0] from by rw [HF.out]; rfl]
      obtain ⟨x, hx⟩ : ∃ x, btj (Jd.textL p.1) = x := ⟨_, rfl⟩
      rw [hx] at HT ⊢
      clear hlen hok hres hbad hl hd hr dl dd dr e0 z1 z2 z3 h0 h1 HF e3 hx
      go_enter Tryz.func54, Tryz.ntmps54
      go_wp2_with fail
      refine HP.out.mono ?_
      rintro e w1 ⟨rfl, b1⟩
      have hb1 : Below w.heap.size w (w1.alloc (.cells #[.string l, .string d, .string ⟨#[]⟩] 85)) := b1.alloc b1.size _
      have B1 := Lib.hid hb1
      clear b1 hb1
      go_wp2_with fail
      refine (HT.out _).mono ?_
      rintro e w2 ⟨rfl, b2⟩
      have B2 := Lib.hid (B1.out.trans (b2.mono B1.out.size))
      clear b2
      go_wp2_with fail
      go_ret2
      exact ⟨rfl, B2.out⟩
    · have HF := Lib.hid (hres e0 h1)
      have hne := empty_false (a := r) (by rw [dr]; exact h1)
      rw [show twoV (Jd.bareL s.data.toList) = .tuple #[.string ⟨#[]⟩, .int .i64 14] from by rw [HF.out]; rfl]
      clear hlen hok hres hbad hl hd hr dl dd dr e0 z1 z2 z3 h0 h1 HF
      go_enter Tryz.func54, Tryz.ntmps54
      go_wp2_with fail
      refine HP.out.mono ?_
      rintro e w1 ⟨rfl, b1⟩
      have hb1 : Below w.heap.size w (w1.alloc (.cells #[.string l, .string d, .string r] 85)) := b1.alloc b1.size _
      have B1 := Lib.hid hb1
      clear b1 hb1
      go_wp2_with fail
      go_ret2
      exact ⟨rfl, B1.out⟩
  · have HF := Lib.hid (hbad h0)
    rw [show twoV (Jd.bareL s.data.toList) = .tuple #[.string ⟨#[]⟩, .int .i64 (p.2 : Nat)] from by rw [HF.out]; rfl]
    obtain ⟨n, hn⟩ : ∃ n : Int, ((p.2 : Nat) : Int) = n := ⟨_, rfl⟩
    rw [hn] at HP ⊢
    have hn0 : n ≠ 0 := by omega
    have hnB : (n != 0) = true := by simpa using hn0
    clear hlen hok hres hbad hl hd hr dl dd dr h0 HF hn
    go_enter Tryz.func54, Tryz.ntmps54
    go_wp2_with fail
    refine HP.out.mono ?_
    rintro e w1 ⟨rfl, b1⟩
    have hb1 : Below w.heap.size w (w1.alloc (.cells #[.string l, .string d, .string r] 85)) := b1.alloc b1.size _
    have B1 := Lib.hid hb1
    clear b1 hb1
    go_wp2_with fail
    go_ret2
    exact ⟨rfl, B1.out⟩
end Go.Proofs.YtogjhpcjjmcjfaaGreatDoor
end
section
/- what is reached of it -/
namespace Go.Proofs.YtogjhpcjjmcjfaaGreatDoor
open Go.RowKit Vc Ct
def conCells (c : Con) (g o : Value) : Array Value := #[.string (bts c.name), .string (bts c.family), .string (bts c.given), .string (bts c.nick), .string (bts c.jid), .string (bts c.email), .string (bts c.tel), .string (bts c.note), .string (bts c.uid), g, o]
abbrev agC (c : Con) (g o : Value) : Value := .agg (conCells c g o)
/-- Attributes, properties that can be read, each at a place of its own. -/
def SeenA (w : World) (u : Value) (l : List Att) : Prop := ∃ A cap, u = .slice A l.length cap ∧ (0 < l.length → ∃ b o : Nat, A = some ⟨b, o, none⟩ ∧ b < w.heap.size ∧ ∀ i a, l[i]? = some a → w.cell? ⟨b, o + i * 2, none⟩ = some (.string (bts a.1)) ∧ w.cell? ⟨b, o + i * 2 + 1, none⟩ = some (.string (bts a.2)))
theorem SeenA.reads {w : World} {u : Value} {l : List Att} (h : SeenA w u l) : ReadA w u l := by
  obtain ⟨A, cap, rfl, h2⟩ := h
  refine ⟨A, cap, rfl, fun h0 => ?_⟩
  obtain ⟨b, o, rfl, hl, hc⟩ := h2 h0
  refine ⟨_, rfl, hl, fun i a hi => ?_⟩
  rw [add_at]
  exact hc i a hi
theorem SeenA.below {w w' : World} {u : Value} {l : List Att} (h : SeenA w u l) (hb : Below w.heap.size w w') : SeenA w' u l := by
  obtain ⟨A, cap, rfl, h2⟩ := h
  refine ⟨A, cap, rfl, fun h0 => ?_⟩
  obtain ⟨b, o, rfl, hl, hc⟩ := h2 h0
  refine ⟨b, o, rfl, Nat.lt_of_lt_of_le hl hb.size, fun i a hi => ?_⟩
  rw [hb.cell (p := ⟨b, o + i * 2, none⟩) hl, hb.cell (p := ⟨b, o + i * 2 + 1, none⟩) hl]
  exact hc i a hi
def SeenP (w : World) (v : Value) (ps : List Pr) : Prop := ∃ A cap, v = .slice A ps.length cap ∧ (0 < ps.length → ∃ ad : Addr, A = some ad ∧ ad.block < w.heap.size ∧ ∀ i x, ps[i]? = some x → ∃ u, AtP w (ad.add (i * 4)) x u ∧ SeenA w u x.2.2.1)
theorem SeenP.reads {w : World} {v : Value} {ps : List Pr} (h : SeenP w v ps) : ReadP w v ps := by
  obtain ⟨A, cap, rfl, h2⟩ := h
  refine ⟨A, cap, rfl, fun h0 => ?_⟩
  obtain ⟨ad, rfl, hl, hc⟩ := h2 h0
  refine ⟨ad, rfl, hl, fun i x hi => ?_⟩
  obtain ⟨u, h3, h4⟩ := hc i x hi
  exact ⟨u, h3, h4.reads⟩
theorem SeenP.below {w w' : World} {v : Value} {ps : List Pr} (h : SeenP w v ps) (hb : Below w.heap.size w w') : SeenP w' v ps := by
  obtain ⟨A, cap, rfl, h2⟩ := h
  refine ⟨A, cap, rfl, fun h0 => ?_⟩
  obtain ⟨ad, rfl, hl, hc⟩ := h2 h0
  refine ⟨ad, rfl, Nat.lt_of_lt_of_le hl hb.size, fun i x hi => ?_⟩
  obtain ⟨u, h3, h4⟩ := hc i x hi
  exact ⟨u, h3.of (hb.block _ (by rw [addBlock]; exact hl)), h4.below hb⟩
theorem SeenP.nil (w : World) : SeenP w (.slice none 0 0) [] := ⟨none, 0, rfl, fun h => absurd h (Nat.not_lt_zero _)⟩
/-- A contact that can be read. -/
def SeenC (w : World) (v : Value) (c : Con) : Prop := ∃ g o, v = agC c g o ∧ ReadT w.heap.size w g (sts c.groups) ∧ SeenP w o c.other
theorem ReadT.upon {w w' : World} {v : Value} {x : List ByteArray} (h : ReadT w.heap.size w v x) (hb : Below w.heap.size w w') : ReadT w'.heap.size w' v x := (h.below hb).more hb.size
theorem SeenC.below {w w' : World} {v : Value} {c : Con} (h : SeenC w v c) (hb : Below w.heap.size w w') : SeenC w' v c := by
  obtain ⟨g, o, rfl, h1, h2⟩ := h
  exact ⟨g, o, rfl, h1.upon hb, h2.below hb⟩
end Go.Proofs.YtogjhpcjjmcjfaaGreatDoor
end
section
/- what is reached of it -/
namespace Go.Proofs.YtogjhpcjjmcjfaaGreatDoor
open Go.RowKit Vc Ct
/-- Only blocks that S names may have turned. -/
structure But (S : Nat → Prop) (w w' : World) : Prop where
  os : w'.os = w.os
  tape : w'.tape = w.tape
  output : w'.output = w.output
  size : w.heap.size ≤ w'.heap.size
  block : ∀ k, k < w.heap.size → ¬ S k → w'.heap[k]? = w.heap[k]?
theorem But.refl (S : Nat → Prop) (w : World) : But S w w := ⟨rfl, rfl, rfl, Nat.le_refl _, fun _ _ _ => rfl⟩
theorem But.trans {S : Nat → Prop} {a b c : World} (h : But S a b) (k : But S b c) : But S a c :=
  ⟨k.os.trans h.os, k.tape.trans h.tape, k.output.trans h.output, Nat.le_trans h.size k.size, fun i hi hs => (k.block i (Nat.lt_of_lt_of_le hi h.size) hs).trans (h.block i hi hs)⟩
theorem But.new {S : Nat → Prop} {a b : World} (h : Below a.heap.size a b) : But S a b := ⟨h.os, h.tape, h.output, h.size, fun i hi _ => h.block i hi⟩
theorem But.below {S : Nat → Prop} {a b : World} {B : Nat} (h : But S a b) (hB : B ≤ a.heap.size) (hn : ∀ i, i < B → ¬ S i) : Below B a b := ⟨h.os, h.tape, h.output, h.size, fun i hi => h.block i (by omega) (hn i hi)⟩
theorem But.grown {a b : World} {g : Nat} (h : But (· = g) a b) : a.grownBy b (some g) := ⟨h.os, h.tape, h.output, h.size, fun i hi hn => h.block i hi (fun e => hn (by rw [e]))⟩
/-- A block of texts. -/
def Txts (w : World) (h : Nat) (xs : List (List UInt8)) : Prop := ∃ cs : Array Value, Bk w h 9 cs ∧ ∀ (j : Nat) (x : List UInt8), xs[j]? = some x → cs[j]? = some (Value.string (bts x))
theorem Txts.cell {w : World} {h : Nat} {xs : List (List UInt8)} (t : Txts w h xs) {j : Nat} {x : List UInt8} (hj : xs[j]? = some x) : w.cell? ⟨h, j, none⟩ = some (.string (bts x)) := by
  obtain ⟨cs, hk, hc⟩ := t
  rw [hk.cell]
  exact hc j x hj
theorem Txts.lt {w : World} {h : Nat} {xs : List (List UInt8)} (t : Txts w h xs) : h < w.heap.size := by
  obtain ⟨cs, hk, _⟩ := t
  exact hk.lt
theorem Txts.holds {w : World} {h : Nat} {xs : List (List UInt8)} (t : Txts w h xs) : Go.Sort.Holds encStr w h 0 xs.toArray := by
  obtain ⟨cs, hk, hc⟩ := t
  intro j hj
  have hj2 : j < xs.length := by simpa using hj
  rw [Nat.zero_add, hk.cell, hc j xs[j] (List.getElem?_eq_getElem hj2), getElem!_pos _ j hj]
  exact ⟨by simp [encStr], hk.free j⟩
/-- texts laid in the place of as many -/
theorem Txts.put {w : World} {h : Nat} {xs ys : List (List UInt8)} (t : Txts w h xs) (hl : ys.length = xs.length) (n : Nat) (os : Array Obj) : Txts (Go.Sort.grow (Go.Sort.putRow encStr (Go.Sort.ahead w n) h 0 ys.toArray) os) h ys ∧ But (· = h) w (Go.Sort.grow (Go.Sort.putRow encStr (Go.Sort.ahead w n) h 0 ys.toArray) os) := by
  have hH := t.holds
  have hlt := t.lt
  obtain ⟨cs, hk, hc⟩ := t
  have hsz : (Go.Sort.putRow encStr (Go.Sort.ahead w n) h 0 ys.toArray).heap.size = w.heap.size := by rw [Go.Sort.size_putRow]; rfl
  have hK : (Go.Sort.putRow encStr (Go.Sort.ahead w n) h 0 ys.toArray).heap[h]? = some (.cells (Go.Sort.putCells encStr 0 ys.toArray cs) 9 (0, 0)) := by
    unfold Go.Sort.putRow Go.Sort.mapBlock
    have e : (Go.Sort.ahead w n).heap[h]? = some (.cells cs 9 (0, 0)) := hk
    show ((Go.Sort.ahead w n).heap.modify h _)[h]? = _
    rw [Array.getElem?_modify, if_pos rfl, e]
    rfl
  refine ⟨⟨Go.Sort.putCells encStr 0 ys.toArray cs, (Go.Sort.heap_grow_old _ os (by rw [hsz]; exact hlt)).trans hK, fun j y hj => ?_⟩, ⟨rfl, rfl, rfl, ?_, fun i hi hne => ?_⟩⟩
  · have hj2 : j < ys.length := (List.getElem?_eq_some_iff.1 hj).1
    obtain ⟨x, hx⟩ : ∃ x, xs[j]? = some x := ⟨_, List.getElem?_eq_getElem (by omega)⟩
    have hcj := hc j x hx
    unfold Go.Sort.putCells
    rw [Array.getElem?_mapIdx, hcj, Option.map_some, if_pos ⟨Nat.zero_le _, by simpa using hj2⟩, Nat.sub_zero, getElem!_pos _ j (by simpa using hj2)]
    have e3 : ys[j] = y := (List.getElem?_eq_some_iff.1 hj).2
    rw [← e3]
    simp [encStr]
  · rw [Go.Sort.size_grow, hsz]; omega
  · rw [Go.Sort.heap_grow_old _ os (by rw [hsz]; exact hi)]
    unfold Go.Sort.putRow Go.Sort.mapBlock
    show ((Go.Sort.ahead w n).heap.modify h _)[i]? = _
    rw [Array.getElem?_modify, if_neg (fun e => hne e.symm)]
    rfl
theorem Txts.below {w w' : World} {h B : Nat} {xs : List (List UInt8)} (t : Txts w h xs) (hb : Below B w w') (hh : h < B) : Txts w' h xs := by
  obtain ⟨cs, hk, hc⟩ := t
  exact ⟨cs, hk.below hb hh, hc⟩
theorem Txts.set {w : World} {g h o : Nat} {xs : List (List UInt8)} (t : Txts w h xs) (hn : h ≠ g) (u : Value) : Txts (w.setCell ⟨g, o, none⟩ u) h xs := by
  obtain ⟨cs, hk, hc⟩ := t
  exact ⟨cs, hk.far hn u, hc⟩
theorem Txts.more {w : World} {h : Nat} {xs ys : List (List UInt8)} (t : Txts w h (xs ++ ys)) : Txts w h xs := by
  obtain ⟨cs, hk, hc⟩ := t
  exact ⟨cs, hk, fun j x hj => hc j x (by rw [List.getElem?_append_left (List.getElem?_eq_some_iff.1 hj).1]; exact hj)⟩
theorem OwnT.set {B g o : Nat} {w : World} {v u : Value} {x : List ByteArray} (h : OwnT B w v x) (hg : g < B) : OwnT B (w.setCell ⟨g, o, none⟩ u) v x :=
  h.kept fun j hj => Below.heap_setCell _ _ _ _ (by have := (h.low hj).1; show j ≠ g; omega)
end Go.Proofs.YtogjhpcjjmcjfaaGreatDoor
end
section
/- what is reached of it -/
namespace Go.Proofs.YtogjhpcjjmcjfaaGreatDoor
open Go.RowKit Tx
set_option maxHeartbeats 400000 in
theorem line_any (s : ByteArray) (most : Int) (w : World) (hT : Tabs w) (hs : s.size ≤ 140737488355328) :
    Calls Tryz.prog 55 #[.string s, .int .i64 most] w fun e w' => e = .returned (.bool (line s.data.toList most)) ∧ Below w.heap.size w w' := by
  have HW := Lib.hid (walk_span s w hT hs)
  cases hch : ch s.data.toList with
  | none =>
    have HS := Lib.hid (spanOf_none hch)
    rw [line_none hch]
    clear hch
    go_enter Tryz.func55, Tryz.ntmps55
    go_wp2_with (go_at_call 75; refine HW.out.mono ?_; rintro e w1 ⟨rfl, hb⟩; rw [HS.out])
    go_ret
    exact ⟨rfl, hb.alloc hb.size _⟩
  | some x =>
    have HS := Lib.hid (spanOf_some hch)
    rw [line_some hch]
    clear hch
    obtain ⟨a, ha⟩ : ∃ a, x.length = a := ⟨_, rfl⟩
    obtain ⟨b, hb0⟩ : ∃ b, low x = b := ⟨_, rfl⟩
    rw [ha, hb0] at HS
    rw [ha, hb0]
    clear ha hb0
    by_cases h0 : b = 0
    · subst h0
      go_enter Tryz.func55, Tryz.ntmps55
      go_wp2_with (go_at_call 75; refine HW.out.mono ?_; rintro e w1 ⟨rfl, hb⟩; rw [HS.out])
      go_ret
      exact ⟨rfl, hb.alloc hb.size _⟩
    · have g0 : ((b : Int) == 0) = false := by simpa using h0
      have g1 : (b == 0) = false := by simpa using h0
      go_enter Tryz.func55, Tryz.ntmps55
      go_wp2_with (go_at_call 75; refine HW.out.mono ?_; rintro e w1 ⟨rfl, hb⟩; rw [HS.out])
      go_ret
      exact ⟨by simp [g1], hb.alloc hb.size _⟩
end Go.Proofs.YtogjhpcjjmcjfaaGreatDoor
end
section
/- what is reached of it -/
namespace Go.Proofs.YtogjhpcjjmcjfaaGreatDoor
open Go.RowKit Vc Ct
theorem bytes_eqb2 (a b : List UInt8) : ((bts a).toList == (bts b).toList) = decide (a = b) := by
  rw [ByteArray.toList_mk, ByteArray.toList_mk]
  by_cases h : a = b
  · simp [h]
  · simp [h]
end Go.Proofs.YtogjhpcjjmcjfaaGreatDoor
end
