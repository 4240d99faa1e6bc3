import Derived.Test.YtbgaglcgennhiaaGreatDoorB05
import Derived.Lib.MapLaws
import Derived.Test.YtbgaglcgennhiaaGreatDoorRows
import Derived.WalkKit
import Derived.WalkSpells
import Derived.WalkLawsBesides
import Derived.Lib.SlicesS
import Derived.Laws.AppendOwn
import Derived.Deep.QuietTactic
import Derived.BigQuiet
import Derived.Test.YtbgaglcgennhiaaGreatDoorB04
import Derived.Test.YtbgaglcgennhiaaGreatDoorShelf
import Derived.Lib.FrozenHead2
import Derived.Lib.OthersKept
import Derived.Scope
import Derived.Deep.RegionWith
import Derived.Lib.IndexBytes
section
/- what is reached of it -/
namespace Go.Proofs.YtbgaglcgennhiaaGreatDoor
open Go.RowKit Tx
theorem encodeRune_enc {v : Nat} (h : sane v) : Lib.encodeRune (v : Int) = enc v := by
  have h0 := h
  unfold sane at h0
  have tu : ∀ k : Nat, k.toUInt8 = UInt8.ofNat k := fun k => rfl
  unfold Lib.encodeRune Lib.encodeRuneZ
  rcases enc_cases h with ⟨a, e⟩ | ⟨a, b, e⟩ | ⟨a, b, e⟩ | ⟨a, b, e⟩ <;> rw [e]
  · rw [if_pos (by omega)]
    simp
  · rw [if_neg (by omega), if_pos (by omega)]
    simp only [List.map_cons, List.map_nil, tu]
    rw [show ((192 : Int) + (v : Int) / 64).toNat = 192 + v / 64 by omega, show ((128 : Int) + (v : Int) % 64).toNat = 128 + v % 64 by omega]
  · rw [if_neg (by omega), if_neg (by omega), if_pos (by omega)]
    simp only [List.map_cons, List.map_nil, tu]
    rw [show ((224 : Int) + (v : Int) / 4096).toNat = 224 + v / 4096 by omega, show ((128 : Int) + (v : Int) / 64 % 64).toNat = 128 + v / 64 % 64 by omega, show ((128 : Int) + (v : Int) % 64).toNat = 128 + v % 64 by omega]
  · rw [if_neg (by omega), if_neg (by omega), if_neg (by omega), if_pos (by omega)]
    simp only [List.map_cons, List.map_nil, tu]
    rw [show ((240 : Int) + (v : Int) / 262144).toNat = 240 + v / 262144 by omega, show ((128 : Int) + (v : Int) / 4096 % 64).toNat = 128 + v / 4096 % 64 by omega, show ((128 : Int) + (v : Int) / 64 % 64).toNat = 128 + v / 64 % 64 by omega, show ((128 : Int) + (v : Int) % 64).toNat = 128 + v % 64 by omega]
theorem dc_lib (l : List UInt8) : Lib.decodeL l = dc l := by
  have := Lib.decodeL_N l
  rw [this, dc_eq]
theorem enc_take {l : List UInt8} (hl : l ≠ []) (h : dc l ≠ (65533, 1)) : enc (dc l).1 = l.take (dc l).2 := by
  have h2 := Lib.encode_decode l hl (by rw [dc_lib]; rintro ⟨a, b⟩; exact h (Prod.ext a b))
  rw [dc_lib] at h2
  have hs : sane (dc l).1 := by
    have h3 := dc_valid l
    have h4 := dc_rune l
    unfold sane
    omega
  rw [← encodeRune_enc hs]
  exact h2
theorem ch_flat_back : ∀ (n : Nat) (l : List UInt8) (cs : List Nat), l.length ≤ n → ch l = some cs → flat cs = l
  | n, [], cs, _, h => by
    rw [ch_nil] at h
    obtain rfl : [] = cs := Option.some.inj h
    exact flat_nil
  | 0, _ :: _, _, h, _ => by simp at h
  | n + 1, a :: t, cs, hn, h => by
    by_cases hz : (nx (a :: t)).2 = 0
    · rw [ch_bad (by simp) hz] at h; cases h
    · obtain ⟨e, h1, h2⟩ := nx_some hz
      rw [ch_good (by simp) hz, e] at h
      have hge := dc_ge1 (a :: t)
      cases hr : ch ((a :: t).drop (dc (a :: t)).2) with
      | none => rw [hr] at h; cases h
      | some rest =>
        rw [hr] at h
        obtain rfl : (dc (a :: t)).1 :: rest = cs := Option.some.inj h
        have ih := ch_flat_back n _ rest (by rw [List.length_drop]; simp at hn ⊢; omega) hr
        rw [show (dc (a :: t)).1 :: rest = [(dc (a :: t)).1] ++ rest from rfl, flat_append, flat_one, ih, enc_take (by simp) h1, List.take_append_drop]
theorem ch_good_all : ∀ (n : Nat) (l : List UInt8) (cs : List Nat), l.length ≤ n → ch l = some cs → ∀ c ∈ cs, sane c ∧ okc c = true
  | n, [], cs, _, h => by
    rw [ch_nil] at h
    obtain rfl : [] = cs := Option.some.inj h
    intro c hc
    cases hc
  | 0, _ :: _, _, h, _ => by simp at h
  | n + 1, a :: t, cs, hn, h => by
    by_cases hz : (nx (a :: t)).2 = 0
    · rw [ch_bad (by simp) hz] at h; cases h
    · obtain ⟨e, h1, h2⟩ := nx_some hz
      rw [ch_good (by simp) hz, e] at h
      have hge := dc_ge1 (a :: t)
      cases hr : ch ((a :: t).drop (dc (a :: t)).2) with
      | none => rw [hr] at h; cases h
      | some rest =>
        rw [hr] at h
        obtain rfl : (dc (a :: t)).1 :: rest = cs := Option.some.inj h
        intro c hc
        rcases List.mem_cons.1 hc with rfl | hc
        · refine ⟨?_, h2⟩
          have h3 := dc_valid (a :: t)
          have h4 := dc_rune (a :: t)
          unfold sane
          omega
        · exact ch_good_all n _ rest (by rw [List.length_drop]; simp at hn ⊢; omega) hr c hc
end Go.Proofs.YtbgaglcgennhiaaGreatDoor
end
section
/- what is reached of it -/
namespace Go.Proofs.YtbgaglcgennhiaaGreatDoor
open Go.RowKit
theorem infoStr : (Tryz.prog.info? 9).map (fun i => (i.zero, i.size, i.bytes)) = some (some (.string ⟨#[]⟩), 1, 16) := by kernel_rfl

/-- Strings as values. -/
def strs (x : List ByteArray) : List Value := x.map Value.string
theorem strs_snoc (x : List ByteArray) (c : ByteArray) : strs (x ++ [c]) = strs x ++ [.string c] := by simp [strs]
theorem strs_get {x : List ByteArray} {i : Nat} {b : ByteArray} (h : x[i]? = some b) : (strs x)[i]? = some (.string b) := by simp [strs, h]
attribute [irreducible] strs
/-- The slice v, made by the call (above block B), holds just the strings x. -/
def OwnT (B : Nat) (w : World) (v : Value) (x : List ByteArray) : Prop := w.ownsRow B 9 1 v x.length (strs x)
theorem OwnT.nil (B : Nat) (w : World) : OwnT B w (.slice none 0 0) [] := by
  unfold OwnT
  rw [show strs [] = [] from by unfold strs; rfl]
  exact World.ownsRow_nil _ _ _ _
theorem OwnT.below {B : Nat} {w w' : World} {v : Value} {x : List ByteArray} (h : OwnT B w v x) (hb : Below w.heap.size w w') : OwnT B w' v x := by
  have h' : w.ownsRow B 9 1 v x.length (strs x) := h
  refine h'.kept (w' := w') (row := some w.heap.size) ⟨hb.os, hb.tape, hb.output, hb.size, fun i hi _ => hb.block i hi⟩ ?_
  cases ho : v.ownBlock with
  | none => exact .inl rfl
  | some g => exact .inr (fun e => by have := (h'.lt g ho).2; injection e with e; omega)
theorem OwnT.low {B : Nat} {w : World} {v : Value} {x : List ByteArray} (h : OwnT B w v x) {j : Nat} (hj : v.ownBlock = some j) : B ≤ j ∧ j < w.heap.size := World.ownsRow.lt h j hj
theorem OwnT.slice {B : Nat} {w : World} {v : Value} {x : List ByteArray} (h : OwnT B w v x) : ∃ A cap, v = .slice A x.length cap := by
  rcases h.2 with ⟨rfl, h0⟩ | ⟨g, cap, cur, rfl, _⟩
  · exact ⟨none, 0, by rw [h0]⟩
  · exact ⟨_, _, rfl⟩

/-- A slice that can be read: it holds just the strings x, below block B (nil and empty ones too). -/
def ReadT (B : Nat) (w : World) (v : Value) (x : List ByteArray) : Prop :=
  ∃ A cap, v = .slice A x.length cap ∧ (0 < x.length → ∃ ad : Addr, A = some ad ∧ ad.block < B ∧ ∀ i b, x[i]? = some b → w.cell? (ad.add i) = some (.string b))
theorem ReadT.below {B : Nat} {w w' : World} {v : Value} {x : List ByteArray} (h : ReadT B w v x) (hb : Below B w w') : ReadT B w' v x := by
  obtain ⟨A, cap, rfl, h2⟩ := h
  refine ⟨A, cap, rfl, fun h0 => ?_⟩
  obtain ⟨ad, rfl, hl, hc⟩ := h2 h0
  refine ⟨ad, rfl, hl, fun i b hi => (hb.cell ?_).trans (hc i b hi)⟩
  rw [addBlock]
  exact hl
theorem ReadT.more {B C : Nat} {w : World} {v : Value} {x : List ByteArray} (h : ReadT B w v x) (hB : B ≤ C) : ReadT C w v x := by
  obtain ⟨A, cap, rfl, h2⟩ := h
  refine ⟨A, cap, rfl, fun h0 => ?_⟩
  obtain ⟨ad, rfl, hl, hc⟩ := h2 h0
  exact ⟨ad, rfl, by omega, hc⟩
theorem ReadT.nil (B : Nat) (w : World) (cap : Nat) : ReadT B w (.slice none 0 cap) [] := ⟨none, cap, rfl, fun h => absurd h (by simp)⟩
theorem OwnT.reads {B : Nat} {w : World} {v : Value} {x : List ByteArray} (h : OwnT B w v x) : ReadT w.heap.size w v x := by
  have h' : w.ownsRow B 9 1 v x.length (strs x) := h
  rcases h'.2 with ⟨rfl, h0⟩ | ⟨g, cap, cur, rfl, _, hh, _⟩
  · exact ⟨none, 0, by rw [h0], fun h => absurd h (by omega)⟩
  · refine ⟨_, cap, rfl, fun h0 => ⟨_, rfl, lt_of_block hh, fun i b hi => ?_⟩⟩
    exact h'.cells (g := g) rfl i _ (strs_get hi)
/-- A list that lies in a new block. -/
theorem ReadT.made {w : World} {g cap n o : Nat} {x : List ByteArray} (hn : x.length = n) (hg : g < w.heap.size) (hc : ∀ i b, x[i]? = some b → w.cell? ⟨g, o + i, none⟩ = some (.string b)) : ReadT w.heap.size w (.slice (some ⟨g, o, none⟩) n cap) x := by
  subst hn
  refine ⟨_, cap, rfl, fun _ => ⟨_, rfl, hg, fun i b hi => ?_⟩⟩
  rw [add_at]
  exact hc i b hi

theorem below_drewN1 (w : World) (n : Nat) : Below w.heap.size w (w.drewN n) := ⟨rfl, rfl, rfl, Nat.le_refl _, fun _ _ => rfl⟩
end Go.Proofs.YtbgaglcgennhiaaGreatDoor
end
section
/- what is reached of it -/
namespace Go.Proofs.YtbgaglcgennhiaaGreatDoor.Tx
def valB (c : UInt8) : List UInt8 := if c = 92 ∨ c = 44 ∨ c = 59 then [92, c] else if c = 10 then [92, 110] else if c = 13 then [] else [c]
/-- A text as a value. -/
def val (l : List UInt8) : List UInt8 := l.flatMap valB
/-- What a "\" makes of the byte behind it. -/
def unb (c : UInt8) : Option UInt8 := if c = 92 ∨ c = 44 ∨ c = 59 then some c else if c = 110 ∨ c = 78 then some 10 else none
/-- The text that a value is. -/
def plain : List UInt8 → Option (List UInt8)
  | [] => some []
  | c :: t => if c = 92 then (match t with
    | [] => none
    | d :: u => match unb d with
      | some x => (plain u).map (x :: ·)
      | none => none) else (plain t).map (c :: ·)
theorem plain_nil : plain [] = some [] := rfl
theorem plain_end : plain [92] = none := by unfold plain; rw [if_pos rfl]
theorem plain_bad {d : UInt8} (u : List UInt8) (h : unb d = none) : plain (92 :: d :: u) = none := by
  unfold plain
  rw [if_pos rfl]
  simp only [h]
theorem plain_esc {d x : UInt8} (u : List UInt8) (h : unb d = some x) : plain (92 :: d :: u) = (plain u).map (x :: ·) := by
  conv => lhs; unfold plain
  rw [if_pos rfl]
  simp only [h]
theorem plain_on {c : UInt8} (t : List UInt8) (h : c ≠ 92) : plain (c :: t) = (plain t).map (c :: ·) := by
  conv => lhs; unfold plain
  rw [if_neg h]
theorem plain_run : ∀ (p t : List UInt8), (∀ c ∈ p, c ≠ 92) → plain (p ++ t) = (plain t).map (p ++ ·)
  | [], t, _ => by rw [List.nil_append]; cases plain t <;> rfl
  | c :: p, t, h => by
    rw [List.cons_append, plain_on _ (h c (by simp)), plain_run p t (fun d hd => h d (by simp [hd]))]
    cases plain t <;> rfl
def spl (sep : UInt8) : Bool → List UInt8 → List UInt8 → List (List UInt8)
  | _, cur, [] => [cur]
  | e, cur, c :: t => if c = sep ∧ e = false then cur :: spl sep (c == 92 && !e) [] t else spl sep (c == 92 && !e) (cur ++ [c]) t
theorem spl_nil (sep : UInt8) (e : Bool) (cur : List UInt8) : spl sep e cur [] = [cur] := rfl
theorem spl_cut {sep : UInt8} {e : Bool} (cur : List UInt8) {c : UInt8} (t : List UInt8) (h : c = sep ∧ e = false) : spl sep e cur (c :: t) = cur :: spl sep (c == 92 && !e) [] t := by
  conv => lhs; unfold spl
  rw [if_pos h]
theorem spl_on {sep : UInt8} {e : Bool} (cur : List UInt8) {c : UInt8} (t : List UInt8) (h : ¬ (c = sep ∧ e = false)) : spl sep e cur (c :: t) = spl sep (c == 92 && !e) (cur ++ [c]) t := by
  conv => lhs; unfold spl
  rw [if_neg h]
/-- all but the first one without their first byte -/
def tails : List (List UInt8) → List (List UInt8)
  | [] => []
  | h :: t => h :: t.map List.tail
def split1 (sep : UInt8) (l : List UInt8) : List (List UInt8) := spl sep false [] l
end Go.Proofs.YtbgaglcgennhiaaGreatDoor.Tx
end
section
/- what is reached of it -/
namespace Go.Proofs.YtbgaglcgennhiaaGreatDoor
open Go.RowKit Tx
/-- strings out of lists of bytes -/
def sts (l : List (List UInt8)) : List ByteArray := l.map fun x => ⟨x.toArray⟩
/-- how the document's loop stands: acc are told, the open piece goes from f to k -/
def SStand (sep : UInt8) (l : List UInt8) (acc : List (List UInt8)) (f k : Nat) (e : Bool) : Prop := f ≤ k ∧ k ≤ l.length ∧ acc.length ≤ f ∧ split1 sep l = acc ++ spl sep e ((l.drop f).take (k - f)) (l.drop k)
theorem SStand.start (sep : UInt8) (l : List UInt8) : SStand sep l [] 0 0 false := ⟨Nat.le_refl _, Nat.zero_le _, Nat.le_refl _, by simp [split1]⟩
theorem SStand.done {sep : UInt8} {l : List UInt8} {acc : List (List UInt8)} {f k : Nat} {e : Bool} (h : SStand sep l acc f k e) (hk : l.length ≤ k) : split1 sep l = acc ++ [l.drop f] := by
  obtain ⟨h1, h2, _, h3⟩ := h
  rw [h3, List.drop_eq_nil_of_le hk, spl_nil, List.take_of_length_le (by rw [List.length_drop]; omega)]
theorem SStand.cut {sep c : UInt8} {l : List UInt8} {acc : List (List UInt8)} {f k : Nat} {e : Bool} (h : SStand sep l acc f k e) (hc : l[k]? = some c) (hs : c = sep ∧ e = false) : SStand sep l (acc ++ [(l.drop f).take (k - f)]) (k + 1) (k + 1) (c == 92 && !e) := by
  obtain ⟨h1, h2, h4, h3⟩ := h
  obtain ⟨hk, he⟩ := List.getElem?_eq_some_iff.1 hc
  refine ⟨Nat.le_refl _, hk, by rw [List.length_append, List.length_singleton]; omega, ?_⟩
  rw [h3, List.drop_eq_getElem_cons hk, he, spl_cut _ _ hs]
  simp
theorem SStand.on {sep c : UInt8} {l : List UInt8} {acc : List (List UInt8)} {f k : Nat} {e : Bool} (h : SStand sep l acc f k e) (hc : l[k]? = some c) (hs : ¬ (c = sep ∧ e = false)) : SStand sep l acc f (k + 1) (c == 92 && !e) := by
  obtain ⟨h1, h2, h4, h3⟩ := h
  obtain ⟨hk, he⟩ := List.getElem?_eq_some_iff.1 hc
  refine ⟨by omega, hk, h4, ?_⟩
  have hd : l.drop k = c :: l.drop (k + 1) := by rw [List.drop_eq_getElem_cons hk, he]
  rw [h3, hd, spl_on _ _ hs, take_snoc hd h1]

end Go.Proofs.YtbgaglcgennhiaaGreatDoor
end
section
/- what is reached of it -/
namespace Go.Proofs.YtbgaglcgennhiaaGreatDoor
open Go.RowKit
/-- What a builder's call may turn: block b, and blocks from C on. -/
structure Btw (b C : Nat) (w w' : World) : Prop where
  below : Below b w w'
  mid : ∀ g, b < g → g < C → w'.heap[g]? = w.heap[g]?
theorem Btw.refl (b C : Nat) (w : World) : Btw b C w w := ⟨Below.refl _ _, fun _ _ _ => rfl⟩
theorem Btw.trans {b C : Nat} {w x y : World} (h : Btw b C w x) (k : Btw b C x y) : Btw b C w y := ⟨h.below.trans k.below, fun g h1 h2 => (k.mid g h1 h2).trans (h.mid g h1 h2)⟩
theorem Btw.of {b C D : Nat} {w x : World} (h : Below D w x) (h1 : b ≤ D) (h2 : C ≤ D) : Btw b C w x := ⟨h.mono h1, fun g _ hg => h.block g (by omega)⟩
theorem Btw.keeps {b C g : Nat} {w x : World} (h : Btw b C w x) (h1 : g ≠ b) (h2 : g < C) : x.heap[g]? = w.heap[g]? := by
  rcases Nat.lt_or_ge g b with h3 | h3
  · exact h.below.block g h3
  · exact h.mid g (by omega) h2
end Go.Proofs.YtbgaglcgennhiaaGreatDoor
end
section
/- what is reached of it -/
namespace Go.Proofs.YtbgaglcgennhiaaGreatDoor
open Go.RowKit Tx
/-- a part of a slice -/
def slv (g cap : Nat) (x : Nat × Nat) : Value := .slice (some ⟨g, x.1, none⟩) (x.2 - x.1) (cap - x.1)
def slvs (g cap : Nat) (l : List (Nat × Nat)) : List Value := l.map (slv g cap)
theorem slvs_get {g cap : Nat} {l : List (Nat × Nat)} {j : Nat} {x : Nat × Nat} (h : l[j]? = some x) : (slvs g cap l)[j]? = some (slv g cap x) := by simp [slvs, h]
attribute [irreducible] slvs
theorem drop_bit {bs : List Bool} {k : Nat} {b : Bool} (h : bs[k]? = some b) : bs.drop k = b :: bs.drop (k + 1) := by
  obtain ⟨hk, he⟩ := List.getElem?_eq_some_iff.1 h
  rw [List.drop_eq_getElem_cons hk, he]
/-- how the gathering stands: R are told, the open row goes from o to k -/
def GStand (bs : List Bool) (R : List (Nat × Nat)) (o k : Nat) : Prop := R.length ≤ k ∧ ivs 0 0 bs = R ++ ivs o k (bs.drop k)
theorem GStand.start (bs : List Bool) : GStand bs [] 0 0 := ⟨Nat.le_refl _, rfl⟩
theorem GStand.cut {bs : List Bool} {R : List (Nat × Nat)} {o k : Nat} (h : GStand bs R o k) (hb : bs[k]? = some true) : GStand bs (R ++ [(o, k)]) k (k + 1) := by
  refine ⟨by rw [List.length_append, List.length_singleton]; have := h.1; omega, ?_⟩
  rw [h.2, drop_bit hb]
  show R ++ ((o, k) :: ivs k (k + 1) _) = _
  simp
theorem GStand.on {bs : List Bool} {R : List (Nat × Nat)} {o k : Nat} (h : GStand bs R o k) (hb : bs[k]? = some false) : GStand bs R o (k + 1) := by
  refine ⟨by have := h.1; omega, ?_⟩
  rw [h.2, drop_bit hb]
  rfl
theorem GStand.done {bs : List Bool} {R : List (Nat × Nat)} {o k : Nat} (h : GStand bs R o k) (hk : bs.length ≤ k) : ivs 0 0 bs = R ++ [(o, k)] := by
  rw [h.2, List.drop_eq_nil_of_le hk]
  rfl
/-- A slice of slices, each a part of the one at g. -/
def Rows2 (C : Nat) (w : World) (v : Value) (g cap : Nat) (l : List (Nat × Nat)) : Prop :=
  ∃ g' cap', v = .slice (some ⟨g', 0, none⟩) l.length cap' ∧ l.length ≤ cap' ∧ C ≤ g' ∧ g' < w.heap.size ∧ ∀ j x, l[j]? = some x → w.cell? ⟨g', j, none⟩ = some (slv g cap x)
theorem Rows2.of {C : Nat} {w : World} {v : Value} {g cap : Nat} {l : List (Nat × Nat)} {e : TypeId} (h : w.ownsRow C e 1 v l.length (slvs g cap l)) (hl : 0 < l.length) : Rows2 C w v g cap l := by
  rcases h.2 with ⟨_, h0⟩ | ⟨g', cap', cur, rfl, hC, hg, hc, _⟩
  · omega
  · refine ⟨g', cap', rfl, hc, hC, lt_of_block hg, fun j x hj => ?_⟩
    have := h.cells (g := g') rfl j _ (slvs_get hj)
    rwa [add_at, Nat.zero_add] at this
end Go.Proofs.YtbgaglcgennhiaaGreatDoor
end
section
/- what is reached of it -/
namespace Go.Proofs.YtbgaglcgennhiaaGreatDoor
open Go.RowKit Tx
/-- signs of one byte -/
def Asc (C : ByteArray) : Prop := ∀ i (h : i < C.size), (C[i]'h).toNat < 128
theorem Asc.all {C : ByteArray} (h : Asc C) : ∀ b ∈ C.data.toList, b.toNat < 128 := fun b hb => by
  obtain ⟨i, hi, e⟩ := List.mem_iff_getElem.1 hb
  have hi2 : i < C.size := by rw [Lib.size_eq]; exact hi
  have h2 := Lib.data_getElem? C i hi2
  rw [List.getElem?_eq_getElem hi, e] at h2
  have := h i hi2
  rwa [← Option.some.inj h2] at this
theorem Asc.of {C : ByteArray} (h : C.data.toList.all (fun b => decide (b.toNat < 128)) = true) : Asc C := fun i hi => of_decide_eq_true (List.all_eq_true.1 h _ (List.mem_of_getElem? (Lib.data_getElem? C i hi)))
end Go.Proofs.YtbgaglcgennhiaaGreatDoor
end
