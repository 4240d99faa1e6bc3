import Derived.Test.YtogjhpcjjmcjfaaGreatDoorM24
import Derived.Test.YtogjhpcjjmcjfaaGreatDoorM19
import Derived.Test.YtogjhpcjjmcjfaaGreatDoorM20
import Derived.Test.YtogjhpcjjmcjfaaGreatDoorM28
import Derived.Test.YtogjhpcjjmcjfaaGreatDoorM10
import Derived.Test.YtogjhpcjjmcjfaaGreatDoorM04
import Derived.Lib.OthersKept
import Derived.Scope
import Derived.Deep.RegionWith
import Derived.Test.YtogjhpcjjmcjfaaGreatDoorShelf
import Derived.ScopeJumps
import Derived.WalkMore
import Derived.Lib.Fold
import Derived.Deep.LoopGhost
import Derived.Laws.RangeString
import Derived.Shelf.Strings.SlTrimAscii
import Derived.Lib.Case
import Derived.Deep.RegionLaw
import Derived.Deep.QuietTactic
import Derived.BigQuiet
import Derived.Lib.Hide
import Derived.Laws.StructEq
import Derived.Lib.SlicesS
import Derived.Deep.Cut
import Derived.Deep.DeepCutAuto
import Derived.Laws.AppendOwnNone
import Derived.Laws.EntriesVeiled
import Derived.Test.YtogjhpcjjmcjfaaGreatDoorM27
import Derived.Lib.Strings
import Derived.IntWalk
section
/- what is reached of it -/
namespace Go.Proofs.YtogjhpcjjmcjfaaGreatDoor
open Go.RowKit Vc Ct
def conCells (c : Con) (g o : Value) : Array Value := #[.string (bts c.name), .string (bts c.family), .string (bts c.given), .string (bts c.nick), .string (bts c.jid), .string (bts c.email), .string (bts c.tel), .string (bts c.note), .string (bts c.uid), g, o]
abbrev agC (c : Con) (g o : Value) : Value := .agg (conCells c g o)
/-- Attributes, properties that can be read, each at a place of its own. -/
def SeenA (w : World) (u : Value) (l : List Att) : Prop := ∃ A cap, u = .slice A l.length cap ∧ (0 < l.length → ∃ b o : Nat, A = some ⟨b, o, none⟩ ∧ b < w.heap.size ∧ ∀ i a, l[i]? = some a → w.cell? ⟨b, o + i * 2, none⟩ = some (.string (bts a.1)) ∧ w.cell? ⟨b, o + i * 2 + 1, none⟩ = some (.string (bts a.2)))
theorem SeenA.reads {w : World} {u : Value} {l : List Att} (h : SeenA w u l) : ReadA w u l := by
  obtain ⟨A, cap, rfl, h2⟩ := h
  refine ⟨A, cap, rfl, fun h0 => ?_⟩
  obtain ⟨b, o, rfl, hl, hc⟩ := h2 h0
  refine ⟨_, rfl, hl, fun i a hi => ?_⟩
  rw [add_at]
  exact hc i a hi
theorem SeenA.below {w w' : World} {u : Value} {l : List Att} (h : SeenA w u l) (hb : Below w.heap.size w w') : SeenA w' u l := by
  obtain ⟨A, cap, rfl, h2⟩ := h
  refine ⟨A, cap, rfl, fun h0 => ?_⟩
  obtain ⟨b, o, rfl, hl, hc⟩ := h2 h0
  refine ⟨b, o, rfl, Nat.lt_of_lt_of_le hl hb.size, fun i a hi => ?_⟩
  rw [hb.cell (p := ⟨b, o + i * 2, none⟩) hl, hb.cell (p := ⟨b, o + i * 2 + 1, none⟩) hl]
  exact hc i a hi
def SeenP (w : World) (v : Value) (ps : List Pr) : Prop := ∃ A cap, v = .slice A ps.length cap ∧ (0 < ps.length → ∃ ad : Addr, A = some ad ∧ ad.block < w.heap.size ∧ ∀ i x, ps[i]? = some x → ∃ u, AtP w (ad.add (i * 4)) x u ∧ SeenA w u x.2.2.1)
theorem SeenP.reads {w : World} {v : Value} {ps : List Pr} (h : SeenP w v ps) : ReadP w v ps := by
  obtain ⟨A, cap, rfl, h2⟩ := h
  refine ⟨A, cap, rfl, fun h0 => ?_⟩
  obtain ⟨ad, rfl, hl, hc⟩ := h2 h0
  refine ⟨ad, rfl, hl, fun i x hi => ?_⟩
  obtain ⟨u, h3, h4⟩ := hc i x hi
  exact ⟨u, h3, h4.reads⟩
theorem SeenP.below {w w' : World} {v : Value} {ps : List Pr} (h : SeenP w v ps) (hb : Below w.heap.size w w') : SeenP w' v ps := by
  obtain ⟨A, cap, rfl, h2⟩ := h
  refine ⟨A, cap, rfl, fun h0 => ?_⟩
  obtain ⟨ad, rfl, hl, hc⟩ := h2 h0
  refine ⟨ad, rfl, Nat.lt_of_lt_of_le hl hb.size, fun i x hi => ?_⟩
  obtain ⟨u, h3, h4⟩ := hc i x hi
  exact ⟨u, h3.of (hb.block _ (by rw [addBlock]; exact hl)), h4.below hb⟩
theorem SeenP.nil (w : World) : SeenP w (.slice none 0 0) [] := ⟨none, 0, rfl, fun h => absurd h (Nat.not_lt_zero _)⟩
/-- A contact that can be read. -/
def SeenC (w : World) (v : Value) (c : Con) : Prop := ∃ g o, v = agC c g o ∧ ReadT w.heap.size w g (sts c.groups) ∧ SeenP w o c.other
theorem ReadT.upon {w w' : World} {v : Value} {x : List ByteArray} (h : ReadT w.heap.size w v x) (hb : Below w.heap.size w w') : ReadT w'.heap.size w' v x := (h.below hb).more hb.size
theorem SeenC.below {w w' : World} {v : Value} {c : Con} (h : SeenC w v c) (hb : Below w.heap.size w w') : SeenC w' v c := by
  obtain ⟨g, o, rfl, h1, h2⟩ := h
  exact ⟨g, o, rfl, h1.upon hb, h2.below hb⟩
end Go.Proofs.YtogjhpcjjmcjfaaGreatDoor
end
section
/- what is reached of it -/
namespace Go.Proofs.YtogjhpcjjmcjfaaGreatDoor
open Go.RowKit Tx
/-- The character that a sign of one byte folds to. -/
def foldN (x : Nat) : Nat := if 65 ≤ x ∧ x ≤ 90 then x + 32 else if x = 107 then 8490 else if x = 115 then 383 else if 97 ≤ x ∧ x ≤ 122 then x - 32 else x
/-- a mark of such signs -/
def Plainly (M : ByteArray) : Prop := ∀ i (h : i < M.size), (M[i]'h).toNat < 128 ∧ (foldN (M[i]'h).toNat = (M[i]'h).toNat ∨ foldN (M[i]'h).toNat < 128 ∧ foldN (foldN (M[i]'h).toNat) = (M[i]'h).toNat ∧ foldN (M[i]'h).toNat ≠ (M[i]'h).toNat)
theorem Plainly.of {M : ByteArray} (h : M.data.toList.all (fun b => decide (b.toNat < 128 ∧ (foldN b.toNat = b.toNat ∨ foldN b.toNat < 128 ∧ foldN (foldN b.toNat) = b.toNat ∧ foldN b.toNat ≠ b.toNat))) = true) : Plainly M := fun i hi => of_decide_eq_true (List.all_eq_true.1 h _ (List.mem_of_getElem? (Lib.data_getElem? M i hi)))

/-- How the call stands where it leaves its first loop for a sign of more than one byte. -/
def JumpE (s M : ByteArray) (w : World) (a' : Act) (w' : World) : Prop := ∃ (i : Nat) (u : Nat → Value), a' = { tmps := #[.string s, .string M, u 2, u 3, u 4, .int .i64 (i : Nat), u 6, u 7, u 8, u 9, u 10, u 11, u 12, u 13, u 14, u 15, u 16, u 17, u 18, u 19, u 20, u 21, u 22, u 23, u 24, u 25, u 26, u 27, u 28, u 29, u 30, u 31, u 32, u 33, u 34, u 35, u 36, u 37, u 38, u 39, u 40, u 41, u 42, u 43, u 44, u 45, u 46, u 47, u 48, u 49, u 50, u 51, u 52, u 53, u 54, u 55, u 56, u 57, u 58, u 59, u 60, u 61, u 62, u 63, u 64, u 65, u 66, u 67, u 68, u 69, u 70, u 71, u 72, u 73, u 74, u 75, u 76, u 77, u 78, u 79, u 80, u 81, u 82, u 83, u 84, u 85, u 86, u 87, u 88, u 89, u 90, u 91, u 92, u 93, u 94, u 95, u 96, u 97, u 98, u 99, u 100, u 101, u 102, u 103, u 104, u 105, u 106, u 107, u 108, u 109, u 110, u 111, u 112, u 113, u 114, u 115, u 116, u 117, u 118, u 119, u 120, u 121, u 122], defers := [] } ∧ w' = w ∧ i < s.size ∧ i < M.size ∧ Hid (∃ x : UInt8, s.data.toList[i]? = some x ∧ 128 ≤ x.toNat)
theorem JumpE.mk {s M : ByteArray} {w : World} {a' : Act} {w' : World} (i : Nat) (h : a' = { tmps := #[.string s, .string M, a'.tmps.getD 2 undef, a'.tmps.getD 3 undef, a'.tmps.getD 4 undef, .int .i64 (i : Nat), a'.tmps.getD 6 undef, a'.tmps.getD 7 undef, a'.tmps.getD 8 undef, a'.tmps.getD 9 undef, a'.tmps.getD 10 undef, a'.tmps.getD 11 undef, a'.tmps.getD 12 undef, a'.tmps.getD 13 undef, a'.tmps.getD 14 undef, a'.tmps.getD 15 undef, a'.tmps.getD 16 undef, a'.tmps.getD 17 undef, a'.tmps.getD 18 undef, a'.tmps.getD 19 undef, a'.tmps.getD 20 undef, a'.tmps.getD 21 undef, a'.tmps.getD 22 undef, a'.tmps.getD 23 undef, a'.tmps.getD 24 undef, a'.tmps.getD 25 undef, a'.tmps.getD 26 undef, a'.tmps.getD 27 undef, a'.tmps.getD 28 undef, a'.tmps.getD 29 undef, a'.tmps.getD 30 undef, a'.tmps.getD 31 undef, a'.tmps.getD 32 undef, a'.tmps.getD 33 undef, a'.tmps.getD 34 undef, a'.tmps.getD 35 undef, a'.tmps.getD 36 undef, a'.tmps.getD 37 undef, a'.tmps.getD 38 undef, a'.tmps.getD 39 undef, a'.tmps.getD 40 undef, a'.tmps.getD 41 undef, a'.tmps.getD 42 undef, a'.tmps.getD 43 undef, a'.tmps.getD 44 undef, a'.tmps.getD 45 undef, a'.tmps.getD 46 undef, a'.tmps.getD 47 undef, a'.tmps.getD 48 undef, a'.tmps.getD 49 undef, a'.tmps.getD 50 undef, a'.tmps.getD 51 undef, a'.tmps.getD 52 undef, a'.tmps.getD 53 undef, a'.tmps.getD 54 undef, a'.tmps.getD 55 undef, a'.tmps.getD 56 undef, a'.tmps.getD 57 undef, a'.tmps.getD 58 undef, a'.tmps.getD 59 undef, a'.tmps.getD 60 undef, a'.tmps.getD 61 undef, a'.tmps.getD 62 undef, a'.tmps.getD 63 undef, a'.tmps.getD 64 undef, a'.tmps.getD 65 undef, a'.tmps.getD 66 undef, a'.tmps.getD 67 undef, a'.tmps.getD 68 undef, a'.tmps.getD 69 undef, a'.tmps.getD 70 undef, a'.tmps.getD 71 undef, a'.tmps.getD 72 undef, a'.tmps.getD 73 undef, a'.tmps.getD 74 undef, a'.tmps.getD 75 undef, a'.tmps.getD 76 undef, a'.tmps.getD 77 undef, a'.tmps.getD 78 undef, a'.tmps.getD 79 undef, a'.tmps.getD 80 undef, a'.tmps.getD 81 undef, a'.tmps.getD 82 undef, a'.tmps.getD 83 undef, a'.tmps.getD 84 undef, a'.tmps.getD 85 undef, a'.tmps.getD 86 undef, a'.tmps.getD 87 undef, a'.tmps.getD 88 undef, a'.tmps.getD 89 undef, a'.tmps.getD 90 undef, a'.tmps.getD 91 undef, a'.tmps.getD 92 undef, a'.tmps.getD 93 undef, a'.tmps.getD 94 undef, a'.tmps.getD 95 undef, a'.tmps.getD 96 undef, a'.tmps.getD 97 undef, a'.tmps.getD 98 undef, a'.tmps.getD 99 undef, a'.tmps.getD 100 undef, a'.tmps.getD 101 undef, a'.tmps.getD 102 undef, a'.tmps.getD 103 undef, a'.tmps.getD 104 undef, a'.tmps.getD 105 undef, a'.tmps.getD 106 undef, a'.tmps.getD 107 undef, a'.tmps.getD 108 undef, a'.tmps.getD 109 undef, a'.tmps.getD 110 undef, a'.tmps.getD 111 undef, a'.tmps.getD 112 undef, a'.tmps.getD 113 undef, a'.tmps.getD 114 undef, a'.tmps.getD 115 undef, a'.tmps.getD 116 undef, a'.tmps.getD 117 undef, a'.tmps.getD 118 undef, a'.tmps.getD 119 undef, a'.tmps.getD 120 undef, a'.tmps.getD 121 undef, a'.tmps.getD 122 undef], defers := [] }) (h1 : w' = w) (h2 : i < s.size) (h3 : i < M.size) (h4 : Hid (∃ x : UInt8, s.data.toList[i]? = some x ∧ 128 ≤ x.toNat)) : JumpE s M w a' w' := ⟨i, fun n => a'.tmps.getD n undef, h, h1, h2, h3, h4⟩
theorem Plainly.all {M : ByteArray} (h : Plainly M) : ∀ b ∈ M.data.toList, b.toNat < 128 := fun b hb => by
  obtain ⟨i, hi, e⟩ := List.mem_iff_getElem.1 hb
  have hi2 : i < M.size := by rw [Lib.size_eq]; exact hi
  have h2 := Lib.data_getElem? M i hi2
  rw [List.getElem?_eq_getElem hi, e] at h2
  have := (h i hi2).1
  rwa [← Option.some.inj h2] at this
end Go.Proofs.YtogjhpcjjmcjfaaGreatDoor
end
section
/- what is reached of it -/
namespace Go.Proofs.YtogjhpcjjmcjfaaGreatDoor
open Go.RowKit Vc
theorem pars_more (f : Nat) (ps : List Par) (r : List UInt8) : parsF (f + 1) ps (59 :: r) = match parL r with
    | some p => parsF f (ps ++ [p.1]) p.2
    | none => none := rfl
/-- How the parameters stand: ps are told, t is left. -/
def PStandV (l : List UInt8) (ps : List Par) (t : List UInt8) : Prop := t.length ≤ l.length ∧ parsF (l.length + 1) [] l = parsF (t.length + 1) ps t ∧ ps.length ≤ l.length - t.length
theorem PStandV.start (l : List UInt8) : PStandV l [] l := ⟨Nat.le_refl _, rfl, Nat.zero_le _⟩
theorem PStandV.stop {l t : List UInt8} {ps : List Par} (h : PStandV l ps t) (ht : t.head? ≠ some 59) : parsF (l.length + 1) [] l = some (ps, t) := by
  rw [h.2.1]
  unfold parsF
  cases t with
  | nil => rfl
  | cons c r =>
    split
    · rename_i e; injection e with e; exact absurd (by rw [e]; rfl) ht
    · rfl
theorem PStandV.bad {l r : List UInt8} {ps : List Par} (h : PStandV l ps (59 :: r)) (hp : parL r = none) : parsF (l.length + 1) [] l = none := by
  rw [h.2.1, List.length_cons, pars_more, hp]
end Go.Proofs.YtogjhpcjjmcjfaaGreatDoor
end
section
/- what is reached of it -/
namespace Go.Proofs.YtogjhpcjjmcjfaaGreatDoor
open Go.RowKit Vc
theorem plain_end : Plainly ⟨#[69, 78, 68, 58, 86, 67, 65, 82, 68]⟩ := Plainly.of (by decide +kernel)
/-- a store into a block -/
theorem Bk.stored {w : World} {g k : Nat} {t tk : TypeId} {cs ck : Array Value} (hk : Bk w k tk ck) (hg : Bk w g t cs) (ht : tk ≠ t) (o : Nat) (x : Value) : Bk (w.setCell ⟨g, o, none⟩ x) k tk ck :=
  (Below.heap_setCell _ _ _ _ (Bk.type_ne hk hg ht)).trans hk
end Go.Proofs.YtogjhpcjjmcjfaaGreatDoor
end
section
/- what is reached of it -/
namespace Go.Proofs.YtogjhpcjjmcjfaaGreatDoor
open Go.RowKit Vc
/-- A slice of slices of properties that can be read. -/
def ReadV (w : World) (v : Value) (cs : List (List Pr)) : Prop := ∃ A cap, v = .slice A cs.length cap ∧ (0 < cs.length → ∃ ad : Addr, A = some ad ∧ ad.block < w.heap.size ∧ ∀ i c, cs[i]? = some c → ∃ u, w.cell? (ad.add i) = some u ∧ ReadP w u c)
theorem ReadV.below {w w' : World} {v : Value} {cs : List (List Pr)} (h : ReadV w v cs) (hb : Below w.heap.size w w') : ReadV w' v cs := by
  obtain ⟨A, cap, rfl, h2⟩ := h
  refine ⟨A, cap, rfl, fun h0 => ?_⟩
  obtain ⟨ad, rfl, hl, hc⟩ := h2 h0
  refine ⟨ad, rfl, Nat.lt_of_lt_of_le hl hb.size, fun i c hi => ?_⟩
  obtain ⟨u, h3, h4⟩ := hc i c hi
  exact ⟨u, by rw [hb.cell (by rw [addBlock]; exact hl)]; exact h3, h4.below hb⟩
theorem ReadV.nil (w : World) : ReadV w (.slice none 0 0) [] := ⟨none, 0, rfl, fun h => absurd h (Nat.not_lt_zero _)⟩
theorem ReadV.slice {w : World} {v : Value} {cs : List (List Pr)} (h : ReadV w v cs) : ∃ A cap, v = .slice A cs.length cap := by
  obtain ⟨A, cap, rfl, _⟩ := h
  exact ⟨A, cap, rfl⟩
end Go.Proofs.YtogjhpcjjmcjfaaGreatDoor
end
section
/- what is reached of it -/
namespace Go.Proofs.YtogjhpcjjmcjfaaGreatDoor
open Go.RowKit Vc
/-- What Read answers. -/
def ReadsV (B : Nat) (w : World) (l : List UInt8) (e : Ending) (w' : World) : Prop :=
  (∃ v, e = .returned (.tuple #[v, .int .i64 ((readV l).2.1 : Nat), .int .i64 ((readV l).2.2 : Nat)]) ∧ ReadV w' v (readV l).1) ∧ Below B w w'
theorem ReadsV.of {B : Nat} {w w' : World} {l : List UInt8} {v : Value} {r : List (List Pr) × Nat × Nat} {z1 z2 : Int} (h : readV l = r) (hv : ReadV w' v r.1) (h1 : (r.2.1 : Int) = z1) (h2 : (r.2.2 : Int) = z2) (hb : Below B w w') : ReadsV B w l (.returned (.tuple #[v, .int .i64 z1, .int .i64 z2])) w' := by
  subst h h1 h2
  exact ⟨⟨v, rfl, hv⟩, hb⟩
end Go.Proofs.YtogjhpcjjmcjfaaGreatDoor
end
section
/- what is reached of it -/
namespace Go.Proofs.YtogjhpcjjmcjfaaGreatDoor
open Go.RowKit Vc
theorem OwnT.kept {B : Nat} {w w' : World} {v : Value} {x : List ByteArray} (h : OwnT B w v x) (hb : ∀ g, v.ownBlock = Option.some g → w'.heap[g]? = w.heap[g]?) : OwnT B w' v x :=
  ⟨h.1, h.2.imp id fun ⟨g, cap, cur, k1, k2, k3, k4⟩ => ⟨g, cap, cur, k1, k2, (hb g (by rw [k1]; rfl)).trans k3, k4⟩⟩
end Go.Proofs.YtogjhpcjjmcjfaaGreatDoor
end
section
/- what is reached of it -/
namespace Go.Proofs.YtogjhpcjjmcjfaaGreatDoor
open Go.RowKit Vc Ct
/-- Only blocks that S names may have turned. -/
structure But (S : Nat → Prop) (w w' : World) : Prop where
  os : w'.os = w.os
  tape : w'.tape = w.tape
  output : w'.output = w.output
  size : w.heap.size ≤ w'.heap.size
  block : ∀ k, k < w.heap.size → ¬ S k → w'.heap[k]? = w.heap[k]?
theorem But.refl (S : Nat → Prop) (w : World) : But S w w := ⟨rfl, rfl, rfl, Nat.le_refl _, fun _ _ _ => rfl⟩
theorem But.trans {S : Nat → Prop} {a b c : World} (h : But S a b) (k : But S b c) : But S a c :=
  ⟨k.os.trans h.os, k.tape.trans h.tape, k.output.trans h.output, Nat.le_trans h.size k.size, fun i hi hs => (k.block i (Nat.lt_of_lt_of_le hi h.size) hs).trans (h.block i hi hs)⟩
theorem But.new {S : Nat → Prop} {a b : World} (h : Below a.heap.size a b) : But S a b := ⟨h.os, h.tape, h.output, h.size, fun i hi _ => h.block i hi⟩
theorem But.below {S : Nat → Prop} {a b : World} {B : Nat} (h : But S a b) (hB : B ≤ a.heap.size) (hn : ∀ i, i < B → ¬ S i) : Below B a b := ⟨h.os, h.tape, h.output, h.size, fun i hi => h.block i (by omega) (hn i hi)⟩
theorem But.grown {a b : World} {g : Nat} (h : But (· = g) a b) : a.grownBy b (some g) := ⟨h.os, h.tape, h.output, h.size, fun i hi hn => h.block i hi (fun e => hn (by rw [e]))⟩
/-- A block of texts. -/
def Txts (w : World) (h : Nat) (xs : List (List UInt8)) : Prop := ∃ cs : Array Value, Bk w h 9 cs ∧ ∀ (j : Nat) (x : List UInt8), xs[j]? = some x → cs[j]? = some (Value.string (bts x))
theorem Txts.cell {w : World} {h : Nat} {xs : List (List UInt8)} (t : Txts w h xs) {j : Nat} {x : List UInt8} (hj : xs[j]? = some x) : w.cell? ⟨h, j, none⟩ = some (.string (bts x)) := by
  obtain ⟨cs, hk, hc⟩ := t
  rw [hk.cell]
  exact hc j x hj
theorem Txts.lt {w : World} {h : Nat} {xs : List (List UInt8)} (t : Txts w h xs) : h < w.heap.size := by
  obtain ⟨cs, hk, _⟩ := t
  exact hk.lt
theorem Txts.holds {w : World} {h : Nat} {xs : List (List UInt8)} (t : Txts w h xs) : Go.Sort.Holds encStr w h 0 xs.toArray := by
  obtain ⟨cs, hk, hc⟩ := t
  intro j hj
  have hj2 : j < xs.length := by simpa using hj
  rw [Nat.zero_add, hk.cell, hc j xs[j] (List.getElem?_eq_getElem hj2), getElem!_pos _ j hj]
  exact ⟨by simp [encStr], hk.free j⟩
/-- texts laid in the place of as many -/
theorem Txts.put {w : World} {h : Nat} {xs ys : List (List UInt8)} (t : Txts w h xs) (hl : ys.length = xs.length) (n : Nat) (os : Array Obj) : Txts (Go.Sort.grow (Go.Sort.putRow encStr (Go.Sort.ahead w n) h 0 ys.toArray) os) h ys ∧ But (· = h) w (Go.Sort.grow (Go.Sort.putRow encStr (Go.Sort.ahead w n) h 0 ys.toArray) os) := by
  have hH := t.holds
  have hlt := t.lt
  obtain ⟨cs, hk, hc⟩ := t
  have hsz : (Go.Sort.putRow encStr (Go.Sort.ahead w n) h 0 ys.toArray).heap.size = w.heap.size := by rw [Go.Sort.size_putRow]; rfl
  have hK : (Go.Sort.putRow encStr (Go.Sort.ahead w n) h 0 ys.toArray).heap[h]? = some (.cells (Go.Sort.putCells encStr 0 ys.toArray cs) 9 (0, 0)) := by
    unfold Go.Sort.putRow Go.Sort.mapBlock
    have e : (Go.Sort.ahead w n).heap[h]? = some (.cells cs 9 (0, 0)) := hk
    show ((Go.Sort.ahead w n).heap.modify h _)[h]? = _
    rw [Array.getElem?_modify, if_pos rfl, e]
    rfl
  refine ⟨⟨Go.Sort.putCells encStr 0 ys.toArray cs, (Go.Sort.heap_grow_old _ os (by rw [hsz]; exact hlt)).trans hK, fun j y hj => ?_⟩, ⟨rfl, rfl, rfl, ?_, fun i hi hne => ?_⟩⟩
  · have hj2 : j < ys.length := (List.getElem?_eq_some_iff.1 hj).1
    obtain ⟨x, hx⟩ : ∃ x, xs[j]? = some x := ⟨_, List.getElem?_eq_getElem (by omega)⟩
    have hcj := hc j x hx
    unfold Go.Sort.putCells
    rw [Array.getElem?_mapIdx, hcj, Option.map_some, if_pos ⟨Nat.zero_le _, by simpa using hj2⟩, Nat.sub_zero, getElem!_pos _ j (by simpa using hj2)]
    have e3 : ys[j] = y := (List.getElem?_eq_some_iff.1 hj).2
    rw [← e3]
    simp [encStr]
  · rw [Go.Sort.size_grow, hsz]; omega
  · rw [Go.Sort.heap_grow_old _ os (by rw [hsz]; exact hi)]
    unfold Go.Sort.putRow Go.Sort.mapBlock
    show ((Go.Sort.ahead w n).heap.modify h _)[i]? = _
    rw [Array.getElem?_modify, if_neg (fun e => hne e.symm)]
    rfl
theorem Txts.below {w w' : World} {h B : Nat} {xs : List (List UInt8)} (t : Txts w h xs) (hb : Below B w w') (hh : h < B) : Txts w' h xs := by
  obtain ⟨cs, hk, hc⟩ := t
  exact ⟨cs, hk.below hb hh, hc⟩
theorem Txts.set {w : World} {g h o : Nat} {xs : List (List UInt8)} (t : Txts w h xs) (hn : h ≠ g) (u : Value) : Txts (w.setCell ⟨g, o, none⟩ u) h xs := by
  obtain ⟨cs, hk, hc⟩ := t
  exact ⟨cs, hk.far hn u, hc⟩
theorem Txts.more {w : World} {h : Nat} {xs ys : List (List UInt8)} (t : Txts w h (xs ++ ys)) : Txts w h xs := by
  obtain ⟨cs, hk, hc⟩ := t
  exact ⟨cs, hk, fun j x hj => hc j x (by rw [List.getElem?_append_left (List.getElem?_eq_some_iff.1 hj).1]; exact hj)⟩
theorem OwnT.set {B g o : Nat} {w : World} {v u : Value} {x : List ByteArray} (h : OwnT B w v x) (hg : g < B) : OwnT B (w.setCell ⟨g, o, none⟩ u) v x :=
  h.kept fun j hj => Below.heap_setCell _ _ _ _ (by have := (h.low hj).1; show j ≠ g; omega)
end Go.Proofs.YtogjhpcjjmcjfaaGreatDoor
end
section
/- what is reached of it -/
namespace Go.Proofs.YtogjhpcjjmcjfaaGreatDoor
open Go.RowKit Tx
set_option maxHeartbeats 400000 in
theorem line_any (s : ByteArray) (most : Int) (w : World) (hT : Tabs w) (hs : s.size ≤ 140737488355328) :
    Calls Tryz.prog 55 #[.string s, .int .i64 most] w fun e w' => e = .returned (.bool (line s.data.toList most)) ∧ Below w.heap.size w w' := by
  have HW := Lib.hid (walk_span s w hT hs)
  cases hch : ch s.data.toList with
  | none =>
    have HS := Lib.hid (spanOf_none hch)
    rw [line_none hch]
    clear hch
    go_enter Tryz.func55, Tryz.ntmps55
    go_wp2_with (go_at_call 75; refine HW.out.mono ?_; rintro e w1 ⟨rfl, hb⟩; rw [HS.out])
    go_ret
    exact ⟨rfl, hb.alloc hb.size _⟩
  | some x =>
    have HS := Lib.hid (spanOf_some hch)
    rw [line_some hch]
    clear hch
    obtain ⟨a, ha⟩ : ∃ a, x.length = a := ⟨_, rfl⟩
    obtain ⟨b, hb0⟩ : ∃ b, low x = b := ⟨_, rfl⟩
    rw [ha, hb0] at HS
    rw [ha, hb0]
    clear ha hb0
    by_cases h0 : b = 0
    · subst h0
      go_enter Tryz.func55, Tryz.ntmps55
      go_wp2_with (go_at_call 75; refine HW.out.mono ?_; rintro e w1 ⟨rfl, hb⟩; rw [HS.out])
      go_ret
      exact ⟨rfl, hb.alloc hb.size _⟩
    · have g0 : ((b : Int) == 0) = false := by simpa using h0
      have g1 : (b == 0) = false := by simpa using h0
      go_enter Tryz.func55, Tryz.ntmps55
      go_wp2_with (go_at_call 75; refine HW.out.mono ?_; rintro e w1 ⟨rfl, hb⟩; rw [HS.out])
      go_ret
      exact ⟨by simp [g1], hb.alloc hb.size _⟩
end Go.Proofs.YtogjhpcjjmcjfaaGreatDoor
end
section
/- what is reached of it -/
namespace Go.Proofs.YtogjhpcjjmcjfaaGreatDoor
open Go.RowKit Vc Ct
theorem bytes_eqb2 (a b : List UInt8) : ((bts a).toList == (bts b).toList) = decide (a = b) := by
  rw [ByteArray.toList_mk, ByteArray.toList_mk]
  by_cases h : a = b
  · simp [h]
  · simp [h]
end Go.Proofs.YtogjhpcjjmcjfaaGreatDoor
end
