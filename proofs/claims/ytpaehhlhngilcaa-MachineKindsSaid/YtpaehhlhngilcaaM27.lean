import Derived.Test.YtpaehhlhngilcaaRows
import Derived.Test.YtpaehhlhngilcaaM06
import Derived.WalkKit
import Derived.WalkSpells
import Derived.WalkLawsBesides
import Derived.Laws.AppendOwn
import Derived.Deep.RegionLaw
import Derived.Lib.Hide
import Derived.Test.YtpaehhlhngilcaaM25
import Derived.Test.YtpaehhlhngilcaaM26
import Derived.Test.YtpaehhlhngilcaaM17
import Derived.Shelf.Strings.SlTrimAscii
import Derived.Lib.Case
import Derived.Test.YtpaehhlhngilcaaShelf
import Derived.Deep.RegionWith
import Derived.Deep.QuietTactic
import Derived.BigQuiet
import Derived.Test.YtpaehhlhngilcaaM16
import Derived.Test.YtpaehhlhngilcaaM24
import Derived.Test.YtpaehhlhngilcaaM20
import Derived.Test.YtpaehhlhngilcaaM03
import Derived.Test.YtpaehhlhngilcaaM04
import Derived.Laws.MakeOwn
import Derived.Lib.OthersKept
import Derived.Scope
import Derived.Laws.OwnMore
import Derived.Laws.StructEq
import Derived.Lib.SlicesS
import Derived.Deep.Cut
import Derived.Deep.DeepCutAuto
import Derived.Laws.AppendOwnNone
section
/- what is reached of it -/
namespace Go.Proofs.Ytpaehhlhngilcaa
open Go.RowKit
/-- An attribute: its name, its value. -/
abbrev Att := List UInt8 × List UInt8
theorem Bk.type_ne {w : World} {g T : Nat} {t u : TypeId} {cs ds : Array Value} (h : Bk w g t cs) (k : Bk w T u ds) (hn : t ≠ u) : g ≠ T := fun e => by
  subst e
  have e1 : w.heap[g]? = some (.cells cs t (0, 0)) := h
  have e2 : w.heap[g]? = some (.cells ds u (0, 0)) := k
  rw [e1] at e2
  injection e2 with e2
  injection e2 with _ e2
  exact hn e2
abbrev bts (l : List UInt8) : ByteArray := ⟨l.toArray⟩
/-- u is a slice that can be read: these attributes. -/
def ReadA (w : World) (u : Value) (l : List Att) : Prop := ∃ A cap, u = .slice A l.length cap ∧ (0 < l.length → ∃ ad : Addr, A = some ad ∧ ad.block < w.heap.size ∧ ∀ i a, l[i]? = some a → w.cell? (ad.add (i * 2)) = some (.string (bts a.1)) ∧ w.cell? ⟨(ad.add (i * 2)).block, (ad.add (i * 2)).off + 1, none⟩ = some (.string (bts a.2)))
theorem ReadA.below {w w' : World} {u : Value} {l : List Att} (h : ReadA w u l) (hb : Below w.heap.size w w') : ReadA w' u l := by
  obtain ⟨A, cap, rfl, h2⟩ := h
  refine ⟨A, cap, rfl, fun h0 => ?_⟩
  obtain ⟨ad, rfl, hl, hc⟩ := h2 h0
  refine ⟨ad, rfl, Nat.lt_of_lt_of_le hl hb.size, fun i a hi => ?_⟩
  rw [hb.cell (by rw [addBlock]; exact hl), hb.cell (by show (ad.add (i * 2)).block < _; rw [addBlock]; exact hl)]
  exact hc i a hi
theorem ReadA.one {w : World} {u : Value} {l : List Att} (h : ReadA w u l) : u.oneCell' = true := by
  obtain ⟨A, cap, rfl, _⟩ := h
  rfl
end Go.Proofs.Ytpaehhlhngilcaa
end
section
/- what is reached of it -/
namespace Go.Proofs.Ytpaehhlhngilcaa
open Go.RowKit Vc
/-- Four cells of a property. -/
def AtP (w : World) (p : Addr) (x : Pr) (u : Value) : Prop := w.cell? p = some (.string (bts x.1)) ∧ w.cell? ⟨p.block, p.off + 1, none⟩ = some (.string (bts x.2.1)) ∧ w.cell? ⟨p.block, p.off + 2, none⟩ = some u ∧ w.cell? ⟨p.block, p.off + 3, none⟩ = some (.string (bts x.2.2.2))
theorem AtP.of {w w' : World} {p : Addr} {x : Pr} {u : Value} (h : AtP w p x u) (hb : w'.heap[p.block]? = w.heap[p.block]?) : AtP w' p x u := by
  have hk : ∀ j s, w'.cell? ⟨p.block, j, s⟩ = w.cell? ⟨p.block, j, s⟩ := fun j s => World.cell?_of_block (a := ⟨p.block, j, s⟩) hb
  obtain ⟨h0, h1, h2, h3⟩ := h
  refine ⟨?_, ?_, ?_, ?_⟩
  · exact (hk p.off p.spot).trans h0
  · rw [hk]; exact h1
  · rw [hk]; exact h2
  · rw [hk]; exact h3
/-- A slice of properties that can be read. -/
def ReadP (w : World) (v : Value) (ps : List Pr) : Prop := ∃ A cap, v = .slice A ps.length cap ∧ (0 < ps.length → ∃ ad : Addr, A = some ad ∧ ad.block < w.heap.size ∧ ∀ i x, ps[i]? = some x → ∃ u, AtP w (ad.add (i * 4)) x u ∧ ReadA w u x.2.2.1)
theorem ReadP.below {w w' : World} {v : Value} {ps : List Pr} (h : ReadP w v ps) (hb : Below w.heap.size w w') : ReadP w' v ps := by
  obtain ⟨A, cap, rfl, h2⟩ := h
  refine ⟨A, cap, rfl, fun h0 => ?_⟩
  obtain ⟨ad, rfl, hl, hc⟩ := h2 h0
  refine ⟨ad, rfl, Nat.lt_of_lt_of_le hl hb.size, fun i x hi => ?_⟩
  obtain ⟨u, h3, h4⟩ := hc i x hi
  exact ⟨u, h3.of (hb.block _ (by rw [addBlock]; exact hl)), h4.below hb⟩
theorem ReadP.nil (w : World) : ReadP w (.slice none 0 0) [] := ⟨none, 0, rfl, fun h => absurd h (Nat.not_lt_zero _)⟩
theorem ReadP.slice {w : World} {v : Value} {ps : List Pr} (h : ReadP w v ps) : ∃ A cap, v = .slice A ps.length cap := by
  obtain ⟨A, cap, rfl, _⟩ := h
  exact ⟨A, cap, rfl⟩
theorem ReadP.one {w : World} {v : Value} {ps : List Pr} (h : ReadP w v ps) : v.oneCell' = true := by
  obtain ⟨A, cap, rfl, _⟩ := h
  rfl

end Go.Proofs.Ytpaehhlhngilcaa
end
section
/- what is reached of it -/
namespace Go.Proofs.Ytpaehhlhngilcaa
open Go.RowKit Vc
theorem pars_more (f : Nat) (ps : List Par) (r : List UInt8) : parsF (f + 1) ps (59 :: r) = match parL r with
    | some p => parsF f (ps ++ [p.1]) p.2
    | none => none := rfl
/-- How the parameters stand: ps are told, t is left. -/
def PStandV (l : List UInt8) (ps : List Par) (t : List UInt8) : Prop := t.length ≤ l.length ∧ parsF (l.length + 1) [] l = parsF (t.length + 1) ps t ∧ ps.length ≤ l.length - t.length
theorem PStandV.start (l : List UInt8) : PStandV l [] l := ⟨Nat.le_refl _, rfl, Nat.zero_le _⟩
theorem PStandV.stop {l t : List UInt8} {ps : List Par} (h : PStandV l ps t) (ht : t.head? ≠ some 59) : parsF (l.length + 1) [] l = some (ps, t) := by
  rw [h.2.1]
  unfold parsF
  cases t with
  | nil => rfl
  | cons c r =>
    split
    · rename_i e; injection e with e; exact absurd (by rw [e]; rfl) ht
    · rfl
theorem PStandV.bad {l r : List UInt8} {ps : List Par} (h : PStandV l ps (59 :: r)) (hp : parL r = none) : parsF (l.length + 1) [] l = none := by
  rw [h.2.1, List.length_cons, pars_more, hp]
end Go.Proofs.Ytpaehhlhngilcaa
end
section
/- what is reached of it -/
namespace Go.Proofs.Ytpaehhlhngilcaa
open Go.RowKit Vc
theorem plain_end : Plainly ⟨#[69, 78, 68, 58, 86, 67, 65, 82, 68]⟩ := Plainly.of (by decide +kernel)
/-- a store into a block -/
theorem Bk.stored {w : World} {g k : Nat} {t tk : TypeId} {cs ck : Array Value} (hk : Bk w k tk ck) (hg : Bk w g t cs) (ht : tk ≠ t) (o : Nat) (x : Value) : Bk (w.setCell ⟨g, o, none⟩ x) k tk ck :=
  (Below.heap_setCell _ _ _ _ (Bk.type_ne hk hg ht)).trans hk
end Go.Proofs.Ytpaehhlhngilcaa
end
section
/- what is reached of it -/
namespace Go.Proofs.Ytpaehhlhngilcaa
open Go.RowKit Tx
/-- how the package's loop stands: acc are told, t is ahead -/
def CStand (l : List UInt8) (acc : List (List UInt8)) (t : List UInt8) : Prop := chs l = acc ++ chs t ∧ acc.length + t.length ≤ l.length
theorem CStand.start (l : List UInt8) : CStand l [] l := ⟨rfl, by simp⟩
theorem CStand.next {l t : List UInt8} {acc : List (List UInt8)} (h : CStand l acc t) (ht : t ≠ []) {n : Nat} (hn : (dc t).2 = n) : CStand l (acc ++ [t.take n]) (t.drop n) := by
  have h1 := dc_ge1 t
  have h2 : 0 < t.length := List.length_pos_iff.2 ht
  refine ⟨by rw [h.1, chs_step ht, hn]; simp, ?_⟩
  have := h.2
  rw [List.length_append, List.length_singleton, List.length_drop]
  omega
end Go.Proofs.Ytpaehhlhngilcaa
end
section
/- what is reached of it -/
namespace Go.Proofs.Ytpaehhlhngilcaa
open Go.RowKit Tx
/-- nothing turns below C where block b is as it was -/
theorem Btw.whole {b C : Nat} {w w' : World} (h : Btw b C w w') (hb : w'.heap[b]? = w.heap[b]?) : Below C w w' :=
  ⟨h.below.os, h.below.tape, h.below.output, h.below.size, fun g hg => by
    rcases Nat.lt_trichotomy g b with h1 | h1 | h1
    · exact h.below.block g h1
    · subst h1; exact hb
    · exact h.mid g h1 hg⟩
end Go.Proofs.Ytpaehhlhngilcaa
end
section
/- what is reached of it -/
namespace Go.Proofs.Ytpaehhlhngilcaa
open Go.RowKit Vc
/-- A slice of slices of properties that can be read. -/
def ReadV (w : World) (v : Value) (cs : List (List Pr)) : Prop := ∃ A cap, v = .slice A cs.length cap ∧ (0 < cs.length → ∃ ad : Addr, A = some ad ∧ ad.block < w.heap.size ∧ ∀ i c, cs[i]? = some c → ∃ u, w.cell? (ad.add i) = some u ∧ ReadP w u c)
theorem ReadV.below {w w' : World} {v : Value} {cs : List (List Pr)} (h : ReadV w v cs) (hb : Below w.heap.size w w') : ReadV w' v cs := by
  obtain ⟨A, cap, rfl, h2⟩ := h
  refine ⟨A, cap, rfl, fun h0 => ?_⟩
  obtain ⟨ad, rfl, hl, hc⟩ := h2 h0
  refine ⟨ad, rfl, Nat.lt_of_lt_of_le hl hb.size, fun i c hi => ?_⟩
  obtain ⟨u, h3, h4⟩ := hc i c hi
  exact ⟨u, by rw [hb.cell (by rw [addBlock]; exact hl)]; exact h3, h4.below hb⟩
theorem ReadV.nil (w : World) : ReadV w (.slice none 0 0) [] := ⟨none, 0, rfl, fun h => absurd h (Nat.not_lt_zero _)⟩
theorem ReadV.slice {w : World} {v : Value} {cs : List (List Pr)} (h : ReadV w v cs) : ∃ A cap, v = .slice A cs.length cap := by
  obtain ⟨A, cap, rfl, _⟩ := h
  exact ⟨A, cap, rfl⟩
end Go.Proofs.Ytpaehhlhngilcaa
end
section
/- what is reached of it -/
namespace Go.Proofs.Ytpaehhlhngilcaa
open Go.RowKit Vc
/-- What Read answers. -/
def ReadsV (B : Nat) (w : World) (l : List UInt8) (e : Ending) (w' : World) : Prop :=
  (∃ v, e = .returned (.tuple #[v, .int .i64 ((readV l).2.1 : Nat), .int .i64 ((readV l).2.2 : Nat)]) ∧ ReadV w' v (readV l).1) ∧ Below B w w'
theorem ReadsV.of {B : Nat} {w w' : World} {l : List UInt8} {v : Value} {r : List (List Pr) × Nat × Nat} {z1 z2 : Int} (h : readV l = r) (hv : ReadV w' v r.1) (h1 : (r.2.1 : Int) = z1) (h2 : (r.2.2 : Int) = z2) (hb : Below B w w') : ReadsV B w l (.returned (.tuple #[v, .int .i64 z1, .int .i64 z2])) w' := by
  subst h h1 h2
  exact ⟨⟨v, rfl, hv⟩, hb⟩
end Go.Proofs.Ytpaehhlhngilcaa
end
section
/- what is reached of it -/
namespace Go.Proofs.Ytpaehhlhngilcaa
open Go.RowKit Tx
theorem OwnT.cap {B : Nat} {w : World} {g cap n : Nat} {x : List ByteArray} (h : OwnT B w (.slice (Option.some ⟨g, 0, none⟩) n cap) x) : x.length ≤ cap := by
  rcases h.2 with ⟨e, _⟩ | ⟨g', cap', cur, e, _, _, h4, _⟩
  · simp at e
  · simp at e
    rw [e.2.2]
    exact h4
end Go.Proofs.Ytpaehhlhngilcaa
end
section
/- what is reached of it -/
namespace Go.Proofs.Ytpaehhlhngilcaa
open Go.RowKit Vc
theorem OwnT.kept {B : Nat} {w w' : World} {v : Value} {x : List ByteArray} (h : OwnT B w v x) (hb : ∀ g, v.ownBlock = Option.some g → w'.heap[g]? = w.heap[g]?) : OwnT B w' v x :=
  ⟨h.1, h.2.imp id fun ⟨g, cap, cur, k1, k2, k3, k4⟩ => ⟨g, cap, cur, k1, k2, (hb g (by rw [k1]; rfl)).trans k3, k4⟩⟩
end Go.Proofs.Ytpaehhlhngilcaa
end
