import Derived.Test.YtbgaglcgennhiaaGreatDoorB35
import Derived.Shelf.SlicesQ.IndexFunc
import Derived.Shelf.SlicesE.DeleteFunc
import Derived.Test.YtbgaglcgennhiaaGreatDoorB33
import Derived.Test.YtbgaglcgennhiaaGreatDoorB28
import Derived.Test.YtbgaglcgennhiaaGreatDoorB21
import Derived.Test.YtbgaglcgennhiaaGreatDoorB20
import Derived.Test.YtbgaglcgennhiaaGreatDoorB18
import Derived.Test.YtbgaglcgennhiaaGreatDoorB12
import Derived.Lib.Hide
import Derived.Test.YtbgaglcgennhiaaGreatDoorB24
import Derived.Deep.RegionHeld3
import Derived.Test.YtbgaglcgennhiaaGreatDoorB05
import Derived.Test.YtbgaglcgennhiaaGreatDoorB06
import Derived.BigRegion
import Derived.BigQuiet
import Derived.Test.YtbgaglcgennhiaaGreatDoorB08
import Derived.Deep.DeepCutAuto
import Derived.Test.YtbgaglcgennhiaaGreatDoorB34
import Derived.Lib.IndexBytes
import Derived.Shelf.Strings.Search2
import Derived.Shelf.SlicesE.Clone
import Derived.Test.YtbgaglcgennhiaaGreatDoorB29
import Derived.Laws.StructEq
import Derived.Lib.SlicesS
import Derived.Deep.RegionWith
import Derived.Deep.RegionLaw
import Derived.Deep.Upon
import Derived.Deep.MidRow
import Derived.Test.YtbgaglcgennhiaaGreatDoorB17
import Derived.Lib.ConvBytes
import Derived.Lib.AtoiErrMem
import Derived.Lib.SliceRun
import Derived.Test.YtbgaglcgennhiaaGreatDoorB31
import Derived.Deep.QuietTactic
import Derived.Test.YtbgaglcgennhiaaGreatDoorB30
import Derived.Lib.Strings
section
/- what is reached of it -/
namespace Go.Proofs.YtbgaglcgennhiaaGreatDoor
open Go.RowKit Tx Vc Ct
abbrev laid6 (w : World) (g : Nat) (a b c d e f : Value) : World := (((((w.setCell ⟨g, 0, none⟩ a).setCell ⟨g, 1, none⟩ b).setCell ⟨g, 2, none⟩ c).setCell ⟨g, 3, none⟩ d).setCell ⟨g, 4, none⟩ e).setCell ⟨g, 5, none⟩ f
theorem laid6_bk {w : World} {g : Nat} {t : TypeId} {x0 x1 x2 x3 x4 x5 : Value} (h : Bk w g t #[x0, x1, x2, x3, x4, x5]) (a b c d e f : Value) : Bk (laid6 w g a b c d e f) g t #[a, b, c, d, e, f] := by
  have := (((((h.put 0 a).put 1 b).put 2 c).put 3 d).put 4 e).put 5 f
  simpa [laid6] using this
theorem laid6_below {w0 w : World} {B g : Nat} (h : Below B w0 w) (hg : B ≤ g) (a b c d e f : Value) : Below B w0 (laid6 w g a b c d e f) :=
  (((((h.setCell (p := ⟨g, 0, none⟩) hg _).setCell (p := ⟨g, 1, none⟩) hg _).setCell (p := ⟨g, 2, none⟩) hg _).setCell (p := ⟨g, 3, none⟩) hg _).setCell (p := ⟨g, 4, none⟩) hg _).setCell (p := ⟨g, 5, none⟩) hg _
theorem OwnT.less {B C : Nat} {w : World} {v : Value} {x : List ByteArray} (h : OwnT B w v x) (hC : C ≤ B) : OwnT C w v x := by
  refine ⟨h.1, ?_⟩
  rcases h.2 with h2 | ⟨g, cap, cur, hv, hg, h3⟩
  · exact .inl h2
  · exact .inr ⟨g, cap, cur, hv, Nat.le_trans hC hg, h3⟩
/-- a copy of texts -/
theorem cloneT_any (v : Value) (l : List (List UInt8)) (w : World) (B : Nat) (hR : ReadT B w v (sts l)) (hl : l.length ≤ 8000000000000) :
    Calls Tryz.prog 61 #[v] w fun e w' => ∃ A cap, e = .returned (.slice A l.length cap) ∧ OwnT w.heap.size w' (.slice A l.length cap) (sts l) ∧ Below w.heap.size w w' := by
  have hll : (sts l).length = l.length := List.length_map _
  have own_reads : ∀ (v' : Value) (w2 : World), w2.ownsRow w.heap.size 9 1 v' l.length ((sts l).map Value.string) → v' ≠ .slice none 0 0 → ∃ A cap, v' = .slice A l.length cap ∧ OwnT w.heap.size w2 v' (sts l) := fun v' w2 ho hne => by
    have ho2 : OwnT w.heap.size w2 v' (sts l) := by
      unfold OwnT strs
      rw [hll]
      exact ho
    obtain ⟨A, cap, hA⟩ := ho2.slice
    rw [hll] at hA
    exact ⟨A, cap, hA, ho2⟩
  by_cases h0 : 0 < l.length
  · obtain ⟨b, off, cap, hv, hb, hc⟩ := hR.flat (by omega)
    rw [hv]
    refine (Tryz.slices_Clone_string b off (sts l).length cap (sts l) w (Nat.le_refl _) (by omega) hc).mono ?_
    rintro e w2 ⟨v', rfl, ho, hne, hbl⟩
    rw [List.take_length, hll] at ho
    obtain ⟨A, cap2, rfl, hr⟩ := own_reads v' w2 ho hne
    exact ⟨A, cap2, rfl, hr, hbl⟩
  · have hl0 : l = [] := List.length_eq_zero_iff.1 (by omega)
    subst hl0
    obtain ⟨A, cap, hv, _⟩ := hR
    rw [hv]
    cases A with
    | none =>
      refine (Tryz.slices_Clone_string_nil 0 cap w).mono ?_
      rintro e w2 ⟨rfl, rfl⟩
      exact ⟨none, 0, rfl, OwnT.nil _ _, Below.refl _ _⟩
    | some a =>
      refine (Tryz.slices_Clone_string_zero a cap w).mono ?_
      rintro e w2 ⟨v', rfl, ho, hne, hbl⟩
      obtain ⟨A, cap2, rfl, hr⟩ := own_reads v' w2 ho hne
      exact ⟨A, cap2, rfl, hr, hbl⟩
end Go.Proofs.YtbgaglcgennhiaaGreatDoor
end
section
/- what is reached of it -/
namespace Go.Proofs.YtbgaglcgennhiaaGreatDoor
open Go.RowKit Tx Vc Ct
/-- where an item's groups lie -/
abbrev Slc := Option Addr × Nat × Nat
def sl (q : Slc) : Value := .slice q.1 q.2.1 q.2.2
/-- A slice of items that can be read, below block B. -/
def ReadI (B : Nat) (w : World) (v : Value) (l : List (Itm × Slc)) : Prop :=
  ∃ A cap, v = .slice A l.length cap ∧ (0 < l.length → ∃ b off, A = some ⟨b, off, none⟩ ∧ b < B ∧ ∀ i p, l[i]? = some p → ∀ c u, (encI p.1 (sl p.2))[c]? = some u → w.cell? ⟨b, off + i * 6 + c, none⟩ = some u) ∧ ∀ p ∈ l, ReadT B w (sl p.2) (sts p.1.groups)
instance : Inhabited Itm := ⟨⟨[], [], [], 0, false, false⟩⟩
end Go.Proofs.YtbgaglcgennhiaaGreatDoor
end
section
/- what is reached of it -/
namespace Go.Proofs.YtbgaglcgennhiaaGreatDoor
open Tx Vc Ct
theorem addr_near (s : List UInt8) (k : Nat) : addrB (nearJ s k) = true := decide_eq_true (near_key s k)
structure NearI (d : Itm) : Prop where
  jid : ∃ s k, d.jid = nearJ s k
  name : line d.name 100 = true
  groups : ∃ l, d.groups = groupsL l ∧ l.length ≤ 4 ∧ ∀ g ∈ l, line g 30 = true
  sub : d.sub = 0 ∨ d.sub = 1 ∨ d.sub = 2 ∨ d.sub = 3
  ask : d.ask = true → d.sub = 0 ∨ d.sub = 2
  app : d.app = true → d.sub = 0 ∨ d.sub = 1
theorem grp_near {l : List (List UInt8)} (hl : l.length ≤ 8) (hx : ∀ g ∈ l, line g 30 = true) : grpB (groupsL l) = true := by
  have h := groups_ok hl hx (by decide)
  have h2 := groups_right h
  unfold rightG at h
  simp only [Bool.and_eq_true, decide_eq_true_eq, List.all_eq_true] at h
  unfold grpB
  rw [decide_eq_true h.1.1, decide_eq_true h2.symm, Bool.and_self, Bool.true_and, Bool.not_eq_true']
  refine List.any_eq_false.2 fun g hg => ?_
  rw [(h.1.2 g hg).2]
  decide
theorem NearI.right {d : Itm} (h : NearI d) : rightI d = true := by
  obtain ⟨s, k, hj⟩ := h.jid
  obtain ⟨l, hg, hl, hx⟩ := h.groups
  unfold rightI
  rw [hj, addr_near, h.name, hg, grp_near (by omega) hx, Bool.true_and, Bool.true_and, Bool.true_and]
  have ha := h.ask
  have hp := h.app
  unfold subB
  rcases h.sub with e | e | e | e <;> rw [e] at ha hp ⊢
  · rfl
  · have : d.ask = false := by cases hd : d.ask with | false => rfl | true => exact absurd (ha hd) (by decide)
    rw [this]; rfl
  · have : d.app = false := by cases hd : d.app with | false => rfl | true => exact absurd (hp hd) (by decide)
    rw [this]; rfl
  · have h1 : d.ask = false := by cases hd : d.ask with | false => rfl | true => exact absurd (ha hd) (by decide)
    have h2 : d.app = false := by cases hd : d.app with | false => rfl | true => exact absurd (hp hd) (by decide)
    rw [h1, h2]; rfl
end Go.Proofs.YtbgaglcgennhiaaGreatDoor
end
section
/- what is reached of it -/
namespace Go.Proofs.YtbgaglcgennhiaaGreatDoor
open Go.RowKit Tx Vc Ct
set_option maxHeartbeats 400000 in
theorem indexI_none (A : Option Addr) (cap : Nat) (fv : Value) (w : World) : Calls Tryz.prog 169 #[.slice A 0 cap, fv] w fun e w' => e = .returned (.int .i64 (-1)) ∧ w' = w := by
  go_enter Tryz.func169, Tryz.ntmps169
  go_wp2_with fail
  refine wp_loop_rounds 1 ?_
  rw [rounds_succ]
  go_wp2_with fail
  go_ret
  exact ⟨rfl, rfl⟩
end Go.Proofs.YtbgaglcgennhiaaGreatDoor
end
section
/- what is reached of it -/
namespace Go.Proofs.YtbgaglcgennhiaaGreatDoor
open Go.RowKit Rg Tx
/-- what the loop knows at k: no "." from f to k; the pieces ahead of f are right -/
def DGoes (L : List UInt8) (f k : Nat) : Prop := f ≤ k ∧ k ≤ L.length ∧ (∀ c ∈ (L.drop f).take (k - f), c ≠ 46) ∧ (Jd.pcs 46 L).any Jd.badB = (Jd.pcs 46 (L.drop f)).any Jd.badB
theorem DGoes.start (L : List UInt8) : DGoes L 0 0 := ⟨Nat.le_refl _, Nat.zero_le _, by simp, rfl⟩
theorem take_snoc {L : List UInt8} {f k : Nat} (hf : f ≤ k) (hk : k < L.length) : (L.drop f).take (k + 1 - f) = (L.drop f).take (k - f) ++ [L[k]] := by
  rw [show k + 1 - f = (k - f) + 1 by omega, List.take_add_one, List.getElem?_drop, show f + (k - f) = k by omega, List.getElem?_eq_getElem hk]
  rfl
theorem DGoes.next {L : List UInt8} {f k : Nat} (h : DGoes L f k) (hk : k < L.length) (hc : L[k] ≠ 46) : DGoes L f (k + 1) := by
  obtain ⟨h1, h2, h3, h4⟩ := h
  refine ⟨by omega, by omega, fun c hm => ?_, h4⟩
  rw [take_snoc h1 hk] at hm
  rcases List.mem_append.1 hm with hm | hm
  · exact h3 c hm
  · rw [List.mem_singleton.1 hm]; exact hc
theorem DGoes.last {L : List UInt8} {f : Nat} (h : DGoes L f L.length) : (Jd.pcs 46 L).any Jd.badB = Jd.badB ((L.drop f).take (L.length - f)) := by
  obtain ⟨h1, h2, h3, h4⟩ := h
  have e : (L.drop f).take (L.length - f) = L.drop f := List.take_of_length_le (by rw [List.length_drop]; omega)
  rw [e] at h3 ⊢
  rw [h4, Jd.pcs_none (fun hm => h3 46 hm rfl)]
  simp
end Go.Proofs.YtbgaglcgennhiaaGreatDoor
end
section
/- what is reached of it -/
namespace Go.Proofs.YtbgaglcgennhiaaGreatDoor
open Go.RowKit Rg Tx
/-- the result's block, behind a store -/
theorem stored {w w1 : World} {q : Nat} {a b c : Value} (x y z : Value) (hk : Bk w1 q 115 #[a, b, c]) (hb : Below q w w1) :
    Bk (((w1.setCell ⟨q, 0, none⟩ x).setCell ⟨q, 1, none⟩ y).setCell ⟨q, 2, none⟩ z) q 115 #[x, y, z] ∧ Below q w (((w1.setCell ⟨q, 0, none⟩ x).setCell ⟨q, 1, none⟩ y).setCell ⟨q, 2, none⟩ z) :=
  ⟨((hk.put 0 x).put 1 y).put 2 z, Below.setCell (B := q) (p := ⟨q, 2, none⟩) (Below.setCell (B := q) (p := ⟨q, 1, none⟩) (Below.setCell (B := q) (p := ⟨q, 0, none⟩) hb (Nat.le_refl q) _) (Nat.le_refl q) _) (Nat.le_refl q) _⟩

end Go.Proofs.YtbgaglcgennhiaaGreatDoor
end
section
/- what is reached of it -/
namespace Go.Proofs.YtbgaglcgennhiaaGreatDoor
open Go.RowKit Go.Sort Sy Tx Vc Ct
namespace Sy
variable {α : Type} [Inhabited α] {enc : α → List Value} {k : Nat} {W0 W W' : World} {B : Nat} {d : Array α}
theorem get_setI (d : Array α) (i j : Nat) (hi : i < d.size) (y : α) : (d.setIfInBounds i y)[j]! = if j = i then y else d[j]! := by
  by_cases h : j = i
  · subst h
    rw [if_pos rfl, getElem!_pos (d.setIfInBounds j y) j (by simpa using hi), Array.getElem_setIfInBounds_self]
  · rw [if_neg h]
    by_cases hj : j < d.size
    · rw [getElem!_pos (d.setIfInBounds i y) j (by simpa using hj), getElem!_pos d j hj]
      rw [Array.getElem_setIfInBounds]
      exact if_neg (fun e => h e.symm)
    · rw [getElem!_neg (d.setIfInBounds i y) j (by simpa using hj), getElem!_neg d j hj]
theorem setMany_set (hk : ∀ x, (enc x).length = k) (d : Array α) (i : Nat) (hi : i < d.size) (y : α) : setMany (flatK enc k d) (i * k) (enc y) = flatK enc k (d.setIfInBounds i y) := by
  refine ext_get! (by simp) fun t ht => ?_
  have ht' : t < d.size * k := by simpa using ht
  have k0 : 0 < k := by
    rcases Nat.eq_zero_or_pos k with h | h
    · subst h; simp at ht'
    · exact h
  rw [get_setMany _ _ _ t (by simpa using ht'), get_flatK _ _ _ t ht', get_flatK _ _ _ t (by simpa using ht'), hk, get_setI d i _ hi]
  by_cases a : t / k = i
  · rw [if_pos ((blk_iff k i t k0).2 a), if_pos a, show t - i * k = t % k from by subst a; rw [Nat.mod_eq_sub_div_mul]]
  · rw [if_neg (fun h => a ((blk_iff k i t k0).1 h)), if_neg a]
theorem St.put1 (h : St enc k W0 B d W) (R : Enc enc k) (i : Nat) (hi : i < d.size) (y : α) : St enc k W0 B (d.setIfInBounds i y) (W.setCells B (i * k) (enc y)) := by
  refine ⟨grownBy_setCells _ _ _ h.grown, ?_, h.lt⟩
  have a := holds_setCellsS h.holds (i * k) (enc y) (by rw [R.hk, size_flatK]; exact rowK_bndS d k i hi)
  rw [Nat.zero_add, setMany_set R.hk d i hi y] at a
  exact a
end Sy
end Go.Proofs.YtbgaglcgennhiaaGreatDoor
end
section
/- what is reached of it -/
namespace Go.Proofs.YtbgaglcgennhiaaGreatDoor.Ct
open Go.Proofs.YtbgaglcgennhiaaGreatDoor Tx Vc
theorem iparse_eq {s : List UInt8} {c d : List UInt8 × List UInt8 × Bool} (hc : Jd.cutB 47 s = c) (hd : Jd.halfL c.1 = d) : Jd.parseL s = Jd.three (Jd.domL d.2.1) (Jd.part d.2.2 1 d.1) (Jd.part c.2.2 3 c.2.1) := by
  subst hc
  subst hd
  rfl
end Go.Proofs.YtbgaglcgennhiaaGreatDoor.Ct
end
section
/- what is reached of it -/
namespace Go.Proofs.YtbgaglcgennhiaaGreatDoor
open Go.RowKit Go.Sort Sy Vc Ct Tx
theorem ReadI.upon {w W : World} {v : Value} {l : List (Itm × Slc)} (h : ReadI w.heap.size w v l) (hb : Below w.heap.size w W) : ReadI W.heap.size W v l := by
  obtain ⟨A, cap, hv, hc, hT⟩ := h
  refine ⟨A, cap, hv, fun h0 => ?_, fun p hp => (hT p hp).upon hb⟩
  obtain ⟨b, off, ha, hbb, hcc⟩ := hc h0
  exact ⟨b, off, ha, Nat.lt_of_lt_of_le hbb hb.size, fun i p hp c u hu => by rw [hb.cell (p := ⟨b, off + i * 6 + c, none⟩) hbb]; exact hcc i p hp c u hu⟩
/-- an item's address, where items stand -/
theorem ReadI.jid {w : World} {v : Value} {l : List (Itm × Slc)} (h : ReadI w.heap.size w v l) (h0 : 0 < l.length) : ∃ b off cap, v = .slice (some ⟨b, off, none⟩) l.length cap ∧ ∀ W, Below w.heap.size w W → ∀ i p, l[i]? = some p → W.cell? ⟨b, off + i * 6, none⟩ = some (.string (bts p.1.jid)) := by
  obtain ⟨A, cap, rfl, hc, _⟩ := h
  obtain ⟨b, off, rfl, hb, hcc⟩ := hc h0
  exact ⟨b, off, cap, rfl, fun W hW i p hp => by rw [hW.cell (p := ⟨b, off + i * 6, none⟩) hb]; exact hcc i p hp 0 _ rfl⟩
end Go.Proofs.YtbgaglcgennhiaaGreatDoor
end
section
/- what is reached of it -/
namespace Go.Proofs.YtbgaglcgennhiaaGreatDoor
open Go.RowKit Tx Vc Ct
/-- a user; beside the lists, where they lie -/
structure Usr where
  name : List UInt8
  pw : List UInt8
  items : List (Itm × Slc)
  iv : Slc
  pend : List (List UInt8)
  pv : Slc
/-- a host -/
structure Hst where
  name : List UInt8
  users : List Usr
  uv : Slc
instance : Inhabited Usr := ⟨⟨[], [], [], (none, 0, 0), [], (none, 0, 0)⟩⟩
instance : Inhabited Hst := ⟨⟨[], [], (none, 0, 0)⟩⟩
def encU (x : Usr) : List Value := [.string (bts x.name), .string (bts x.pw), sl x.iv, sl x.pv]
def encH (x : Hst) : List Value := [.string (bts x.name), sl x.uv]
/-- a slice of elements of k cells, below block B -/
def RowV {α : Type} (enc : α → List Value) (k B : Nat) (w : World) (v : Value) (l : List α) : Prop :=
  ∃ A cap, v = .slice A l.length cap ∧ (0 < l.length → ∃ b off, A = some ⟨b, off, none⟩ ∧ b < B ∧ ∀ i p, l[i]? = some p → ∀ c u, (enc p)[c]? = some u → w.cell? ⟨b, off + i * k + c, none⟩ = some u)
theorem RowV.upon {α : Type} {enc : α → List Value} {k : Nat} {w W : World} {v : Value} {l : List α} (h : RowV enc k w.heap.size w v l) (hb : Below w.heap.size w W) : RowV enc k W.heap.size W v l := by
  obtain ⟨A, cap, hv, hc⟩ := h
  refine ⟨A, cap, hv, fun h0 => ?_⟩
  obtain ⟨b, off, ha, hbb, hcc⟩ := hc h0
  exact ⟨b, off, ha, Nat.lt_of_lt_of_le hbb hb.size, fun i p hp c u hu => by rw [hb.cell (p := ⟨b, off + i * k + c, none⟩) hbb]; exact hcc i p hp c u hu⟩
def encIS (p : Itm × Slc) : List Value := encI p.1 (sl p.2)
theorem ReadI.row {B : Nat} {w : World} {v : Value} {l : List (Itm × Slc)} (h : ReadI B w v l) : RowV encIS 6 B w v l := by
  obtain ⟨A, cap, hv, hc, _⟩ := h
  exact ⟨A, cap, hv, hc⟩
theorem ReadI.of_row {B : Nat} {w : World} {v : Value} {l : List (Itm × Slc)} (h : RowV encIS 6 B w v l) (hT : ∀ p ∈ l, ReadT B w (sl p.2) (sts p.1.groups)) : ReadI B w v l := by
  obtain ⟨A, cap, hv, hc⟩ := h
  exact ⟨A, cap, hv, hc, hT⟩
/-- what a user refers to -/
def InU (w : World) (p : Usr) : Prop := ReadI w.heap.size w (sl p.iv) p.items ∧ ReadT w.heap.size w (sl p.pv) (sts p.pend)
theorem InU.upon {w W : World} {p : Usr} (h : InU w p) (hb : Below w.heap.size w W) : InU W p := ⟨h.1.upon hb, h.2.upon hb⟩
def ReadU (w : World) (v : Value) (l : List Usr) : Prop := RowV encU 4 w.heap.size w v l ∧ ∀ p ∈ l, InU w p
theorem ReadU.upon {w W : World} {v : Value} {l : List Usr} (h : ReadU w v l) (hb : Below w.heap.size w W) : ReadU W v l := ⟨h.1.upon hb, fun p hp => (h.2 p hp).upon hb⟩
def ReadH (w : World) (v : Value) (l : List Hst) : Prop := RowV encH 2 w.heap.size w v l ∧ ∀ p ∈ l, ReadU w (sl p.uv) p.users
theorem ReadH.upon {w W : World} {v : Value} {l : List Hst} (h : ReadH w v l) (hb : Below w.heap.size w W) : ReadH W v l := ⟨h.1.upon hb, fun p hp => (h.2 p hp).upon hb⟩

/-- the i-th fits, and is above the one ahead -/
def stepK {α : Type} [Inhabited α] (lt : α → α → Bool) (ok : α → Bool) (l : List α) (i : Nat) : Bool := (decide (i = 0) || lt l[i - 1]! l[i]!) && ok l[i]!
def rightK {α : Type} [Inhabited α] (most : Nat) (lt : α → α → Bool) (ok : α → Bool) (l : List α) : Bool := decide (l.length ≤ most) && (List.range l.length).all (stepK lt ok l)
theorem rightK_no {α : Type} [Inhabited α] {most : Nat} {lt : α → α → Bool} {ok : α → Bool} {l : List α} (i : Nat) (hi : i < l.length) (h : stepK lt ok l i = false) : rightK most lt ok l = false := by
  have : (List.range l.length).all (stepK lt ok l) = false := List.all_eq_false.2 ⟨i, List.mem_range.2 hi, by rw [h]; decide⟩
  unfold rightK
  rw [this, Bool.and_false]
theorem rightK_yes {α : Type} [Inhabited α] {most : Nat} {lt : α → α → Bool} {ok : α → Bool} {l : List α} (hm : l.length ≤ most) (h : ∀ i, i < l.length → stepK lt ok l i = true) : rightK most lt ok l = true := by
  unfold rightK
  rw [decide_eq_true hm, Bool.true_and]
  exact List.all_eq_true.2 fun i hi => h i (List.mem_range.1 hi)
theorem rightK_many {α : Type} [Inhabited α] {most : Nat} {lt : α → α → Bool} {ok : α → Bool} {l : List α} (hm : most < l.length) : rightK most lt ok l = false := by
  unfold rightK
  rw [decide_eq_false (by omega)]
  rfl
theorem rightK_nil {α : Type} [Inhabited α] {most : Nat} {lt : α → α → Bool} {ok : α → Bool} : rightK most lt ok [] = true := rightK_yes (Nat.zero_le _) (fun _ hi => absurd hi (Nat.not_lt_zero _))
theorem rightK_one {α : Type} [Inhabited α] {most : Nat} {lt : α → α → Bool} {ok : α → Bool} (x : α) (hm : 1 ≤ most) : rightK most lt ok [x] = ok x := by
  unfold rightK
  rw [decide_eq_true (by simpa using hm)]
  simp [stepK, List.range_succ]
theorem rightK_two {α : Type} [Inhabited α] {most : Nat} {lt : α → α → Bool} {ok : α → Bool} (x y : α) (hm : 2 ≤ most) : rightK most lt ok [x, y] = (ok x && (lt x y && ok y)) := by
  unfold rightK
  rw [decide_eq_true (by simpa using hm)]
  simp [stepK, List.range_succ]
def domB (s : List UInt8) : Bool := decide (Jd.domL s = (s, 0))
def nodeB (s : List UInt8) : Bool := decide (Pr.prepL 1 s = (s, 0)) && !decide (s = []) && decide (s.length ≤ 64)
def letB (x : Itm) : Bool := decide (x.sub = 2) || decide (x.sub = 3) || x.app
def ltIS (p q : Itm × Slc) : Bool := Jd.lessL p.1.jid q.1.jid
def okIS (p : Itm × Slc) : Bool := rightI p.1
def waitB (u : Usr) (p : Itm × Slc) : Bool := letB p.1 && decide (p.1.jid ∈ u.pend)
def fitU (u : Usr) : Bool := nodeB u.name && line u.pw 100 && rightK 60 ltIS okIS u.items && rightK 60 Jd.lessL addrB u.pend && !u.items.any (waitB u)
def ltU (x y : Usr) : Bool := Jd.ltL x.name y.name
def ltH (x y : Hst) : Bool := Jd.ltL x.name y.name
def rightU (l : List Usr) : Bool := rightK 20 ltU fitU l
def fitH (h : Hst) : Bool := domB h.name && rightU h.users
def rightS (l : List Hst) : Bool := rightK 5 ltH fitH l

structure SmI (x : Itm) : Prop where
  jid : x.jid.length ≤ 100000000
  name : x.name.length ≤ 100000000
  groups : x.groups.length ≤ 1000000
  each : ∀ g ∈ x.groups, g.length ≤ 100000000
structure SmU (u : Usr) : Prop where
  name : u.name.length ≤ 100000000
  pw : u.pw.length ≤ 100000000
  items : u.items.length ≤ 1000000
  eachI : ∀ p ∈ u.items, SmI p.1
  pend : u.pend.length ≤ 1000000
  eachP : ∀ t ∈ u.pend, t.length ≤ 100000000
structure SmH (h : Hst) : Prop where
  name : h.name.length ≤ 100000000
  users : h.users.length ≤ 1000000
  each : ∀ u ∈ h.users, SmU u
end Go.Proofs.YtbgaglcgennhiaaGreatDoor
end
section
/- what is reached of it -/
namespace Go.Proofs.YtbgaglcgennhiaaGreatDoor
open Tx Vc Ct
theorem se_dom_h : Jd.domL [104] = ([104], 0) := Jd.dom_of (Jd.fit_prep (by decide)) (by decide) (by decide) (by decide)
theorem se_domB_h : domB [104] = true := decide_eq_true se_dom_h
theorem se_fit {k : Nat} {n : List UInt8} (h : n.all (Jd.fitB k) = true) : Pr.prepL k n = (n, 0) := Jd.fit_prep (List.all_eq_true.1 h)
theorem se_dom {n : List UInt8} (h : n.all (Jd.fitB 2) = true) (h0 : n ≠ []) (hl : n.length ≤ 100) (hb : (Jd.pcs 46 n).any Jd.badB = false) : domB n = true := decide_eq_true (Jd.dom_of (se_fit h) h0 hl hb)
theorem se_node {n : List UInt8} (h : n.all (Jd.fitB 1) = true) (h0 : n ≠ []) (hl : n.length ≤ 64) : nodeB n = true := by
  unfold nodeB
  rw [se_fit h, decide_eq_true rfl, decide_eq_false h0, decide_eq_true hl]
  rfl
theorem se_part {n : List UInt8} (h : n.all (Jd.fitB 1) = true) (h0 : n ≠ []) (hl : n.length ≤ 64) : Jd.part true 1 n = (n, 0) := by
  show Jd.sizedL 64 (Pr.prepL 1 n) = _
  rw [se_fit h]
  exact Jd.sized_of h0 hl
/-- n@h -/
theorem se_addr {n : List UInt8} (h : n.all (Jd.fitB 1) = true) (h0 : n ≠ []) (hl : n.length ≤ 64) (hc : Jd.cutB 47 (n ++ [64, 104]) = (n ++ [64, 104], [], false)) (hd : Jd.halfL (n ++ [64, 104]) = (n, [104], true)) : addrB (n ++ [64, 104]) = true := by
  have hp : Jd.parseL (n ++ [64, 104]) = ((n, [104], []), 0) := by
    rw [iparse_eq hc hd]
    simp only
    rw [se_dom_h, se_part h h0 hl]
    rfl
  refine decide_eq_true ?_
  rw [Jd.bare_ok hp rfl]
  unfold Jd.textL
  simp [h0]
def seI (j : List UInt8) (s : Int) (ask app : Bool) : Itm := ⟨j, [], [], s, ask, app⟩
theorem se_right (j : List UInt8) (s : Int) (ask app : Bool) : rightI (seI j s ask app) = (addrB j && subB s ask app) := by
  have h2 : line ([] : List UInt8) 100 = true := by decide +kernel
  have h3 : grpB [] = true := by decide +kernel
  show (addrB j && line ([] : List UInt8) 100 && grpB [] && subB s ask app) = _
  rw [h2, h3, Bool.and_true, Bool.and_true]
theorem se_b : addrB [98, 64, 104] = true := se_addr (n := [98]) (by decide) (by decide) (by decide) (by decide) (by decide)
theorem se_c : addrB [99, 64, 104] = true := se_addr (n := [99]) (by decide) (by decide) (by decide) (by decide) (by decide)
theorem se_d : addrB [100, 64, 104] = true := se_addr (n := [100]) (by decide) (by decide) (by decide) (by decide) (by decide)
theorem se_p : line [112] 100 = true := by decide +kernel
theorem se_na : nodeB [97] = true := se_node (by decide) (by decide) (by decide)
theorem se_items (a b : Itm × Slc) : rightK 60 ltIS okIS [a, b] = (rightI a.1 && (Jd.lessL a.1.jid b.1.jid && rightI b.1)) := rightK_two a b (by decide)
theorem se_host (n : List UInt8) (u : Usr) (q : Slc) : rightS [⟨n, [u], q⟩] = (domB n && fitU u) := by
  unfold rightS
  rw [rightK_one _ (by decide)]
  unfold fitH rightU
  dsimp only
  rw [rightK_one _ (by decide)]
theorem se_fitU (n pw : List UInt8) (is : List (Itm × Slc)) (iv : Slc) (ps : List (List UInt8)) (pv : Slc) : fitU ⟨n, pw, is, iv, ps, pv⟩ = (nodeB n && line pw 100 && rightK 60 ltIS okIS is && rightK 60 Jd.lessL addrB ps && !is.any (fun p => letB p.1 && decide (p.1.jid ∈ ps))) := rfl
/-- the user that the laws turn -/
def oneU (n pw j0 j1 : List UInt8) (app : Bool) (ps : List (List UInt8)) (q0 q1 iv pv : Slc) : Usr := ⟨n, pw, [(seI j0 0 false false, q0), (seI j1 2 false app, q1)], iv, ps, pv⟩
theorem se_oneU (n pw j0 j1 : List UInt8) (app : Bool) (ps : List (List UInt8)) (q0 q1 iv pv : Slc) : fitU (oneU n pw j0 j1 app ps q0 q1 iv pv) = (nodeB n && line pw 100 && (addrB j0 && (Jd.lessL j0 j1 && (addrB j1 && !app))) && rightK 60 Jd.lessL addrB ps && !decide (j1 ∈ ps)) := by
  unfold oneU
  rw [se_fitU, se_items, se_right, se_right]
  have h1 : subB 0 false false = true := rfl
  have h2 : subB 2 false app = !app := by cases app <;> rfl
  rw [h1, h2, Bool.and_true]
  have h3 : ([(seI j0 0 false false, q0), (seI j1 2 false app, q1)].any fun p => letB p.1 && decide (p.1.jid ∈ ps)) = decide (j1 ∈ ps) := by
    simp [letB, seI]
  rw [h3]
  rfl
theorem se_one_right (q0 q1 iv pv uv : Slc) : rightS [⟨[104], [oneU [97] [112] [98, 64, 104] [99, 64, 104] false [[100, 64, 104]] q0 q1 iv pv], uv⟩] = true := by
  rw [se_host, se_domB_h, se_oneU, se_na, se_p, se_b, se_c, rightK_one _ (by decide), se_d]
  decide +kernel
end Go.Proofs.YtbgaglcgennhiaaGreatDoor
end
section
/- what is reached of it -/
namespace Go.Proofs.YtbgaglcgennhiaaGreatDoor
open Go.RowKit Tx Vc Ct
/-- the cells of a reading, at any world above -/
theorem ReadT.cells {w : World} {v : Value} {l : List (List UInt8)} (h : ReadT w.heap.size w v (sts l)) : ∃ A cap, v = .slice A l.length cap ∧ (0 < l.length → ∃ ad : Addr, A = some ad ∧ ∀ W, Below w.heap.size w W → ∀ i x, l[i]? = some x → W.cell? (ad.add i) = some (.string (bts x))) := by
  obtain ⟨A, cap, hv, hc⟩ := h
  have hll : (sts l).length = l.length := List.length_map _
  rw [hll] at hv hc
  refine ⟨A, cap, hv, fun h0 => ?_⟩
  obtain ⟨ad, ha, hb, hcc⟩ := hc h0
  refine ⟨ad, ha, fun W hW i x hi => ?_⟩
  rw [hW.cell (p := ad.add i) (by rw [addBlock]; exact hb)]
  exact hcc i (bts x) (by unfold sts; rw [List.getElem?_map, hi]; rfl)
end Go.Proofs.YtbgaglcgennhiaaGreatDoor
end
