import Derived.Test.YtpaehhlhngilcaaProg
import Derived.Test.YtpaehhlhngilcaaM12
import Derived.BigRegion
import Derived.Deep.LoopGhost
import Derived.Test.YtpaehhlhngilcaaM13
import Derived.Deep.DeepCutAuto
import Derived.Test.YtpaehhlhngilcaaM14
import Derived.Test.YtpaehhlhngilcaaShelf
import Derived.Test.YtpaehhlhngilcaaM21
import Derived.Test.YtpaehhlhngilcaaM28
import Derived.Test.YtpaehhlhngilcaaM25
import Derived.Sort.KeysCollected
import Derived.Sort.Walk0
import Derived.Lib.SlicesCompact
import Derived.Shelf.SlicesE.DeleteFunc
import Derived.Test.YtpaehhlhngilcaaRows
import Derived.Test.YtpaehhlhngilcaaM03
import Derived.Test.YtpaehhlhngilcaaM04
import Derived.Test.YtpaehhlhngilcaaM06
import Derived.WalkKit
import Derived.WalkSpells
import Derived.WalkLawsBesides
import Derived.Test.YtpaehhlhngilcaaM27
import Derived.Lib.Hide
import Derived.Laws.StructEq
import Derived.Lib.SlicesS
import Derived.Deep.RegionWith
import Derived.Deep.Cut
import Derived.IntWalk
import Derived.Deep.QuietTactic
import Derived.BigQuiet
import Derived.Shelf.SlicesQ.IndexFunc
import Derived.Laws.EntriesVeiled
import Derived.Test.YtpaehhlhngilcaaM17
import Derived.Deep.RegionLaw
import Derived.Lib.ConvBytes
import Derived.Lib.AtoiErrMem
import Derived.Test.YtpaehhlhngilcaaM29
import Derived.Deep.Upon
import Derived.Deep.MidRow
import Derived.Shelf.SlicesE.Clone
import Derived.Test.YtpaehhlhngilcaaM24
import Derived.Lib.SliceRun
import Derived.Test.YtpaehhlhngilcaaM23
import Derived.Test.YtpaehhlhngilcaaM15
import Derived.Lib.Strings
import Derived.Test.YtpaehhlhngilcaaM16
import Derived.Laws.AppendOwnNone
section
/- what is reached of it -/
namespace Go.Proofs.Ytpaehhlhngilcaa
open Go.RowKit Go.Sort Sy Tx Vc Ct
theorem ReadT.flat {B : Nat} {w : World} {v : Value} {x : List ByteArray} (h : ReadT B w v x) (h0 : 0 < x.length) :
    ∃ b off cap, v = .slice (some ⟨b, off, none⟩) x.length cap ∧ b < B ∧ ∀ j, j < x.length → w.cell? ⟨b, off + j, none⟩ = some (.string (x.getD j ByteArray.empty)) := by
  obtain ⟨A, cap, rfl, h2⟩ := h
  obtain ⟨⟨b, off, sp⟩, rfl, hb, hc⟩ := h2 h0
  cases sp with
  | none =>
    refine ⟨b, off, cap, rfl, hb, fun j hj => ?_⟩
    have := hc j _ (List.getElem?_eq_getElem hj)
    rw [add_at] at this
    rw [this, List.getD_eq_getElem?_getD, List.getElem?_eq_getElem hj]
    rfl
  | some s =>
    exfalso
    have := hc 0 _ (List.getElem?_eq_getElem h0)
    unfold World.cell? at this
    split at this
    · have e : ((⟨b, off, some s⟩ : Addr).add 0).spot.isSome = true := by unfold Addr.add; split <;> simp_all
      rw [e] at this
      simp at this
    · cases this
end Go.Proofs.Ytpaehhlhngilcaa
end
section
/- what is reached of it -/
namespace Go.Proofs.Ytpaehhlhngilcaa
open Go.RowKit Tx Vc Ct
/-- an item -/
structure Itm where
  jid : List UInt8
  name : List UInt8
  groups : List (List UInt8)
  sub : Int
  ask : Bool
  app : Bool
def encI (x : Itm) (gv : Value) : List Value := [.string (bts x.jid), .string (bts x.name), gv, .int .i64 x.sub, .bool x.ask, .bool x.app]
def agI (x : Itm) (gv : Value) : Value := .agg (encI x gv).toArray
end Go.Proofs.Ytpaehhlhngilcaa
end
section
/- what is reached of it -/
namespace Go.Proofs.Ytpaehhlhngilcaa
open Go.RowKit Tx Vc Ct
/-- where an item's groups lie -/
abbrev Slc := Option Addr × Nat × Nat
def sl (q : Slc) : Value := .slice q.1 q.2.1 q.2.2
/-- A slice of items that can be read, below block B. -/
def ReadI (B : Nat) (w : World) (v : Value) (l : List (Itm × Slc)) : Prop :=
  ∃ A cap, v = .slice A l.length cap ∧ (0 < l.length → ∃ b off, A = some ⟨b, off, none⟩ ∧ b < B ∧ ∀ i p, l[i]? = some p → ∀ c u, (encI p.1 (sl p.2))[c]? = some u → w.cell? ⟨b, off + i * 6 + c, none⟩ = some u) ∧ ∀ p ∈ l, ReadT B w (sl p.2) (sts p.1.groups)
instance : Inhabited Itm := ⟨⟨[], [], [], 0, false, false⟩⟩
end Go.Proofs.Ytpaehhlhngilcaa
end
section
/- what is reached of it -/
namespace Go.Proofs.Ytpaehhlhngilcaa
open Go.RowKit Tx Vc Ct
theorem cloneTZ_any (v : Value) (l : List (List UInt8)) (w : World) (B : Nat) (hR : ReadT B w v (sts l)) (hl : l.length ≤ 8796093022208) :
    Calls Try.prog 24 #[v] w fun e w' => ∃ A cap, e = .returned (.slice A l.length cap) ∧ OwnT w.heap.size w' (.slice A l.length cap) (sts l) ∧ Below w.heap.size w w' := by
  have hll : (sts l).length = l.length := List.length_map _
  have own_reads : ∀ (v' : Value) (w2 : World), w2.ownsRow w.heap.size 9 1 v' l.length ((sts l).map Value.string) → v' ≠ .slice none 0 0 → ∃ A cap, v' = .slice A l.length cap ∧ OwnT w.heap.size w2 v' (sts l) := fun v' w2 ho hne => by
    have ho2 : OwnT w.heap.size w2 v' (sts l) := by
      unfold OwnT strs
      rw [hll]
      exact ho
    obtain ⟨A, cap, hA⟩ := ho2.slice
    rw [hll] at hA
    exact ⟨A, cap, hA, ho2⟩
  by_cases h0 : 0 < l.length
  · obtain ⟨b, off, cap, hv, hb, hc⟩ := hR.flat (by omega)
    rw [hv]
    refine (Try.slices_Clone_string b off (sts l).length cap (sts l) w (Nat.le_refl _) (by omega) hc).mono ?_
    rintro e w2 ⟨v', rfl, ho, hne, hbl⟩
    rw [List.take_length, hll] at ho
    obtain ⟨A, cap2, rfl, hr⟩ := own_reads v' w2 ho hne
    exact ⟨A, cap2, rfl, hr, hbl⟩
  · have hl0 : l = [] := List.length_eq_zero_iff.1 (by omega)
    subst hl0
    obtain ⟨A, cap, hv, _⟩ := hR
    rw [hv]
    cases A with
    | none =>
      refine (Try.slices_Clone_string_nil 0 cap w).mono ?_
      rintro e w2 ⟨rfl, rfl⟩
      exact ⟨none, 0, rfl, OwnT.nil _ _, Below.refl _ _⟩
    | some a =>
      refine (Try.slices_Clone_string_zero a cap w).mono ?_
      rintro e w2 ⟨v', rfl, ho, hne, hbl⟩
      obtain ⟨A, cap2, rfl, hr⟩ := own_reads v' w2 ho hne
      exact ⟨A, cap2, rfl, hr, hbl⟩
end Go.Proofs.Ytpaehhlhngilcaa
end
section
/- what is reached of it -/
namespace Go.Proofs.Ytpaehhlhngilcaa
open Go.RowKit Vc Ct
theorem Txts.own {w : World} {h : Nat} {xs : List (List UInt8)} (t : Txts w h xs) (cap : Nat) : ReadT w.heap.size w (.slice (some ⟨h, 0, none⟩) xs.length cap) (sts xs) := by
  refine ReadT.made (by unfold sts; rw [List.length_map]) t.lt (fun i b hi => ?_)
  unfold sts at hi
  rw [List.getElem?_map] at hi
  obtain ⟨x, hx, rfl⟩ := Option.map_eq_some_iff.1 hi
  rw [Nat.zero_add]
  exact t.cell hx
end Go.Proofs.Ytpaehhlhngilcaa
end
section
/- what is reached of it -/
namespace Go.Proofs.Ytpaehhlhngilcaa
open Go.RowKit Vc Ct
def heavyT (l : List (List UInt8)) : Nat := (l.map (fun x => 1 + x.length)).sum
theorem heavy_take {l : List (List UInt8)} {k : Nat} {x : List UInt8} (h : l[k]? = some x) : heavyT (l.take (k + 1)) = heavyT (l.take k) + 1 + x.length := by
  unfold heavyT
  rw [List.take_add_one, h]
  simp
  omega
theorem heavy_le : ∀ (l : List (List UInt8)) (k : Nat), heavyT (l.take k) ≤ heavyT l
  | [], k => by simp
  | x :: t, 0 => Nat.zero_le _
  | x :: t, k + 1 => by
    have := heavy_le t k
    unfold heavyT at this ⊢
    simp only [List.take_succ_cons, List.map_cons, List.sum_cons]
    omega
set_option maxHeartbeats 2000000 in
theorem ptexts_any (v : Value) (l : List (List UInt8)) (w : World) (hR : ReadT w.heap.size w v (sts l)) (hl : l.length ≤ 1000000000) (hs : heavyT l ≤ 1000000000000) :
    Calls Try.prog 25 #[v] w fun e w' => e = .returned (.int .i64 (heavyT l : Nat)) ∧ w' = w := by
  obtain ⟨A, cap, rfl, hcell⟩ := hR
  have hsl : (sts l).length = l.length := by unfold sts; rw [List.length_map]
  rw [hsl] at hcell ⊢
  obtain ⟨n, hn⟩ : ∃ n, l.length = n := ⟨_, rfl⟩
  have HN := Lib.hid hn
  rw [hn] at hcell hl ⊢
  have HC := Lib.hid hcell
  have HLE := Lib.hid (heavy_le l)
  have HST := Lib.hid (fun k x (h : l[k]? = some x) => heavy_take h)
  have HSS := Lib.hid hs
  have h0 : Hid (heavyT (l.take 0) = 0) := rfl
  clear hcell hn hsl hs
  go_enter Try.func25, Try.ntmps25
  go_wp2_with fail
  go_loopw [3, 4] (fun sv iv wr => ∃ (k m : Nat), sv = .int .i64 m ∧ iv = .int .i64 k ∧ k ≤ n ∧ Hid (m = heavyT (l.take k)) ∧ wr = w) (fun _ iv _ => n - (intOf iv).toNat)
  case atStart => exact ⟨0, 0, rfl, rfl, Nat.zero_le _, h0.out.symm, rfl⟩
  case round =>
    obtain ⟨k, m, rfl, rfl, hk, HM, rfl⟩ := hrel
    have hmb : m ≤ 1000000000000 := by have := HLE.out k; have := HSS.out; have := HM.out; omega
    by_cases hlt : k < n
    · obtain ⟨ad, rfl, hlb, hcell⟩ := HC.out (by omega)
      obtain ⟨x, hx⟩ : ∃ p, l[k]? = some p := ⟨_, List.getElem?_eq_getElem (by rw [HN.out]; exact hlt)⟩
      have c0 := hcell k (bts x) (by unfold sts; rw [List.getElem?_map, hx]; rfl)
      have hnx := HST.out k x hx
      rw [← HM.out] at hnx
      have hle := HLE.out (k + 1)
      rw [hnx] at hle
      have hsz : (bts x).size = x.length := by rw [Lib.size_eq]
      obtain ⟨X, hX⟩ : ∃ X, bts x = X := ⟨_, rfl⟩
      rw [hX] at hsz c0
      rw [← hsz] at hnx hle
      have hbx : m + 1 + X.size ≤ 1000000000000 := Nat.le_trans hle HSS.out
      have HNX : Hid (m + 1 + X.size = heavyT (l.take (k + 1))) := hnx.symm
      clear hcell hx hlb hnx hle hsz hX
      go_wp2_with fail
      go_roundw
      case rel => exact ⟨k + 1, m + 1 + X.size, by go_num, by go_num, by omega, HNX, trivial⟩
      case measure => simp [intOf]; omega
    · have hkn : l.take k = l := List.take_of_length_le (by rw [HN.out]; omega)
      have HE := HM.out
      rw [hkn] at HE
      have HEE := Lib.hid HE
      clear HE hkn
      go_wp2_with fail
      go_ret
      exact ⟨by rw [← HEE.out]; rfl, rfl⟩
end Go.Proofs.Ytpaehhlhngilcaa
end
section
/- what is reached of it -/
namespace Go.Proofs.Ytpaehhlhngilcaa
open Go.RowKit Tx Vc Ct
abbrev laid4 (w : World) (g : Nat) (a b c d : Value) : World := (((w.setCell ⟨g, 0, none⟩ a).setCell ⟨g, 1, none⟩ b).setCell ⟨g, 2, none⟩ c).setCell ⟨g, 3, none⟩ d
theorem laid4_bk {w : World} {g : Nat} {t : TypeId} {x0 x1 x2 x3 : Value} (h : Bk w g t #[x0, x1, x2, x3]) (a b c d : Value) : Bk (laid4 w g a b c d) g t #[a, b, c, d] := by
  have := (((h.put 0 a).put 1 b).put 2 c).put 3 d
  simpa [laid4] using this
theorem laid4_below {w0 w : World} {B g : Nat} (h : Below B w0 w) (hg : B ≤ g) (a b c d : Value) : Below B w0 (laid4 w g a b c d) :=
  (((h.setCell (p := ⟨g, 0, none⟩) hg _).setCell (p := ⟨g, 1, none⟩) hg _).setCell (p := ⟨g, 2, none⟩) hg _).setCell (p := ⟨g, 3, none⟩) hg _
end Go.Proofs.Ytpaehhlhngilcaa
end
section
/- what is reached of it -/
namespace Go.Proofs.Ytpaehhlhngilcaa
open Go.RowKit Tx Vc Ct
/-- the cells of a reading, at any world above -/
theorem ReadT.cells {w : World} {v : Value} {l : List (List UInt8)} (h : ReadT w.heap.size w v (sts l)) : ∃ A cap, v = .slice A l.length cap ∧ (0 < l.length → ∃ ad : Addr, A = some ad ∧ ∀ W, Below w.heap.size w W → ∀ i x, l[i]? = some x → W.cell? (ad.add i) = some (.string (bts x))) := by
  obtain ⟨A, cap, hv, hc⟩ := h
  have hll : (sts l).length = l.length := List.length_map _
  rw [hll] at hv hc
  refine ⟨A, cap, hv, fun h0 => ?_⟩
  obtain ⟨ad, ha, hb, hcc⟩ := hc h0
  refine ⟨ad, ha, fun W hW i x hi => ?_⟩
  rw [hW.cell (p := ad.add i) (by rw [addBlock]; exact hb)]
  exact hcc i (bts x) (by unfold sts; rw [List.getElem?_map, hi]; rfl)
end Go.Proofs.Ytpaehhlhngilcaa
end
