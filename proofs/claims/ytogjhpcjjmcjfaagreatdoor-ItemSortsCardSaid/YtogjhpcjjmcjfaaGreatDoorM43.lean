import Derived.Test.YtogjhpcjjmcjfaaGreatDoorM29
import Derived.Test.YtogjhpcjjmcjfaaGreatDoorM28
import Derived.Laws.EntriesVeiled
import Derived.Test.YtogjhpcjjmcjfaaGreatDoorM24
import Derived.Deep.RegionWith
import Derived.Deep.RegionLaw
import Derived.Deep.QuietTactic
import Derived.BigQuiet
import Derived.Test.YtogjhpcjjmcjfaaGreatDoorM27
import Derived.Lib.ConvBytes
import Derived.Lib.AtoiErrMem
import Derived.Test.YtogjhpcjjmcjfaaGreatDoorM26
import Derived.Test.YtogjhpcjjmcjfaaGreatDoorM32
import Derived.Test.YtogjhpcjjmcjfaaGreatDoorM19
import Derived.Test.YtogjhpcjjmcjfaaGreatDoorM04
import Derived.Lib.Hide
import Derived.Laws.StructEq
import Derived.Lib.SlicesS
import Derived.Shelf.SlicesQ.IndexFunc
import Derived.Deep.Upon
import Derived.Deep.MidRow
import Derived.Shelf.SlicesE.Clone
import Derived.Test.YtogjhpcjjmcjfaaGreatDoorM20
import Derived.Lib.SliceRun
import Derived.Lib.Strings
import Derived.Laws.AppendOwnNone
import Derived.WalkKit
section
/- what is reached of it -/
namespace Go.Proofs.YtogjhpcjjmcjfaaGreatDoor
open Go.RowKit Vc Ct
theorem Txts.own {w : World} {h : Nat} {xs : List (List UInt8)} (t : Txts w h xs) (cap : Nat) : ReadT w.heap.size w (.slice (some ⟨h, 0, none⟩) xs.length cap) (sts xs) := by
  refine ReadT.made (by unfold sts; rw [List.length_map]) t.lt (fun i b hi => ?_)
  unfold sts at hi
  rw [List.getElem?_map] at hi
  obtain ⟨x, hx, rfl⟩ := Option.map_eq_some_iff.1 hi
  rw [Nat.zero_add]
  exact t.cell hx
end Go.Proofs.YtogjhpcjjmcjfaaGreatDoor
end
section
/- what is reached of it -/
namespace Go.Proofs.YtogjhpcjjmcjfaaGreatDoor
open Go.RowKit Tx Vc Ct
def awI0 : Itm := ⟨[97, 64, 98], [110], [], 0, false, false⟩
def awI1 : Itm := ⟨[97, 64, 98], [], [], 0, false, false⟩
theorem awI_right : rightI awI1 = true := by
  have h1 : addrB awI1.jid = true := by
    show decide (Jd.bareL [97, 64, 98] = ([97, 64, 98], 0)) = true
    rw [ibare_ab]; decide
  have h2 : line awI1.name 100 = true := by decide +kernel
  have h3 : grpB awI1.groups = true := by decide +kernel
  have h4 : subB awI1.sub awI1.ask awI1.app = true := by decide
  unfold rightI
  rw [h1, h2, h3, h4]
  rfl
theorem awI_groups : groupsL [[98], [97], [98]] = [[97], [98]] := by decide +kernel
set_option maxHeartbeats 4000000 in
theorem iawake_any (w : World) (hO : Okw w) : Calls Tryz.prog 10 #[] w fun e w' => e = .returned (.bool true) ∧ Below w.heap.size w w' := by
  -- the one item
  obtain ⟨W1, hW1⟩ : ∃ W1, w.alloc (.cells #[.string ⟨#[97, 64, 98]⟩, .string ⟨#[110]⟩, .slice none 0 0, .int .i64 0, .bool false, .bool false] 24) = W1 := ⟨_, rfl⟩
  obtain ⟨b, hb⟩ : ∃ b, w.heap.size = b := ⟨_, rfl⟩
  have k1 : Bk W1 b 24 #[.string ⟨#[97, 64, 98]⟩, .string ⟨#[110]⟩, .slice none 0 0, .int .i64 0, .bool false, .bool false] := by rw [← hW1, ← hb]; exact Bk.new _ _ _
  have B1 : Hid (Below w.heap.size w W1) := by rw [← hW1]; exact (Below.refl _ _).alloc (Nat.le_refl _) _
  have hRI : ReadI W1.heap.size W1 (.slice (some ⟨b, 0, none⟩) 1 1) [(awI0, none, 0, 0)] := by
    refine ⟨_, 1, rfl, fun _ => ⟨b, 0, rfl, k1.lt, fun i p hp c u hu => ?_⟩, fun p hp => ?_⟩
    · have hi : i = 0 := by have := (List.getElem?_eq_some_iff.1 hp).1; simp at this; exact this
      subst hi
      obtain rfl : (awI0, none, 0, 0) = p := by simpa using hp
      rw [k1.cell]
      rw [show 0 + 0 * 6 + c = c by omega]
      have e : (#[.string ⟨#[97, 64, 98]⟩, .string ⟨#[110]⟩, .slice none 0 0, .int .i64 0, .bool false, .bool false] : Array Value) = (encI awI0 (sl (none, 0, 0))).toArray := rfl
      rw [e, List.getElem?_toArray]
      exact hu
    · rw [List.mem_singleton] at hp
      subst hp
      exact ReadT.nil _ _ _
  have HF := Lib.hid (findI_any _ [(awI0, none, 0, 0)] [97, 64, 98] W1 hRI (by decide) (by decide) (fun p hp => by rw [List.mem_singleton] at hp; subst hp; decide))
  have HW1 := Lib.hid hW1
  have HB := Lib.hid hb
  have HO := Lib.hid hO
  clear hW1 hb k1 hRI hO
  go_enter Tryz.func10, Tryz.ntmps10
  go_upto_region 1 with fail
  go_wp2_with fail
  (try rw [HW1.out])
  (try rw [HB.out])
  refine HF.out.mono ?_
  rintro e w2 ⟨b2, h2⟩
  have h3 : ∃ gv, e = .returned (.tuple #[agI awI0 gv, .bool true]) ∧ ReadT w2.heap.size w2 gv (sts awI0.groups) := by
    rcases h2 with ⟨hn, _⟩ | ⟨p, hp, gv, he, hr⟩
    · exact absurd hn (by decide)
    · have : p = (awI0, none, 0, 0) := by
        have h5 := List.mem_of_find?_eq_some hp
        rw [List.mem_singleton] at h5
        exact h5
      subst this
      exact ⟨gv, he, hr⟩
  obtain ⟨gv, rfl, hr⟩ := h3
  obtain ⟨A, cap, hgv, _⟩ := hr
  have hai : agI awI0 (.slice A (sts awI0.groups).length cap) = .agg #[.string ⟨#[97, 64, 98]⟩, .string ⟨#[110]⟩, .slice A 0 cap, .int .i64 0, .bool false, .bool false] := rfl
  rw [hgv, hai]
  have B2 : Hid (Below w.heap.size w w2) := B1.out.trans (b2.mono B1.out.size)
  clear h2 hgv hai b2
  obtain ⟨W3, hW3⟩ : ∃ W, w2.alloc (.cells #[.string ⟨#[]⟩, .string ⟨#[]⟩, .slice none 0 0, .int .i64 0, .bool false, .bool false] 24) = W := ⟨_, rfl⟩
  obtain ⟨xb, hxb⟩ : ∃ b, w2.heap.size = b := ⟨_, rfl⟩
  have K3 : Hid (Bk W3 xb 24 #[.string ⟨#[]⟩, .string ⟨#[]⟩, .slice none 0 0, .int .i64 0, .bool false, .bool false]) := by rw [← hW3, ← hxb]; exact Bk.new _ _ _
  have B3 : Hid (Below w.heap.size w W3) := by rw [← hW3]; exact B2.out.alloc B2.out.size _
  have r0 : W3.cell? ⟨xb, 0, none⟩ = some (.string ⟨#[]⟩) := K3.out.cell 0
  have g0 : W3.frozen? ⟨xb, 0, none⟩ = false := K3.out.free 0
  have r1 : W3.cell? ⟨xb, 1, none⟩ = some (.string ⟨#[]⟩) := K3.out.cell 1
  have g1 : W3.frozen? ⟨xb, 1, none⟩ = false := K3.out.free 1
  have r2 : W3.cell? ⟨xb, 2, none⟩ = some (.slice none 0 0) := K3.out.cell 2
  have g2 : W3.frozen? ⟨xb, 2, none⟩ = false := K3.out.free 2
  have r3 : W3.cell? ⟨xb, 3, none⟩ = some (.int .i64 0) := K3.out.cell 3
  have g3 : W3.frozen? ⟨xb, 3, none⟩ = false := K3.out.free 3
  have r4 : W3.cell? ⟨xb, 4, none⟩ = some (.bool false) := K3.out.cell 4
  have g4 : W3.frozen? ⟨xb, 4, none⟩ = false := K3.out.free 4
  have r5 : W3.cell? ⟨xb, 5, none⟩ = some (.bool false) := K3.out.cell 5
  have g5 : W3.frozen? ⟨xb, 5, none⟩ = false := K3.out.free 5
  have K4 := Lib.hid (laid6_bk K3.out (.string ⟨#[97, 64, 98]⟩) (.string ⟨#[110]⟩) (.slice A 0 cap) (.int .i64 0) (.bool false) (.bool false))
  have B4 := Lib.hid (laid6_below B3.out (by have := B2.out.size; omega : w.heap.size ≤ xb) (.string ⟨#[97, 64, 98]⟩) (.string ⟨#[110]⟩) (.slice A 0 cap) (.int .i64 0) (.bool false) (.bool false))
  obtain ⟨W4, hW4⟩ : ∃ z, laid6 W3 xb (.string ⟨#[97, 64, 98]⟩) (.string ⟨#[110]⟩) (.slice A 0 cap) (.int .i64 0) (.bool false) (.bool false) = z := ⟨_, rfl⟩
  rw [hW4] at K4 B4
  go_upto_region 2 with fail
  have c1 : W4.cell? ⟨xb, 1, none⟩ = some (.string ⟨#[110]⟩) := K4.out.cell 1
  have HRI := Lib.hid (iright_any awI1 (.slice none 0 0) W4 (HO.out.below B4.out) (ReadT.nil _ _ _) (by decide) (by decide) (by decide) (fun g hg => absurd hg (by simp [awI1])))
  rw [awI_right] at HRI
  have hai1 : agI awI1 (.slice none 0 0) = .agg #[.string ⟨#[97, 64, 98]⟩, .string ⟨#[]⟩, .slice none 0 0, .int .i64 0, .bool false, .bool false] := rfl
  rw [hai1] at HRI
  clear hW3 hxb hW4 r0 r1 r2 r3 r4 r5 g0 g1 g2 g3 g4 g5 hai1
  go_wp2_with fail
  refine HRI.out.mono ?_
  rintro e w5 ⟨rfl, b5⟩
  have B5 : Hid (Below w.heap.size w w5) := B4.out.trans (b5.mono B4.out.size)
  have K5 := Lib.hid (K4.out.below b5 K4.out.lt)
  clear b5 c1
  have c1 : w5.cell? ⟨xb, 1, none⟩ = some (.string ⟨#[110]⟩) := K5.out.cell 1
  -- three texts
  obtain ⟨W6, hW6⟩ : ∃ W, w5.alloc (.cells #[.string ⟨#[98]⟩, .string ⟨#[97]⟩, .string ⟨#[98]⟩] 9) = W := ⟨_, rfl⟩
  obtain ⟨g, hg⟩ : ∃ b, w5.heap.size = b := ⟨_, rfl⟩
  have k6 : Bk W6 g 9 #[.string ⟨#[98]⟩, .string ⟨#[97]⟩, .string ⟨#[98]⟩] := by rw [← hW6, ← hg]; exact Bk.new _ _ _
  have B6 : Hid (Below w.heap.size w W6) := by rw [← hW6]; exact B5.out.alloc B5.out.size _
  have hr6 : ReadT W6.heap.size W6 (.slice (some ⟨g, 0, none⟩) 3 3) (sts [[98], [97], [98]]) := ⟨_, 3, rfl, fun _ => ⟨_, rfl, k6.lt, fun i x hi => by
    rw [add_at, Nat.zero_add, k6.cell]
    have e : (#[.string ⟨#[98]⟩, .string ⟨#[97]⟩, .string ⟨#[98]⟩] : Array Value) = ((sts [[98], [97], [98]]).map Value.string).toArray := rfl
    rw [e, List.getElem?_toArray, List.getElem?_map, hi]; rfl⟩⟩
  have HG := Lib.hid (igroups_any _ [[98], [97], [98]] W6 hr6 (by decide))
  rw [awI_groups] at HG
  go_wp2_with fail
  refine HG.out.mono ?_
  rintro e w7 ⟨v7, rfl, hr7, b7⟩
  have B7 : Hid (Below w.heap.size w w7) := B6.out.trans (b7.mono B6.out.size)
  clear hW6 hg k6 b7 hr6
  obtain ⟨W8, hW8⟩ : ∃ W, w7.alloc (.cells #[.string ⟨#[97]⟩, .string ⟨#[98]⟩] 9) = W := ⟨_, rfl⟩
  obtain ⟨g2, hg2⟩ : ∃ b, w7.heap.size = b := ⟨_, rfl⟩
  have k8 : Bk W8 g2 9 #[.string ⟨#[97]⟩, .string ⟨#[98]⟩] := by rw [← hW8, ← hg2]; exact Bk.new _ _ _
  have b8 : Below w7.heap.size w7 W8 := by rw [← hW8]; exact (Below.refl _ _).alloc (Nat.le_refl _) _
  have B8 : Hid (Below w.heap.size w W8) := B7.out.trans (b8.mono B7.out.size)
  have hr8 : ReadT W8.heap.size W8 (.slice (some ⟨g2, 0, none⟩) 2 2) (sts [[97], [98]]) := ⟨_, 2, rfl, fun _ => ⟨_, rfl, k8.lt, fun i x hi => by
    rw [add_at, Nat.zero_add, k8.cell]
    have e : (#[.string ⟨#[97]⟩, .string ⟨#[98]⟩] : Array Value) = ((sts [[97], [98]]).map Value.string).toArray := rfl
    rw [e, List.getElem?_toArray, List.getElem?_map, hi]; rfl⟩⟩
  have HP := Lib.hid (plainT_any W8.heap.size v7 (.slice (some ⟨g2, 0, none⟩) 2 2) (sts [[97], [98]]) (sts [[97], [98]]) W8 ((hr7.below b8).more b8.size) hr8 (by decide) (by decide))
  rw [decide_eq_true rfl] at HP
  clear b8 hr8 hr7 k8
  go_wp2_with fail
  refine HP.out.mono ?_
  rintro e w9 ⟨rfl, b9⟩
  have B9 : Hid (Below w.heap.size w w9) := B8.out.trans (b9.mono B8.out.size)
  clear b9 hW8 hg2
  go_wp2_with fail
  go_ret
  exact ⟨rfl, B9.out⟩
end Go.Proofs.YtogjhpcjjmcjfaaGreatDoor
end
section
/- what is reached of it -/
namespace Go.Proofs.YtogjhpcjjmcjfaaGreatDoor
open Go.RowKit Vc Ct
def heavyT (l : List (List UInt8)) : Nat := (l.map (fun x => 1 + x.length)).sum
theorem heavy_take {l : List (List UInt8)} {k : Nat} {x : List UInt8} (h : l[k]? = some x) : heavyT (l.take (k + 1)) = heavyT (l.take k) + 1 + x.length := by
  unfold heavyT
  rw [List.take_add_one, h]
  simp
  omega
theorem heavy_le : ∀ (l : List (List UInt8)) (k : Nat), heavyT (l.take k) ≤ heavyT l
  | [], k => by simp
  | x :: t, 0 => Nat.zero_le _
  | x :: t, k + 1 => by
    have := heavy_le t k
    unfold heavyT at this ⊢
    simp only [List.take_succ_cons, List.map_cons, List.sum_cons]
    omega
set_option maxHeartbeats 2000000 in
theorem ptexts_any (v : Value) (l : List (List UInt8)) (w : World) (hR : ReadT w.heap.size w v (sts l)) (hl : l.length ≤ 1000000000) (hs : heavyT l ≤ 1000000000000) :
    Calls Tryz.prog 9 #[v] w fun e w' => e = .returned (.int .i64 (heavyT l : Nat)) ∧ w' = w := by
  obtain ⟨A, cap, rfl, hcell⟩ := hR
  have hsl : (sts l).length = l.length := by unfold sts; rw [List.length_map]
  rw [hsl] at hcell ⊢
  obtain ⟨n, hn⟩ : ∃ n, l.length = n := ⟨_, rfl⟩
  have HN := Lib.hid hn
  rw [hn] at hcell hl ⊢
  have HC := Lib.hid hcell
  have HLE := Lib.hid (heavy_le l)
  have HST := Lib.hid (fun k x (h : l[k]? = some x) => heavy_take h)
  have HSS := Lib.hid hs
  have h0 : Hid (heavyT (l.take 0) = 0) := rfl
  clear hcell hn hsl hs
  go_enter Tryz.func9, Tryz.ntmps9
  go_wp2_with fail
  go_loopw [3, 4] (fun sv iv wr => ∃ (k m : Nat), sv = .int .i64 m ∧ iv = .int .i64 k ∧ k ≤ n ∧ Hid (m = heavyT (l.take k)) ∧ wr = w) (fun _ iv _ => n - (intOf iv).toNat)
  case atStart => exact ⟨0, 0, rfl, rfl, Nat.zero_le _, h0.out.symm, rfl⟩
  case round =>
    obtain ⟨k, m, rfl, rfl, hk, HM, rfl⟩ := hrel
    have hmb : m ≤ 1000000000000 := by have := HLE.out k; have := HSS.out; have := HM.out; omega
    by_cases hlt : k < n
    · obtain ⟨ad, rfl, hlb, hcell⟩ := HC.out (by omega)
      obtain ⟨x, hx⟩ : ∃ p, l[k]? = some p := ⟨_, List.getElem?_eq_getElem (by rw [HN.out]; exact hlt)⟩
      have c0 := hcell k (bts x) (by unfold sts; rw [List.getElem?_map, hx]; rfl)
      have hnx := HST.out k x hx
      rw [← HM.out] at hnx
      have hle := HLE.out (k + 1)
      rw [hnx] at hle
      have hsz : (bts x).size = x.length := by rw [Lib.size_eq]
      obtain ⟨X, hX⟩ : ∃ X, bts x = X := ⟨_, rfl⟩
      rw [hX] at hsz c0
      rw [← hsz] at hnx hle
      have hbx : m + 1 + X.size ≤ 1000000000000 := Nat.le_trans hle HSS.out
      have HNX : Hid (m + 1 + X.size = heavyT (l.take (k + 1))) := hnx.symm
      clear hcell hx hlb hnx hle hsz hX
      go_wp2_with fail
      go_roundw
      case rel => exact ⟨k + 1, m + 1 + X.size, by go_num, by go_num, by omega, HNX, trivial⟩
      case measure => simp [intOf]; omega
    · have hkn : l.take k = l := List.take_of_length_le (by rw [HN.out]; omega)
      have HE := HM.out
      rw [hkn] at HE
      have HEE := Lib.hid HE
      clear HE hkn
      go_wp2_with fail
      go_ret
      exact ⟨by rw [← HEE.out]; rfl, rfl⟩
end Go.Proofs.YtogjhpcjjmcjfaaGreatDoor
end
section
/- what is reached of it -/
namespace Go.Proofs.YtogjhpcjjmcjfaaGreatDoor
open Go.RowKit Tx Vc Ct
abbrev laid4 (w : World) (g : Nat) (a b c d : Value) : World := (((w.setCell ⟨g, 0, none⟩ a).setCell ⟨g, 1, none⟩ b).setCell ⟨g, 2, none⟩ c).setCell ⟨g, 3, none⟩ d
theorem laid4_bk {w : World} {g : Nat} {t : TypeId} {x0 x1 x2 x3 : Value} (h : Bk w g t #[x0, x1, x2, x3]) (a b c d : Value) : Bk (laid4 w g a b c d) g t #[a, b, c, d] := by
  have := (((h.put 0 a).put 1 b).put 2 c).put 3 d
  simpa [laid4] using this
theorem laid4_below {w0 w : World} {B g : Nat} (h : Below B w0 w) (hg : B ≤ g) (a b c d : Value) : Below B w0 (laid4 w g a b c d) :=
  (((h.setCell (p := ⟨g, 0, none⟩) hg _).setCell (p := ⟨g, 1, none⟩) hg _).setCell (p := ⟨g, 2, none⟩) hg _).setCell (p := ⟨g, 3, none⟩) hg _
end Go.Proofs.YtogjhpcjjmcjfaaGreatDoor
end
section
/- what is reached of it -/
namespace Go.Proofs.YtogjhpcjjmcjfaaGreatDoor
open Go.RowKit Tx Vc Ct
/-- the cells of a reading, at any world above -/
theorem ReadT.cells {w : World} {v : Value} {l : List (List UInt8)} (h : ReadT w.heap.size w v (sts l)) : ∃ A cap, v = .slice A l.length cap ∧ (0 < l.length → ∃ ad : Addr, A = some ad ∧ ∀ W, Below w.heap.size w W → ∀ i x, l[i]? = some x → W.cell? (ad.add i) = some (.string (bts x))) := by
  obtain ⟨A, cap, hv, hc⟩ := h
  have hll : (sts l).length = l.length := List.length_map _
  rw [hll] at hv hc
  refine ⟨A, cap, hv, fun h0 => ?_⟩
  obtain ⟨ad, ha, hb, hcc⟩ := hc h0
  refine ⟨ad, ha, fun W hW i x hi => ?_⟩
  rw [hW.cell (p := ad.add i) (by rw [addBlock]; exact hb)]
  exact hcc i (bts x) (by unfold sts; rw [List.getElem?_map, hi]; rfl)
end Go.Proofs.YtogjhpcjjmcjfaaGreatDoor
end
