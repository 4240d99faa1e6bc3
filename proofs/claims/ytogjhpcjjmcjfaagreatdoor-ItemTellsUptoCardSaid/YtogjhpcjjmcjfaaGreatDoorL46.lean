import Derived.Test.YtogjhpcjjmcjfaaGreatDoorL36
import Derived.Test.YtogjhpcjjmcjfaaGreatDoorL26
import Derived.Test.YtogjhpcjjmcjfaaGreatDoorL03
import Derived.Test.YtogjhpcjjmcjfaaGreatDoorL30
import Derived.Deep.RegionWith
import Derived.Test.YtogjhpcjjmcjfaaGreatDoorL27
import Derived.BigQuiet
import Derived.Test.YtogjhpcjjmcjfaaGreatDoorL41
import Derived.Lib.Strings
import Derived.Test.YtogjhpcjjmcjfaaGreatDoorL10
import Derived.Test.YtogjhpcjjmcjfaaGreatDoorL33
import Derived.WalkKit
section
/- what is reached of it -/
namespace Go.Proofs.YtogjhpcjjmcjfaaGreatDoor
open Go.RowKit Tx Vc Ct
def awI0 : Itm := ⟨[97, 64, 98], [110], [], 0, false, false⟩
def awI1 : Itm := ⟨[97, 64, 98], [], [], 0, false, false⟩
theorem awI_right : rightI awI1 = true := by
  have h1 : addrB awI1.jid = true := by
    show decide (Jd.bareL [97, 64, 98] = ([97, 64, 98], 0)) = true
    rw [ibare_ab]; decide
  have h2 : line awI1.name 100 = true := by decide +kernel
  have h3 : grpB awI1.groups = true := by decide +kernel
  have h4 : subB awI1.sub awI1.ask awI1.app = true := by decide
  unfold rightI
  rw [h1, h2, h3, h4]
  rfl
theorem awI_groups : groupsL [[98], [97], [98]] = [[97], [98]] := by decide +kernel
set_option maxHeartbeats 4000000 in
theorem iawake_any (w : World) (hO : Okw w) : Calls Tryz.prog 10 #[] w fun e w' => e = .returned (.bool true) ∧ Below w.heap.size w w' := by
  -- the one item
  obtain ⟨W1, hW1⟩ : ∃ W1, w.alloc (.cells #[.string ⟨#[97, 64, 98]⟩, .string ⟨#[110]⟩, .slice none 0 0, .int .i64 0, .bool false, .bool false] 24) = W1 := ⟨_, rfl⟩
  obtain ⟨b, hb⟩ : ∃ b, w.heap.size = b := ⟨_, rfl⟩
  have k1 : Bk W1 b 24 #[.string ⟨#[97, 64, 98]⟩, .string ⟨#[110]⟩, .slice none 0 0, .int .i64 0, .bool false, .bool false] := by rw [← hW1, ← hb]; exact Bk.new _ _ _
  have B1 : Hid (Below w.heap.size w W1) := by rw [← hW1]; exact (Below.refl _ _).alloc (Nat.le_refl _) _
  have hRI : ReadI W1.heap.size W1 (.slice (some ⟨b, 0, none⟩) 1 1) [(awI0, none, 0, 0)] := by
    refine ⟨_, 1, rfl, fun _ => ⟨b, 0, rfl, k1.lt, fun i p hp c u hu => ?_⟩, fun p hp => ?_⟩
    · have hi : i = 0 := by have := (List.getElem?_eq_some_iff.1 hp).1; simp at this; exact this
      subst hi
      obtain rfl : (awI0, none, 0, 0) = p := by simpa using hp
      rw [k1.cell]
      rw [show 0 + 0 * 6 + c = c by omega]
      have e : (#[.string ⟨#[97, 64, 98]⟩, .string ⟨#[110]⟩, .slice none 0 0, .int .i64 0, .bool false, .bool false] : Array Value) = (encI awI0 (sl (none, 0, 0))).toArray := rfl
      rw [e, List.getElem?_toArray]
      exact hu
    · rw [List.mem_singleton] at hp
      subst hp
      exact ReadT.nil _ _ _
  have HF := Lib.hid (findI_any _ [(awI0, none, 0, 0)] [97, 64, 98] W1 hRI (by decide) (by decide) (fun p hp => by rw [List.mem_singleton] at hp; subst hp; decide))
  have HW1 := Lib.hid hW1
  have HB := Lib.hid hb
  have HO := Lib.hid hO
  clear hW1 hb k1 hRI hO
  go_enter Tryz.func10, Tryz.ntmps10
  go_upto_region 1 with fail
  go_wp2_with fail
  (try rw [HW1.out])
  (try rw [HB.out])
  refine HF.out.mono ?_
  rintro e w2 ⟨b2, h2⟩
  have h3 : ∃ gv, e = .returned (.tuple #[agI awI0 gv, .bool true]) ∧ ReadT w2.heap.size w2 gv (sts awI0.groups) := by
    rcases h2 with ⟨hn, _⟩ | ⟨p, hp, gv, he, hr⟩
    · exact absurd hn (by decide)
    · have : p = (awI0, none, 0, 0) := by
        have h5 := List.mem_of_find?_eq_some hp
        rw [List.mem_singleton] at h5
        exact h5
      subst this
      exact ⟨gv, he, hr⟩
  obtain ⟨gv, rfl, hr⟩ := h3
  obtain ⟨A, cap, hgv, _⟩ := hr
  have hai : agI awI0 (.slice A (sts awI0.groups).length cap) = .agg #[.string ⟨#[97, 64, 98]⟩, .string ⟨#[110]⟩, .slice A 0 cap, .int .i64 0, .bool false, .bool false] := rfl
  rw [hgv, hai]
  have B2 : Hid (Below w.heap.size w w2) := B1.out.trans (b2.mono B1.out.size)
  clear h2 hgv hai b2
  obtain ⟨W3, hW3⟩ : ∃ W, w2.alloc (.cells #[.string ⟨#[]⟩, .string ⟨#[]⟩, .slice none 0 0, .int .i64 0, .bool false, .bool false] 24) = W := ⟨_, rfl⟩
  obtain ⟨xb, hxb⟩ : ∃ b, w2.heap.size = b := ⟨_, rfl⟩
  have K3 : Hid (Bk W3 xb 24 #[.string ⟨#[]⟩, .string ⟨#[]⟩, .slice none 0 0, .int .i64 0, .bool false, .bool false]) := by rw [← hW3, ← hxb]; exact Bk.new _ _ _
  have B3 : Hid (Below w.heap.size w W3) := by rw [← hW3]; exact B2.out.alloc B2.out.size _
  have r0 : W3.cell? ⟨xb, 0, none⟩ = some (.string ⟨#[]⟩) := K3.out.cell 0
  have g0 : W3.frozen? ⟨xb, 0, none⟩ = false := K3.out.free 0
  have r1 : W3.cell? ⟨xb, 1, none⟩ = some (.string ⟨#[]⟩) := K3.out.cell 1
  have g1 : W3.frozen? ⟨xb, 1, none⟩ = false := K3.out.free 1
  have r2 : W3.cell? ⟨xb, 2, none⟩ = some (.slice none 0 0) := K3.out.cell 2
  have g2 : W3.frozen? ⟨xb, 2, none⟩ = false := K3.out.free 2
  have r3 : W3.cell? ⟨xb, 3, none⟩ = some (.int .i64 0) := K3.out.cell 3
  have g3 : W3.frozen? ⟨xb, 3, none⟩ = false := K3.out.free 3
  have r4 : W3.cell? ⟨xb, 4, none⟩ = some (.bool false) := K3.out.cell 4
  have g4 : W3.frozen? ⟨xb, 4, none⟩ = false := K3.out.free 4
  have r5 : W3.cell? ⟨xb, 5, none⟩ = some (.bool false) := K3.out.cell 5
  have g5 : W3.frozen? ⟨xb, 5, none⟩ = false := K3.out.free 5
  have K4 := Lib.hid (laid6_bk K3.out (.string ⟨#[97, 64, 98]⟩) (.string ⟨#[110]⟩) (.slice A 0 cap) (.int .i64 0) (.bool false) (.bool false))
  have B4 := Lib.hid (laid6_below B3.out (by have := B2.out.size; omega : w.heap.size ≤ xb) (.string ⟨#[97, 64, 98]⟩) (.string ⟨#[110]⟩) (.slice A 0 cap) (.int .i64 0) (.bool false) (.bool false))
  obtain ⟨W4, hW4⟩ : ∃ z, laid6 W3 xb (.string ⟨#[97, 64, 98]⟩) (.string ⟨#[110]⟩) (.slice A 0 cap) (.int .i64 0) (.bool false) (.bool false) = z := ⟨_, rfl⟩
  rw [hW4] at K4 B4
  go_upto_region 2 with fail
  have c1 : W4.cell? ⟨xb, 1, none⟩ = some (.string ⟨#[110]⟩) := K4.out.cell 1
  have HRI := Lib.hid (iright_any awI1 (.slice none 0 0) W4 (HO.out.below B4.out) (ReadT.nil _ _ _) (by decide) (by decide) (by decide) (fun g hg => absurd hg (by simp [awI1])))
  rw [awI_right] at HRI
  have hai1 : agI awI1 (.slice none 0 0) = .agg #[.string ⟨#[97, 64, 98]⟩, .string ⟨#[]⟩, .slice none 0 0, .int .i64 0, .bool false, .bool false] := rfl
  rw [hai1] at HRI
  clear hW3 hxb hW4 r0 r1 r2 r3 r4 r5 g0 g1 g2 g3 g4 g5 hai1
  go_wp2_with fail
  refine HRI.out.mono ?_
  rintro e w5 ⟨rfl, b5⟩
  have B5 : Hid (Below w.heap.size w w5) := B4.out.trans (b5.mono B4.out.size)
  have K5 := Lib.hid (K4.out.below b5 K4.out.lt)
  clear b5 c1
  have c1 : w5.cell? ⟨xb, 1, none⟩ = some (.string ⟨#[110]⟩) := K5.out.cell 1
  -- three texts
  obtain ⟨W6, hW6⟩ : ∃ W, w5.alloc (.cells #[.string ⟨#[98]⟩, .string ⟨#[97]⟩, .string ⟨#[98]⟩] 9) = W := ⟨_, rfl⟩
  obtain ⟨g, hg⟩ : ∃ b, w5.heap.size = b := ⟨_, rfl⟩
  have k6 : Bk W6 g 9 #[.string ⟨#[98]⟩, .string ⟨#[97]⟩, .string ⟨#[98]⟩] := by rw [← hW6, ← hg]; exact Bk.new _ _ _
  have B6 : Hid (Below w.heap.size w W6) := by rw [← hW6]; exact B5.out.alloc B5.out.size _
  have hr6 : ReadT W6.heap.size W6 (.slice (some ⟨g, 0, none⟩) 3 3) (sts [[98], [97], [98]]) := ⟨_, 3, rfl, fun _ => ⟨_, rfl, k6.lt, fun i x hi => by
    rw [add_at, Nat.zero_add, k6.cell]
    have e : (#[.string ⟨#[98]⟩, .string ⟨#[97]⟩, .string ⟨#[98]⟩] : Array Value) = ((sts [[98], [97], [98]]).map Value.string).toArray := rfl
    rw [e, List.getElem?_toArray, List.getElem?_map, hi]; rfl⟩⟩
  have HG := Lib.hid (igroups_any _ [[98], [97], [98]] W6 hr6 (by decide))
  rw [awI_groups] at HG
  go_wp2_with fail
  refine HG.out.mono ?_
  rintro e w7 ⟨v7, rfl, hr7, b7⟩
  have B7 : Hid (Below w.heap.size w w7) := B6.out.trans (b7.mono B6.out.size)
  clear hW6 hg k6 b7 hr6
  obtain ⟨W8, hW8⟩ : ∃ W, w7.alloc (.cells #[.string ⟨#[97]⟩, .string ⟨#[98]⟩] 9) = W := ⟨_, rfl⟩
  obtain ⟨g2, hg2⟩ : ∃ b, w7.heap.size = b := ⟨_, rfl⟩
  have k8 : Bk W8 g2 9 #[.string ⟨#[97]⟩, .string ⟨#[98]⟩] := by rw [← hW8, ← hg2]; exact Bk.new _ _ _
  have b8 : Below w7.heap.size w7 W8 := by rw [← hW8]; exact (Below.refl _ _).alloc (Nat.le_refl _) _
  have B8 : Hid (Below w.heap.size w W8) := B7.out.trans (b8.mono B7.out.size)
  have hr8 : ReadT W8.heap.size W8 (.slice (some ⟨g2, 0, none⟩) 2 2) (sts [[97], [98]]) := ⟨_, 2, rfl, fun _ => ⟨_, rfl, k8.lt, fun i x hi => by
    rw [add_at, Nat.zero_add, k8.cell]
    have e : (#[.string ⟨#[97]⟩, .string ⟨#[98]⟩] : Array Value) = ((sts [[97], [98]]).map Value.string).toArray := rfl
    rw [e, List.getElem?_toArray, List.getElem?_map, hi]; rfl⟩⟩
  have HP := Lib.hid (plainT_any W8.heap.size v7 (.slice (some ⟨g2, 0, none⟩) 2 2) (sts [[97], [98]]) (sts [[97], [98]]) W8 ((hr7.below b8).more b8.size) hr8 (by decide) (by decide))
  rw [decide_eq_true rfl] at HP
  clear b8 hr8 hr7 k8
  go_wp2_with fail
  refine HP.out.mono ?_
  rintro e w9 ⟨rfl, b9⟩
  have B9 : Hid (Below w.heap.size w w9) := B8.out.trans (b9.mono B8.out.size)
  clear b9 hW8 hg2
  go_wp2_with fail
  go_ret
  exact ⟨rfl, B9.out⟩
end Go.Proofs.YtogjhpcjjmcjfaaGreatDoor
end
section
/- what is reached of it -/
namespace Go.Proofs.YtogjhpcjjmcjfaaGreatDoor
open Go.RowKit Vc Ct
def heavyT (l : List (List UInt8)) : Nat := (l.map (fun x => 1 + x.length)).sum
theorem heavy_take {l : List (List UInt8)} {k : Nat} {x : List UInt8} (h : l[k]? = some x) : heavyT (l.take (k + 1)) = heavyT (l.take k) + 1 + x.length := by
  unfold heavyT
  rw [List.take_add_one, h]
  simp
  omega
theorem heavy_le : ∀ (l : List (List UInt8)) (k : Nat), heavyT (l.take k) ≤ heavyT l
  | [], k => by simp
  | x :: t, 0 => Nat.zero_le _
  | x :: t, k + 1 => by
    have := heavy_le t k
    unfold heavyT at this ⊢
    simp only [List.take_succ_cons, List.map_cons, List.sum_cons]
    omega
set_option maxHeartbeats 2000000 in
theorem ptexts_any (v : Value) (l : List (List UInt8)) (w : World) (hR : ReadT w.heap.size w v (sts l)) (hl : l.length ≤ 1000000000) (hs : heavyT l ≤ 1000000000000) :
    Calls Tryz.prog 9 #[v] w fun e w' => e = .returned (.int .i64 (heavyT l : Nat)) ∧ w' = w := by
  obtain ⟨A, cap, rfl, hcell⟩ := hR
  have hsl : (sts l).length = l.length := by unfold sts; rw [List.length_map]
  rw [hsl] at hcell ⊢
  obtain ⟨n, hn⟩ : ∃ n, l.length = n := ⟨_, rfl⟩
  have HN := Lib.hid hn
  rw [hn] at hcell hl ⊢
  have HC := Lib.hid hcell
  have HLE := Lib.hid (heavy_le l)
  have HST := Lib.hid (fun k x (h : l[k]? = some x) => heavy_take h)
  have HSS := Lib.hid hs
  have h0 : Hid (heavyT (l.take 0) = 0) := rfl
  clear hcell hn hsl hs
  go_enter Tryz.func9, Tryz.ntmps9
  go_wp2_with fail
  go_loopw [3, 4] (fun sv iv wr => ∃ (k m : Nat), sv = .int .i64 m ∧ iv = .int .i64 k ∧ k ≤ n ∧ Hid (m = heavyT (l.take k)) ∧ wr = w) (fun _ iv _ => n - (intOf iv).toNat)
  case atStart => exact ⟨0, 0, rfl, rfl, Nat.zero_le _, h0.out.symm, rfl⟩
  case round =>
    obtain ⟨k, m, rfl, rfl, hk, HM, rfl⟩ := hrel
    have hmb : m ≤ 1000000000000 := by have := HLE.out k; have := HSS.out; have := HM.out; omega
    by_cases hlt : k < n
    · obtain ⟨ad, rfl, hlb, hcell⟩ := HC.out (by omega)
      obtain ⟨x, hx⟩ : ∃ p, l[k]? = some p := ⟨_, List.getElem?_eq_getElem (by rw [HN.out]; exact hlt)⟩
      have c0 := hcell k (bts x) (by unfold sts; rw [List.getElem?_map, hx]; rfl)
      have hnx := HST.out k x hx
      rw [← HM.out] at hnx
      have hle := HLE.out (k + 1)
      rw [hnx] at hle
      have hsz : (bts x).size = x.length := by rw [Lib.size_eq]
      obtain ⟨X, hX⟩ : ∃ X, bts x = X := ⟨_, rfl⟩
      rw [hX] at hsz c0
      rw [← hsz] at hnx hle
      have hbx : m + 1 + X.size ≤ 1000000000000 := Nat.le_trans hle HSS.out
      have HNX : Hid (m + 1 + X.size = heavyT (l.take (k + 1))) := hnx.symm
      clear hcell hx hlb hnx hle hsz hX
      go_wp2_with fail
      go_roundw
      case rel => exact ⟨k + 1, m + 1 + X.size, by go_num, by go_num, by omega, HNX, trivial⟩
      case measure => simp [intOf]; omega
    · have hkn : l.take k = l := List.take_of_length_le (by rw [HN.out]; omega)
      have HE := HM.out
      rw [hkn] at HE
      have HEE := Lib.hid HE
      clear HE hkn
      go_wp2_with fail
      go_ret
      exact ⟨by rw [← HEE.out]; rfl, rfl⟩
end Go.Proofs.YtogjhpcjjmcjfaaGreatDoor
end
section
/- what is reached of it -/
namespace Go.Proofs.YtogjhpcjjmcjfaaGreatDoor
open Go.RowKit Tx Vc Ct
def heavyI (x : Itm) : Nat := 5 + x.jid.length + x.name.length + heavyT x.groups
def heavyIs (l : List (Itm × Slc)) : Nat := (l.map fun p => heavyI p.1).sum
theorem heavyIs_take {l : List (Itm × Slc)} {k : Nat} {p : Itm × Slc} (h : l[k]? = some p) : heavyIs (l.take (k + 1)) = heavyIs (l.take k) + heavyI p.1 := by
  unfold heavyIs
  rw [List.take_add_one, h]
  simp
theorem heavyIs_le (l : List (Itm × Slc)) (k : Nat) : heavyIs (l.take k) ≤ heavyIs l := by
  unfold heavyIs
  conv => rhs; rw [← List.take_append_drop k l, List.map_append, List.sum_append]
  omega
abbrev laid4 (w : World) (g : Nat) (a b c d : Value) : World := (((w.setCell ⟨g, 0, none⟩ a).setCell ⟨g, 1, none⟩ b).setCell ⟨g, 2, none⟩ c).setCell ⟨g, 3, none⟩ d
theorem laid4_bk {w : World} {g : Nat} {t : TypeId} {x0 x1 x2 x3 : Value} (h : Bk w g t #[x0, x1, x2, x3]) (a b c d : Value) : Bk (laid4 w g a b c d) g t #[a, b, c, d] := by
  have := (((h.put 0 a).put 1 b).put 2 c).put 3 d
  simpa [laid4] using this
theorem laid4_below {w0 w : World} {B g : Nat} (h : Below B w0 w) (hg : B ≤ g) (a b c d : Value) : Below B w0 (laid4 w g a b c d) :=
  (((h.setCell (p := ⟨g, 0, none⟩) hg _).setCell (p := ⟨g, 1, none⟩) hg _).setCell (p := ⟨g, 2, none⟩) hg _).setCell (p := ⟨g, 3, none⟩) hg _
set_option maxHeartbeats 8000000 in
set_option maxRecDepth 100000 in
theorem small1_any (v : Value) (l : List (Itm × Slc)) (w : World) (hb ub : Nat) (hH : Bk w hb 52 #[.string ⟨#[]⟩, .slice (some ⟨ub, 0, none⟩) 1 1]) (hU : Bk w ub 49 #[.string ⟨#[]⟩, .string ⟨#[]⟩, v, .slice none 0 0])
    (hR : ReadI w.heap.size w v l) (hl : l.length ≤ 1000000) (hg : ∀ p ∈ l, p.1.groups.length ≤ 1000000000) (hs : heavyIs l ≤ 100000000000) :
    Calls Tryz.prog 27 #[.agg #[.slice (some ⟨hb, 0, none⟩) 1 1]] w fun e w' => e = .returned (.bool (decide (6 + heavyIs l ≤ 20000))) ∧ Below w.heap.size w w' := by
  obtain ⟨A, cap, rfl, hA, hT⟩ := hR
  obtain ⟨W1, hW1⟩ : ∃ W1, w.alloc (.cells #[.slice (some ⟨hb, 0, none⟩) 1 1] 55) = W1 := ⟨_, rfl⟩
  obtain ⟨sb, hsb⟩ : ∃ bx, w.heap.size = bx := ⟨_, rfl⟩
  have KS : Hid (Bk W1 sb 55 #[.slice (some ⟨hb, 0, none⟩) 1 1]) := by rw [← hW1, ← hsb]; exact Bk.new _ _ _
  have B1 : Hid (Below w.heap.size w W1) := by rw [← hW1]; exact (Below.refl _ _).alloc (Nat.le_refl _) _
  have KH := Lib.hid (hH.below B1.out hH.lt)
  have KU := Lib.hid (hU.below B1.out hU.lt)
  have HA := Lib.hid hA
  have HT := Lib.hid hT
  have HGL := Lib.hid hg
  have HS := Lib.hid hs
  obtain ⟨len, hlen⟩ : ∃ n, l.length = n := ⟨_, rfl⟩
  rw [hlen] at KU hl
  have HLEN := Lib.hid hlen
  have HW1 := Lib.hid hW1
  have HSB := Lib.hid hsb
  clear hA hT hg hs hW1 hsb hH hU hlen
  go_enter Tryz.func27, Tryz.ntmps27
  go_upto_region 1 with fail
  (try rw [HW1.out])
  (try rw [HSB.out])
  go_wp2_with fail
  go_loopw [3, 4, 5, 6, 7] (fun nv iv kv uv mv wr => ∃ (u5 u6 u7 : Value) (i s : Nat), nv = .int .i64 (s : Nat) ∧ iv = .int .i64 (i : Nat) ∧ kv = u5 ∧ uv = u6 ∧ mv = u7 ∧ Hid ((i = 0 ∧ s = 0) ∨ (i = 1 ∧ s = 6 + heavyIs l)) ∧ Hid (Below W1.heap.size W1 wr)) (fun _ iv _ _ _ _ => 1 - (intOf iv).toNat)
  case atStart => exact ⟨_, _, _, 0, 0, rfl, rfl, rfl, rfl, rfl, .inl ⟨rfl, rfl⟩, Below.refl _ _⟩
  case round =>
    obtain ⟨u5, u6, u7, i, s, rfl, rfl, rfl, rfl, rfl, HQ, BW⟩ := hrel
    have cs0 : wr.cell? ⟨sb, 0, none⟩ = some (.slice (some ⟨hb, 0, none⟩) 1 1) := (KS.out.below BW.out KS.out.lt).cell 0
    rcases HQ.out with ⟨rfl, rfl⟩ | ⟨rfl, rfl⟩
    · have ch0 : wr.cell? ⟨hb, 0, none⟩ = some (.string ⟨#[]⟩) := (KH.out.below BW.out KH.out.lt).cell 0
      have ch1 : wr.cell? ⟨hb, 1, none⟩ = some (.slice (some ⟨ub, 0, none⟩) 1 1) := (KH.out.below BW.out KH.out.lt).cell 1
      clear HQ
      go_wp2_with fail
      go_loopw [3, 5, 6, 7] (fun nv kv uv mv wr2 => ∃ (u6 u7 : Value) (k s : Nat), nv = .int .i64 (s : Nat) ∧ kv = .int .i64 (k : Nat) ∧ uv = u6 ∧ mv = u7 ∧ Hid ((k = 0 ∧ s = 1) ∨ (k = 1 ∧ s = 6 + heavyIs l)) ∧ Hid (Below W1.heap.size W1 wr2)) (fun _ kv _ _ _ => 1 - (intOf kv).toNat)
      case atStart => exact ⟨_, _, 0, 1, rfl, rfl, rfl, rfl, .inl ⟨rfl, rfl⟩, BW⟩
      case round =>
        clear BW cs0 ch0 ch1
        obtain ⟨u6, u7, k, s, rfl, rfl, rfl, rfl, HQ, BW⟩ := hrel
        have cs0 : wr.cell? ⟨sb, 0, none⟩ = some (.slice (some ⟨hb, 0, none⟩) 1 1) := (KS.out.below BW.out KS.out.lt).cell 0
        have ch1 : wr.cell? ⟨hb, 1, none⟩ = some (.slice (some ⟨ub, 0, none⟩) 1 1) := (KH.out.below BW.out KH.out.lt).cell 1
        rcases HQ.out with ⟨rfl, rfl⟩ | ⟨rfl, rfl⟩
        · clear HQ
          have cu0 : wr.cell? ⟨ub, 0, none⟩ = some (.string ⟨#[]⟩) := (KU.out.below BW.out KU.out.lt).cell 0
          have cu1 : wr.cell? ⟨ub, 1, none⟩ = some (.string ⟨#[]⟩) := (KU.out.below BW.out KU.out.lt).cell 1
          have cu2 : wr.cell? ⟨ub, 2, none⟩ = some (.slice A len cap) := (KU.out.below BW.out KU.out.lt).cell 2
          have cu3 : wr.cell? ⟨ub, 3, none⟩ = some (.slice none 0 0) := (KU.out.below BW.out KU.out.lt).cell 3
          obtain ⟨Wa, hWa⟩ : ∃ W, wr.alloc (.cells #[.string ⟨#[]⟩, .string ⟨#[]⟩, .slice none 0 0, .slice none 0 0] 49) = W := ⟨_, rfl⟩
          obtain ⟨uc, huc⟩ : ∃ b, wr.heap.size = b := ⟨_, rfl⟩
          have KA : Hid (Bk Wa uc 49 #[.string ⟨#[]⟩, .string ⟨#[]⟩, .slice none 0 0, .slice none 0 0]) := by rw [← hWa, ← huc]; exact Bk.new _ _ _
          have BA : Hid (Below W1.heap.size W1 Wa) := by rw [← hWa]; exact BW.out.alloc BW.out.size _
          have hcu : ∀ (b i : Nat) (x : Value), wr.cell? ⟨b, i, none⟩ = some x → b < wr.heap.size → Wa.cell? ⟨b, i, none⟩ = some x := fun b i x h hb => by rw [← hWa, ((Below.refl wr.heap.size wr).alloc (Nat.le_refl _) _).cell (p := ⟨b, i, none⟩) hb]; exact h
          have hus : sb < wr.heap.size := Nat.lt_of_lt_of_le KS.out.lt BW.out.size
          have huh : hb < wr.heap.size := Nat.lt_of_lt_of_le KH.out.lt BW.out.size
          have huu : ub < wr.heap.size := Nat.lt_of_lt_of_le KU.out.lt BW.out.size
          have da0 : Wa.cell? ⟨ub, 0, none⟩ = some (.string ⟨#[]⟩) := hcu _ _ _ cu0 huu
          have da1 : Wa.cell? ⟨ub, 1, none⟩ = some (.string ⟨#[]⟩) := hcu _ _ _ cu1 huu
          have da2 : Wa.cell? ⟨ub, 2, none⟩ = some (.slice A len cap) := hcu _ _ _ cu2 huu
          have da3 : Wa.cell? ⟨ub, 3, none⟩ = some (.slice none 0 0) := hcu _ _ _ cu3 huu
          have das : Wa.cell? ⟨sb, 0, none⟩ = some (.slice (some ⟨hb, 0, none⟩) 1 1) := hcu _ _ _ cs0 hus
          have dah : Wa.cell? ⟨hb, 1, none⟩ = some (.slice (some ⟨ub, 0, none⟩) 1 1) := hcu _ _ _ ch1 huh
          have r0 : Wa.cell? ⟨uc, 0, none⟩ = some (.string ⟨#[]⟩) := KA.out.cell 0
          have g0 : Wa.frozen? ⟨uc, 0, none⟩ = false := KA.out.free 0
          have r1 : Wa.cell? ⟨uc, 1, none⟩ = some (.string ⟨#[]⟩) := KA.out.cell 1
          have g1 : Wa.frozen? ⟨uc, 1, none⟩ = false := KA.out.free 1
          have r2 : Wa.cell? ⟨uc, 2, none⟩ = some (.slice none 0 0) := KA.out.cell 2
          have g2 : Wa.frozen? ⟨uc, 2, none⟩ = false := KA.out.free 2
          have r3 : Wa.cell? ⟨uc, 3, none⟩ = some (.slice none 0 0) := KA.out.cell 3
          have g3 : Wa.frozen? ⟨uc, 3, none⟩ = false := KA.out.free 3
          have KB := Lib.hid (laid4_bk KA.out (.string ⟨#[]⟩) (.string ⟨#[]⟩) (.slice A len cap) (.slice none 0 0))
          have BB := Lib.hid (laid4_below BA.out (by have := BW.out.size; omega : W1.heap.size ≤ uc) (.string ⟨#[]⟩) (.string ⟨#[]⟩) (.slice A len cap) (.slice none 0 0))
          obtain ⟨Wb, hWb⟩ : ∃ z, laid4 Wa uc (.string ⟨#[]⟩) (.string ⟨#[]⟩) (.slice A len cap) (.slice none 0 0) = z := ⟨_, rfl⟩
          rw [hWb] at KB BB
          clear hcu hus huh huu
          go_upto_region 10 with fail
          have e0 : ∀ p : Sy.Bel Wb, p.v.cell? ⟨uc, 0, none⟩ = some (.string ⟨#[]⟩) := fun p => (KB.out.below p.h KB.out.lt).cell 0
          have e1 : ∀ p : Sy.Bel Wb, p.v.cell? ⟨uc, 1, none⟩ = some (.string ⟨#[]⟩) := fun p => (KB.out.below p.h KB.out.lt).cell 1
          have e3 : ∀ p : Sy.Bel Wb, p.v.cell? ⟨uc, 3, none⟩ = some (.slice none 0 0) := fun p => (KB.out.below p.h KB.out.lt).cell 3
          have htx : ∀ p : Sy.Bel Wb, Calls Tryz.prog 9 #[.slice none 0 0] p.v fun e w' => e = .returned (.int .i64 0) ∧ Below p.v.heap.size p.v w' := fun p =>
            (ptexts_any (.slice none 0 0) [] p.v (ReadT.nil _ _ _) (by decide) (by decide)).mono fun _ _ ⟨he, hw⟩ => ⟨he, by rw [hw]; exact Below.refl _ _⟩
          refine Sy.wp_region_quiet_bel (by kernel_rfl) (by kernel_rfl) ?_
          repeat (go_big_quiet_step ((go_at_call 9; exact Sy.Calls.bel_of (htx _))))
          refine wpQuiet_nil ?_
          intro w2 hw'
          have hb2 : Below Wb.heap.size Wb w2 := by obtain ⟨v, rfl⟩ := hw'; exact v.h
          have B2 : Hid (Below W1.heap.size W1 w2) := BB.out.trans (hb2.mono BB.out.size)
          have K2 := Lib.hid (KB.out.below hb2 KB.out.lt)
          clear hw' hb2 e0 e1 e3 htx hWa huc hWb cs0 ch1 das dah
          clear cu0 da0 r0 g0
          clear cu1 da1 r1 g1
          clear cu2 da2 r2 g2
          clear cu3 da3 r3 g3
          go_wp2_with fail
          go_loopw [3, 7] (fun nv mv wr3 => ∃ (m s : Nat), nv = .int .i64 (s : Nat) ∧ mv = .int .i64 (m : Nat) ∧ m ≤ len ∧ Hid (s = 6 + heavyIs (l.take m)) ∧ Hid (Below w2.heap.size w2 wr3)) (fun _ mv _ => len - (intOf mv).toNat)
          case atStart => exact ⟨0, 6, rfl, rfl, Nat.zero_le _, rfl, Below.refl _ _⟩
          case round =>
            clear BW
            obtain ⟨m, s, rfl, rfl, hm, HSM, BW⟩ := hrel
            have cu2 : wr.cell? ⟨uc, 2, none⟩ = some (.slice A len cap) := (K2.out.below BW.out K2.out.lt).cell 2
            by_cases hml : m < len
            · have hmz : (m : Int) < (len : Int) := by omega
              have hmz0 : (0 : Int) ≤ (m : Int) := by omega
              obtain ⟨b, off, rfl, hb, hc⟩ := HA.out (by rw [HLEN.out]; omega)
              obtain ⟨p, hp⟩ : ∃ p, l[m]? = some p := ⟨_, List.getElem?_eq_getElem (by rw [HLEN.out]; exact hml)⟩
              have htk := heavyIs_take hp
              have hle := heavyIs_le l (m + 1)
              have hpm : p ∈ l := List.mem_of_getElem? hp
              obtain ⟨x, A0, n0, cap0⟩ := p
              have BWW : Hid (∀ W, Below wr.heap.size wr W → Below w.heap.size w W) := fun W hW => B1.out.trans ((B2.out.trans ((BW.out.trans (hW.mono BW.out.size)).mono B2.out.size)).mono B1.out.size)
              obtain ⟨P, hP⟩ : ∃ P, off + m * 6 = P := ⟨_, rfl⟩
              have q0 : ∀ v : Sy.Bel wr, v.v.cell? ⟨b, P, none⟩ = some (.string (bts x.jid)) := fun v => by rw [(BWW.out v.v v.h).cell (p := ⟨b, P, none⟩) hb, ← hP]; exact hc m _ hp 0 _ rfl
              have q1 : ∀ v : Sy.Bel wr, v.v.cell? ⟨b, P + 1, none⟩ = some (.string (bts x.name)) := fun v => by rw [(BWW.out v.v v.h).cell (p := ⟨b, P + 1, none⟩) hb, ← hP]; exact hc m _ hp 1 _ rfl
              have q2 : ∀ v : Sy.Bel wr, v.v.cell? ⟨b, P + 2, none⟩ = some (.slice A0 n0 cap0) := fun v => by rw [(BWW.out v.v v.h).cell (p := ⟨b, P + 2, none⟩) hb, ← hP]; exact hc m _ hp 2 _ rfl
              have qu : ∀ v : Sy.Bel wr, v.v.cell? ⟨uc, 2, none⟩ = some (.slice (some ⟨b, off, none⟩) len cap) := fun v => (K2.out.below (BW.out.trans (v.h.mono BW.out.size)) K2.out.lt).cell 2
              have hxx : heavyI (x, A0, n0, cap0).1 = heavyI x := rfl
              have hsum := HS.out
              have hhx : heavyI x = 5 + x.jid.length + x.name.length + heavyT x.groups := rfl
              have htx : ∀ v : Sy.Bel wr, Calls Tryz.prog 9 #[.slice A0 n0 cap0] v.v fun e w' => e = .returned (.int .i64 (heavyT x.groups : Nat)) ∧ Below v.v.heap.size v.v w' := fun v =>
                (ptexts_any (.slice A0 n0 cap0) x.groups v.v (((HT.out _ hpm).below (BWW.out v.v v.h)).more (BWW.out v.v v.h).size) (HGL.out _ hpm) (by omega)).mono fun _ _ ⟨he, hw⟩ => ⟨he, by rw [hw]; exact Below.refl _ _⟩
              obtain ⟨a, ha⟩ : ∃ a, x.jid.length = a := ⟨_, rfl⟩
              obtain ⟨c, hcn⟩ : ∃ a, x.name.length = a := ⟨_, rfl⟩
              obtain ⟨t, ht⟩ : ∃ a, heavyT x.groups = a := ⟨_, rfl⟩
              have hJs : (bts x.jid).size = a := by rw [← ha, Lib.size_eq]
              have hNs : (bts x.name).size = c := by rw [← hcn, Lib.size_eq]
              obtain ⟨J, hJ⟩ : ∃ J, bts x.jid = J := ⟨_, rfl⟩
              obtain ⟨N, hN⟩ : ∃ J, bts x.name = J := ⟨_, rfl⟩
              rw [hJ] at q0 hJs
              rw [hN] at q1 hNs
              rw [ht] at htx hhx
              rw [ha, hcn] at hhx
              have hs0 := HSM.out
              obtain ⟨s1, hs1⟩ : ∃ z, s + 5 = z := ⟨_, rfl⟩
              obtain ⟨s2, hs2⟩ : ∃ z, s1 + a = z := ⟨_, rfl⟩
              obtain ⟨s3, hs3⟩ : ∃ z, s2 + c = z := ⟨_, rfl⟩
              obtain ⟨s4, hs4⟩ : ∃ z, s3 + t = z := ⟨_, rfl⟩
              have HN4 : Hid (s4 = 6 + heavyIs (l.take (m + 1))) := by unfold Hid; omega
              have hbig : s4 ≤ 1000000000000 := by omega
              have w1 : IntKind.i64.wrap ((s : Int) + 5) = (s1 : Int) := by rw [IntKind.wrap_i64]; omega
              have w2' : IntKind.i64.wrap ((s1 : Int) + (a : Int)) = (s2 : Int) := by rw [IntKind.wrap_i64]; omega
              have w3 : IntKind.i64.wrap ((s2 : Int) + (c : Int)) = (s3 : Int) := by rw [IntKind.wrap_i64]; omega
              have w4 : IntKind.i64.wrap ((s3 : Int) + (t : Int)) = (s4 : Int) := by rw [IntKind.wrap_i64]; omega
              have hJz : ((J.size : Nat) : Int) = (a : Int) := by rw [hJs]
              have hNz : ((N.size : Nat) : Int) = (c : Int) := by rw [hNs]
              clear hJ hN ht ha hcn hhx hs1 hs2 hs3 hs4 hsum htk hle hpm hxx hbig hs0 hp hc hb
              go_wp2_with fail
              refine Sy.wp_region_quiet_bel (by kernel_rfl) (by kernel_rfl) ?_
              repeat (go_big_quiet_step ((go_at_call 9; exact Sy.Calls.bel_of (htx _))))
              refine wpQuiet_nil ?_
              intro w5 hw'
              have hb5 : Below wr.heap.size wr w5 := by obtain ⟨v, rfl⟩ := hw'; exact v.h
              have B5 : Hid (Below w2.heap.size w2 w5) := BW.out.trans (hb5.mono BW.out.size)
              clear hw' hb5 q0 q1 q2 qu htx w1 w2' w3 w4 hJz hNz hJs hNs hP
              go_wp2_with fail
              go_roundw
              case rel => exact ⟨m + 1, s4, rfl, by go_num, by omega, HN4, B5⟩
              case measure => simp [intOf]; omega
            · have hmz : ¬ (m : Int) < (len : Int) := by omega
              have hme : m = len := by omega
              have HFS : Hid (s = 6 + heavyIs l) := by
                unfold Hid
                rw [HSM.out, hme, ← HLEN.out, List.take_length]
              have B6 : Hid (Below W1.heap.size W1 wr) := B2.out.trans (BW.out.mono B2.out.size)
              clear hme HSM
              go_wp2_with fail
              go_roundw
              case rel => exact ⟨_, _, 1, s, rfl, by go_num, rfl, rfl, .inr ⟨rfl, HFS.out⟩, B6⟩
              case measure => simp [intOf]
        · obtain ⟨s, hs⟩ : ∃ s, 6 + heavyIs l = s := ⟨_, rfl⟩
          have HSS := Lib.hid hs
          rw [hs]
          clear HQ hs
          go_wp2_with fail
          go_roundw
          case rel => exact ⟨_, _, _, 1, s, rfl, by go_num, rfl, rfl, rfl, .inr ⟨rfl, HSS.out.symm⟩, BW⟩
          case measure => simp [intOf]
    · obtain ⟨s, hs⟩ : ∃ s, 6 + heavyIs l = s := ⟨_, rfl⟩
      rw [hs]
      have HSS := Lib.hid hs
      clear HQ hs
      go_wp2_with fail
      go_ret
      exact ⟨by rw [HSS.out]; simp; omega, B1.out.trans (BW.out.mono B1.out.size)⟩
def smallIs (l : List (Itm × Slc)) : Bool := decide (l.length ≤ 150) && decide (6 + heavyIs l ≤ 20000)
set_option maxHeartbeats 2000000 in
theorem smallIs_any (v : Value) (l : List (Itm × Slc)) (w : World) (hR : ReadI w.heap.size w v l) (hl : l.length ≤ 1000000) (hg : ∀ p ∈ l, p.1.groups.length ≤ 1000000000) (hs : heavyIs l ≤ 100000000000) :
    Calls Tryz.prog 8 #[v] w fun e w' => e = .returned (.bool (smallIs l)) ∧ Below w.heap.size w w' := by
  obtain ⟨A, cap, hv, _⟩ := id hR
  subst hv
  have hsm : smallIs l = (decide (l.length ≤ 150) && decide (6 + heavyIs l ≤ 20000)) := rfl
  obtain ⟨len, hlen⟩ : ∃ n, l.length = n := ⟨_, rfl⟩
  rw [hlen] at hsm
  by_cases h1 : len ≤ 150
  · have h1z : (len : Int) ≤ 150 := by omega
    have h1d : decide ((len : Int) ≤ 150) = true := decide_eq_true h1z
    rw [decide_eq_true h1, Bool.true_and] at hsm
    obtain ⟨W1, hW1⟩ : ∃ W, w.alloc (.cells #[.string ⟨#[]⟩, .string ⟨#[]⟩, .slice A l.length cap, .slice none 0 0] 49) = W := ⟨_, rfl⟩
    obtain ⟨ub, hub⟩ : ∃ b, w.heap.size = b := ⟨_, rfl⟩
    obtain ⟨W2, hW2⟩ : ∃ W, W1.alloc (.cells #[.string ⟨#[]⟩, .slice (some ⟨ub, 0, none⟩) 1 1] 52) = W := ⟨_, rfl⟩
    obtain ⟨hb, hhb⟩ : ∃ b, ub + 1 = b := ⟨_, rfl⟩
    have hs1 : W1.heap.size = hb := by rw [← hW1, World.size_alloc, hub, hhb]
    have k1 : Bk W1 ub 49 #[.string ⟨#[]⟩, .string ⟨#[]⟩, .slice A l.length cap, .slice none 0 0] := by rw [← hW1, ← hub]; exact Bk.new _ _ _
    have k2 : Bk W2 ub 49 #[.string ⟨#[]⟩, .string ⟨#[]⟩, .slice A l.length cap, .slice none 0 0] := by rw [← hW2]; exact k1.alloc _
    have kh : Bk W2 hb 52 #[.string ⟨#[]⟩, .slice (some ⟨ub, 0, none⟩) 1 1] := by rw [← hW2, ← hs1]; exact Bk.new _ _ _
    have b2 : Below w.heap.size w W2 := by rw [← hW2, ← hW1]; exact ((Below.refl _ _).alloc (Nat.le_refl _) _).alloc (by rw [World.size_alloc]; omega) _
    have hR2 : ReadI W2.heap.size W2 (.slice A l.length cap) l := by
      obtain ⟨A2, cap2, hv2, hc2, hT2⟩ := hR
      refine ⟨A2, cap2, hv2, fun h0 => ?_, fun p hp => ((hT2 p hp).below b2).more b2.size⟩
      obtain ⟨b, off, ha, hbb, hc⟩ := hc2 h0
      exact ⟨b, off, ha, Nat.lt_of_lt_of_le hbb b2.size, fun i p hp c u hu => by rw [b2.cell (p := ⟨b, off + i * 6 + c, none⟩) hbb]; exact hc i p hp c u hu⟩
    have HQ := Lib.hid (small1_any (.slice A l.length cap) l W2 hb ub kh k2 hR2 hl hg hs)
    obtain ⟨r, hr⟩ : ∃ r, decide (6 + heavyIs l ≤ 20000) = r := ⟨_, rfl⟩
    rw [hr] at hsm HQ
    rw [hlen] at hW1 ⊢
    have HSM := Lib.hid hsm
    have B2 := Lib.hid b2
    have HW1 := Lib.hid hW1
    have HW2 := Lib.hid hW2
    have HUB := Lib.hid hub
    have HHB := Lib.hid hhb
    clear hsm b2 k1 k2 kh hs1 hR hR2 hl hg hs hr hlen h1 hW1 hW2 hub hhb
    go_enter Tryz.func8, Tryz.ntmps8
    go_wp2_with fail
    (try rw [HW1.out])
    (try rw [HUB.out])
    (try rw [HHB.out])
    (try rw [HW2.out])
    refine HQ.out.mono ?_
    rintro e w3 ⟨rfl, b3⟩
    go_wp2_with fail
    go_ret
    exact ⟨by rw [HSM.out]; rfl, B2.out.trans (b3.mono B2.out.size)⟩
  · have h1z : ¬ (len : Int) ≤ 150 := by omega
    have h1d : decide ((len : Int) ≤ 150) = false := decide_eq_false h1z
    rw [decide_eq_false h1, Bool.false_and] at hsm
    have HSM := Lib.hid hsm
    rw [hlen]
    clear hR hl hg hs hsm hlen h1
    go_enter Tryz.func8, Tryz.ntmps8
    go_wp2_with fail
    go_ret
    exact ⟨by rw [HSM.out]; rfl, Below.refl _ _⟩
end Go.Proofs.YtogjhpcjjmcjfaaGreatDoor
end
section
/- what is reached of it -/
namespace Go.Proofs.YtogjhpcjjmcjfaaGreatDoor
open Go.RowKit Vc Ct Tx
theorem readI_one {W : World} {b : Nat} (x : Itm) (q : Slc) (k : Bk W b 24 (encI x (sl q)).toArray) (hT : ReadT W.heap.size W (sl q) (sts x.groups)) : ReadI W.heap.size W (.slice (some ⟨b, 0, none⟩) 1 1) [(x, q)] := by
  refine ⟨_, 1, rfl, fun _ => ⟨b, 0, rfl, k.lt, fun i p hp c u hu => ?_⟩, fun p hp => ?_⟩
  · have hi : i = 0 := by have := (List.getElem?_eq_some_iff.1 hp).1; simp at this; exact this
    subst hi
    obtain rfl : (x, q) = p := by simpa using hp
    rw [k.cell]
    rw [show 0 + 0 * 6 + c = c by omega, List.getElem?_toArray]
    exact hu
  · rw [List.mem_singleton] at hp
    subst hp
    exact hT
theorem heavy_one (x : Itm) (q : Slc) : heavyIs [(x, q)] = heavyI x := by simp [heavyIs]
theorem heavy_mem : ∀ l : List (List UInt8), l.length ≤ heavyT l ∧ ∀ g ∈ l, 1 + g.length ≤ heavyT l
  | [] => ⟨by simp, fun g hg => by cases hg⟩
  | a :: l => by
    obtain ⟨h1, h2⟩ := heavy_mem l
    have e : heavyT (a :: l) = 1 + a.length + heavyT l := by simp [heavyT]
    rw [e]
    refine ⟨by rw [List.length_cons]; omega, fun g hg => ?_⟩
    rcases List.mem_cons.1 hg with rfl | hg
    · omega
    · have := h2 g hg; omega
theorem heavy_parts {x : Itm} {n : Nat} (h : heavyI x ≤ n) : x.jid.length ≤ n ∧ x.name.length ≤ n ∧ x.groups.length ≤ n ∧ ∀ g ∈ x.groups, g.length ≤ n := by
  have hh : heavyI x = 5 + x.jid.length + x.name.length + heavyT x.groups := rfl
  have hl : x.groups.length ≤ heavyT x.groups := (heavy_mem x.groups).1
  refine ⟨by omega, by omega, by omega, fun g hg => ?_⟩
  have : 1 + g.length ≤ heavyT x.groups := by
    exact (heavy_mem x.groups).2 g hg
  omega
end Go.Proofs.YtogjhpcjjmcjfaaGreatDoor
end
section
/- what is reached of it -/
namespace Go.Proofs.YtogjhpcjjmcjfaaGreatDoor
open Go.RowKit Tx Vc Ct
theorem run_append_noneC {P : Program} {w : World} (base : Nat) (t ty e : TypeId) (i : TypeInfo) (size c : Nat) (ht : P.underlying t = some (.slice e)) (hi : P.info? e = some i)
    (v : Value) (n : Nat) (xs : List Value) (hown : w.ownsRow base e size v n xs) :
    (Builtin.append_ #[t, t] ty #[v, .slice none 0 c]).run P w = .ok v w := by
  rcases hown.2 with ⟨rfl, rfl⟩ | ⟨g, cap, cur, rfl, _, _, hnc, _⟩
  · simp [Builtin.append_, run_underlying ht, sizeOf, typeInfo, hi, Builtin.lenOf, Builtin.firstCells]
  · simp [Builtin.append_, run_underlying ht, sizeOf, typeInfo, hi, Builtin.lenOf, Builtin.firstCells, storeCells, hnc]
/-- the cells of a reading, at any world above -/
theorem ReadT.cells {w : World} {v : Value} {l : List (List UInt8)} (h : ReadT w.heap.size w v (sts l)) : ∃ A cap, v = .slice A l.length cap ∧ (0 < l.length → ∃ ad : Addr, A = some ad ∧ ∀ W, Below w.heap.size w W → ∀ i x, l[i]? = some x → W.cell? (ad.add i) = some (.string (bts x))) := by
  obtain ⟨A, cap, hv, hc⟩ := h
  have hll : (sts l).length = l.length := List.length_map _
  rw [hll] at hv hc
  refine ⟨A, cap, hv, fun h0 => ?_⟩
  obtain ⟨ad, ha, hb, hcc⟩ := hc h0
  refine ⟨ad, ha, fun W hW i x hi => ?_⟩
  rw [hW.cell (p := ad.add i) (by rw [addBlock]; exact hb)]
  exact hcc i (bts x) (by unfold sts; rw [List.getElem?_map, hi]; rfl)
end Go.Proofs.YtogjhpcjjmcjfaaGreatDoor
end
