import Derived.Test.YtbgaglcgennhiaaGreatDoorN35
import Derived.Shelf.SlicesQ.IndexFunc
import Derived.Shelf.SlicesE.DeleteFunc
import Derived.Test.YtbgaglcgennhiaaGreatDoorN31
import Derived.Test.YtbgaglcgennhiaaGreatDoorN28
import Derived.Test.YtbgaglcgennhiaaGreatDoorN20
import Derived.Test.YtbgaglcgennhiaaGreatDoorN19
import Derived.Test.YtbgaglcgennhiaaGreatDoorN17
import Derived.Test.YtbgaglcgennhiaaGreatDoorN11
import Derived.Lib.Hide
import Derived.Test.YtbgaglcgennhiaaGreatDoorN24
import Derived.Deep.RegionHeld3
import Derived.Test.YtbgaglcgennhiaaGreatDoorN16
import Derived.Test.YtbgaglcgennhiaaGreatDoorN06
import Derived.BigRegion
import Derived.BigQuiet
import Derived.Test.YtbgaglcgennhiaaGreatDoorN07
import Derived.Deep.DeepCutAuto
import Derived.Test.YtbgaglcgennhiaaGreatDoorN34
import Derived.Lib.IndexBytes
import Derived.Shelf.Strings.Search2
import Derived.Shelf.SlicesE.Clone
import Derived.Test.YtbgaglcgennhiaaGreatDoorN33
import Derived.Test.YtbgaglcgennhiaaGreatDoorN29
import Derived.Test.YtbgaglcgennhiaaGreatDoorN04
import Derived.Laws.StructEq
import Derived.Lib.SlicesS
import Derived.Deep.RegionWith
import Derived.Deep.RegionLaw
import Derived.Deep.Upon
import Derived.Deep.MidRow
import Derived.Lib.ConvBytes
import Derived.Lib.AtoiErrMem
import Derived.Lib.SliceRun
import Derived.Deep.QuietTactic
import Derived.WalkKit
import Derived.Test.YtbgaglcgennhiaaGreatDoorN30
import Derived.Test.YtbgaglcgennhiaaGreatDoorN05
import Derived.Lib.Strings
section
/- what is reached of it -/
namespace Go.Proofs.YtbgaglcgennhiaaGreatDoor
open Go.RowKit Tx Vc Ct
abbrev laid6 (w : World) (g : Nat) (a b c d e f : Value) : World := (((((w.setCell ⟨g, 0, none⟩ a).setCell ⟨g, 1, none⟩ b).setCell ⟨g, 2, none⟩ c).setCell ⟨g, 3, none⟩ d).setCell ⟨g, 4, none⟩ e).setCell ⟨g, 5, none⟩ f
theorem laid6_bk {w : World} {g : Nat} {t : TypeId} {x0 x1 x2 x3 x4 x5 : Value} (h : Bk w g t #[x0, x1, x2, x3, x4, x5]) (a b c d e f : Value) : Bk (laid6 w g a b c d e f) g t #[a, b, c, d, e, f] := by
  have := (((((h.put 0 a).put 1 b).put 2 c).put 3 d).put 4 e).put 5 f
  simpa [laid6] using this
theorem laid6_below {w0 w : World} {B g : Nat} (h : Below B w0 w) (hg : B ≤ g) (a b c d e f : Value) : Below B w0 (laid6 w g a b c d e f) :=
  (((((h.setCell (p := ⟨g, 0, none⟩) hg _).setCell (p := ⟨g, 1, none⟩) hg _).setCell (p := ⟨g, 2, none⟩) hg _).setCell (p := ⟨g, 3, none⟩) hg _).setCell (p := ⟨g, 4, none⟩) hg _).setCell (p := ⟨g, 5, none⟩) hg _
theorem OwnT.less {B C : Nat} {w : World} {v : Value} {x : List ByteArray} (h : OwnT B w v x) (hC : C ≤ B) : OwnT C w v x := by
  refine ⟨h.1, ?_⟩
  rcases h.2 with h2 | ⟨g, cap, cur, hv, hg, h3⟩
  · exact .inl h2
  · exact .inr ⟨g, cap, cur, hv, Nat.le_trans hC hg, h3⟩
/-- a copy of texts -/
theorem cloneT_any (v : Value) (l : List (List UInt8)) (w : World) (B : Nat) (hR : ReadT B w v (sts l)) (hl : l.length ≤ 8000000000000) :
    Calls Tryz.prog 61 #[v] w fun e w' => ∃ A cap, e = .returned (.slice A l.length cap) ∧ OwnT w.heap.size w' (.slice A l.length cap) (sts l) ∧ Below w.heap.size w w' := by
  have hll : (sts l).length = l.length := List.length_map _
  have own_reads : ∀ (v' : Value) (w2 : World), w2.ownsRow w.heap.size 9 1 v' l.length ((sts l).map Value.string) → v' ≠ .slice none 0 0 → ∃ A cap, v' = .slice A l.length cap ∧ OwnT w.heap.size w2 v' (sts l) := fun v' w2 ho hne => by
    have ho2 : OwnT w.heap.size w2 v' (sts l) := by
      unfold OwnT strs
      rw [hll]
      exact ho
    obtain ⟨A, cap, hA⟩ := ho2.slice
    rw [hll] at hA
    exact ⟨A, cap, hA, ho2⟩
  by_cases h0 : 0 < l.length
  · obtain ⟨b, off, cap, hv, hb, hc⟩ := hR.flat (by omega)
    rw [hv]
    refine (Tryz.slices_Clone_string b off (sts l).length cap (sts l) w (Nat.le_refl _) (by omega) hc).mono ?_
    rintro e w2 ⟨v', rfl, ho, hne, hbl⟩
    rw [List.take_length, hll] at ho
    obtain ⟨A, cap2, rfl, hr⟩ := own_reads v' w2 ho hne
    exact ⟨A, cap2, rfl, hr, hbl⟩
  · have hl0 : l = [] := List.length_eq_zero_iff.1 (by omega)
    subst hl0
    obtain ⟨A, cap, hv, _⟩ := hR
    rw [hv]
    cases A with
    | none =>
      refine (Tryz.slices_Clone_string_nil 0 cap w).mono ?_
      rintro e w2 ⟨rfl, rfl⟩
      exact ⟨none, 0, rfl, OwnT.nil _ _, Below.refl _ _⟩
    | some a =>
      refine (Tryz.slices_Clone_string_zero a cap w).mono ?_
      rintro e w2 ⟨v', rfl, ho, hne, hbl⟩
      obtain ⟨A, cap2, rfl, hr⟩ := own_reads v' w2 ho hne
      exact ⟨A, cap2, rfl, hr, hbl⟩
end Go.Proofs.YtbgaglcgennhiaaGreatDoor
end
section
/- what is reached of it -/
namespace Go.Proofs.YtbgaglcgennhiaaGreatDoor
open Go.RowKit Tx Vc Ct
/-- where an item's groups lie -/
abbrev Slc := Option Addr × Nat × Nat
def sl (q : Slc) : Value := .slice q.1 q.2.1 q.2.2
/-- A slice of items that can be read, below block B. -/
def ReadI (B : Nat) (w : World) (v : Value) (l : List (Itm × Slc)) : Prop :=
  ∃ A cap, v = .slice A l.length cap ∧ (0 < l.length → ∃ b off, A = some ⟨b, off, none⟩ ∧ b < B ∧ ∀ i p, l[i]? = some p → ∀ c u, (encI p.1 (sl p.2))[c]? = some u → w.cell? ⟨b, off + i * 6 + c, none⟩ = some u) ∧ ∀ p ∈ l, ReadT B w (sl p.2) (sts p.1.groups)
instance : Inhabited Itm := ⟨⟨[], [], [], 0, false, false⟩⟩
end Go.Proofs.YtbgaglcgennhiaaGreatDoor
end
section
/- what is reached of it -/
namespace Go.Proofs.YtbgaglcgennhiaaGreatDoor.Ct
open Go.Proofs.YtbgaglcgennhiaaGreatDoor Tx Vc
/-- an address, near to a text -/
def nearJ (s : List UInt8) (k : Nat) : List UInt8 := if (Jd.bareL s).2 = 0 then (Jd.bareL s).1 else ([[97, 64, 104], [98, 64, 104], [99, 64, 104], [100, 64, 120, 46, 121], [104]] : List (List UInt8)).getD (k % 5) []
theorem node_one {b : UInt8} (h : Jd.fitB 1 b = true) : Jd.part true 1 [b] = ([b], 0) := by
  show Jd.sizedL 64 (Pr.prepL 1 [b]) = _
  rw [Jd.fit_prep (fun x hx => by rw [List.mem_singleton] at hx; rw [hx]; exact h)]
  simp [Jd.sizedL]
theorem dom_xy : Jd.domL [120, 46, 121] = ([120, 46, 121], 0) := Jd.dom_of (Jd.fit_prep (by decide)) (by decide) (by decide) (by decide)
theorem near_key (s : List UInt8) (k : Nat) : Jd.bareL (nearJ s k) = (nearJ s k, 0) := by
  unfold nearJ
  by_cases h : (Jd.bareL s).2 = 0
  · rw [if_pos h]
    unfold Jd.bareL at h
    by_cases hp : (Jd.parseL s).2 = 0
    · rw [if_pos hp] at h
      by_cases hr : (Jd.parseL s).1.2.2 = []
      · have hpe : Jd.parseL s = ((Jd.parseL s).1, 0) := Prod.ext rfl hp
        rw [Jd.bare_ok hpe hr]
        exact Jd.bare_back hpe hr
      · rw [if_neg hr] at h
        exact absurd h (by simp)
    · rw [if_neg hp] at h
      exact absurd h hp
  · rw [if_neg h]
    have hk : k % 5 = 0 ∨ k % 5 = 1 ∨ k % 5 = 2 ∨ k % 5 = 3 ∨ k % 5 = 4 := by omega
    have one : ∀ b : UInt8, Jd.fitB 1 b = true → Jd.cutB 47 [b, 64, 104] = ([b, 64, 104], [], false) → Jd.halfL [b, 64, 104] = ([b], [104], true) → Jd.bareL [b, 64, 104] = ([b, 64, 104], 0) := fun b h1 h2 h3 => by
      have h : Jd.parseL [b, 64, 104] = (([b], [104], []), 0) := by
        rw [Jd.parse_eq (s := [b, 64, 104]) (c := ([b, 64, 104], [], false)) (d := ([b], [104], true)) h2 h3]
        simp only
        rw [dom_h, node_one h1]
        rfl
      rw [Jd.bare_ok h rfl]
      rfl
    rcases hk with e | e | e | e | e
    · rw [e]; exact bare_ah
    · rw [e]; exact one 98 (by decide) (by decide) (by decide)
    · rw [e]; exact one 99 (by decide) (by decide) (by decide)
    · rw [e]
      show Jd.bareL [100, 64, 120, 46, 121] = ([100, 64, 120, 46, 121], 0)
      have h : Jd.parseL [100, 64, 120, 46, 121] = (([100], [120, 46, 121], []), 0) := by
        rw [Jd.parse_eq (s := [100, 64, 120, 46, 121]) (c := ([100, 64, 120, 46, 121], [], false)) (d := ([100], [120, 46, 121], true)) (by decide) (by decide)]
        simp only
        rw [dom_xy, node_one (by decide)]
        rfl
      rw [Jd.bare_ok h rfl]
      rfl
    · rw [e]
      show Jd.bareL [104] = ([104], 0)
      have h : Jd.parseL [104] = (([], [104], []), 0) := by
        rw [Jd.parse_eq (s := [104]) (c := ([104], [], false)) (d := ([], [104], false)) (by decide) (by decide)]
        simp only
        rw [dom_h]
        rfl
      rw [Jd.bare_ok h rfl]
      rfl
theorem near_bare (s : List UInt8) (k : Nat) : bareB (nearJ s k) = true := by
  unfold bareB
  rw [near_key, decide_eq_true (rfl : (nearJ s k, 0) = (nearJ s k, 0)), Bool.or_true]
theorem note_line {t : List UInt8} (h : line t 200 = true) : noteB t = true := by
  obtain ⟨cs, h1, h2, h3⟩ := line_chars h
  unfold noteB
  rw [line_valid h, runes_some h1]
  rw [line_some h1] at h
  have hl : (cs.length : Int) ≤ 200 := of_decide_eq_true (Bool.and_eq_true_iff.1 h).2
  have hb : t.all (fun b => b != 13) = true := List.all_eq_true.2 fun b hb => by
    have h13 := line_no13 (t := t) (n := 200) (by rw [line_some h1]; exact h)
    have : b ≠ 13 := fun e => h13 (e ▸ hb)
    simpa using this
  rw [hb, decide_eq_true (show cs.length ≤ 500 by omega)]
  rfl
/-- what is near to a contact -/
structure Near (d : Con) : Prop where
  name : line d.name 100 = true
  some_ : d.name ≠ []
  family : line d.family 50 = true
  given : line d.given 50 = true
  nick : line d.nick 50 = true
  jid : d.jid = [] ∨ ∃ s k, d.jid = nearJ s k
  email : line d.email 50 = true
  tel : line d.tel 50 = true
  note : line d.note 200 = true
  uid : line d.uid 50 = true
  groups : ∃ l, d.groups = groupsL l ∧ l.length ≤ 4 ∧ ∀ g ∈ l, line g 30 = true
  other : d.other = []
theorem Near.right {d : Con} (h : Near d) : rightC d = true := by
  obtain ⟨l, hg, hl, hx⟩ := h.groups
  refine right_of h.some_ ?_ (note_line h.note) ?_ ?_ (by rw [h.other]; exact none_ok)
  · unfold textsB
    rw [h.name, line_more h.family (by decide), line_more h.given (by decide), line_more h.nick (by decide), line_more h.email (by decide), line_more h.tel (by decide), line_more h.uid (by decide)]
    rfl
  · rcases h.jid with e | ⟨s, k, e⟩
    · rw [e]; rfl
    · rw [e]; exact near_bare s k
  · rw [hg]
    exact groups_ok (by omega) hx (by decide)
end Go.Proofs.YtbgaglcgennhiaaGreatDoor.Ct
end
section
/- what is reached of it -/
namespace Go.Proofs.YtbgaglcgennhiaaGreatDoor
open Tx Vc Ct
theorem bare_free {s t : List UInt8} (h : Jd.bareL s = (t, 0)) : (47 : UInt8) ∉ t := by
  unfold Jd.bareL at h
  by_cases hp : (Jd.parseL s).2 = 0
  · rw [if_pos hp] at h
    by_cases hr : (Jd.parseL s).1.2.2 = []
    · rw [if_pos hr] at h
      have hpe : Jd.parseL s = ((Jd.parseL s).1, 0) := Prod.ext rfl hp
      have R := Jd.parse_right hpe
      obtain ⟨⟨l, d, r⟩, hj⟩ : ∃ j, (Jd.parseL s).1 = j := ⟨_, rfl⟩
      rw [hj] at R hr h
      simp only at hr
      subst hr
      obtain ⟨h1, _, h2, _⟩ := R
      simp only at h1 h2
      obtain ⟨d1, _⟩ := Jd.dom_free h1
      have ht : Jd.textL (l, d, []) = t := congrArg Prod.fst h
      rw [← ht]
      unfold Jd.textL
      simp only [if_pos, List.append_nil]
      by_cases hl : l = []
      · rw [if_pos hl]; exact d1
      · rw [if_neg hl]
        have l2 : (47 : UInt8) ∉ l := Jd.prep_no (h2.resolve_left hl).1 (by decide) (by decide)
        intro hm
        simp only [List.mem_append, List.mem_singleton] at hm
        rcases hm with (hm | hm) | hm
        · exact l2 hm
        · exact absurd hm (by decide)
        · exact d1 hm
    · rw [if_neg hr] at h
      exact absurd (congrArg Prod.snd h) (by simp)
  · rw [if_neg hp] at h
    exact absurd (congrArg Prod.snd h) hp
theorem addr_near (s : List UInt8) (k : Nat) : addrB (nearJ s k) = true := decide_eq_true (near_key s k)
theorem addr_slash (t u : List UInt8) : addrB (t ++ 47 :: u) = false := decide_eq_false fun h => bare_free h (by simp)
structure NearI (d : Itm) : Prop where
  jid : ∃ s k, d.jid = nearJ s k
  name : line d.name 100 = true
  groups : ∃ l, d.groups = groupsL l ∧ l.length ≤ 4 ∧ ∀ g ∈ l, line g 30 = true
  sub : d.sub = 0 ∨ d.sub = 1 ∨ d.sub = 2 ∨ d.sub = 3
  ask : d.ask = true → d.sub = 0 ∨ d.sub = 2
  app : d.app = true → d.sub = 0 ∨ d.sub = 1
theorem grp_near {l : List (List UInt8)} (hl : l.length ≤ 8) (hx : ∀ g ∈ l, line g 30 = true) : grpB (groupsL l) = true := by
  have h := groups_ok hl hx (by decide)
  have h2 := groups_right h
  unfold rightG at h
  simp only [Bool.and_eq_true, decide_eq_true_eq, List.all_eq_true] at h
  unfold grpB
  rw [decide_eq_true h.1.1, decide_eq_true h2.symm, Bool.and_self, Bool.true_and, Bool.not_eq_true']
  refine List.any_eq_false.2 fun g hg => ?_
  rw [(h.1.2 g hg).2]
  decide
theorem NearI.right {d : Itm} (h : NearI d) : rightI d = true := by
  obtain ⟨s, k, hj⟩ := h.jid
  obtain ⟨l, hg, hl, hx⟩ := h.groups
  unfold rightI
  rw [hj, addr_near, h.name, hg, grp_near (by omega) hx, Bool.true_and, Bool.true_and, Bool.true_and]
  have ha := h.ask
  have hp := h.app
  unfold subB
  rcases h.sub with e | e | e | e <;> rw [e] at ha hp ⊢
  · rfl
  · have : d.ask = false := by cases hd : d.ask with | false => rfl | true => exact absurd (ha hd) (by decide)
    rw [this]; rfl
  · have : d.app = false := by cases hd : d.app with | false => rfl | true => exact absurd (hp hd) (by decide)
    rw [this]; rfl
  · have h1 : d.ask = false := by cases hd : d.ask with | false => rfl | true => exact absurd (ha hd) (by decide)
    have h2 : d.app = false := by cases hd : d.app with | false => rfl | true => exact absurd (hp hd) (by decide)
    rw [h1, h2]; rfl
end Go.Proofs.YtbgaglcgennhiaaGreatDoor
end
section
/- what is reached of it -/
namespace Go.Proofs.YtbgaglcgennhiaaGreatDoor
open Go.RowKit Tx Vc Ct
set_option maxHeartbeats 400000 in
theorem indexI_none (A : Option Addr) (cap : Nat) (fv : Value) (w : World) : Calls Tryz.prog 169 #[.slice A 0 cap, fv] w fun e w' => e = .returned (.int .i64 (-1)) ∧ w' = w := by
  go_enter Tryz.func169, Tryz.ntmps169
  go_wp2_with fail
  refine wp_loop_rounds 1 ?_
  rw [rounds_succ]
  go_wp2_with fail
  go_ret
  exact ⟨rfl, rfl⟩
end Go.Proofs.YtbgaglcgennhiaaGreatDoor
end
section
/- what is reached of it -/
namespace Go.Proofs.YtbgaglcgennhiaaGreatDoor
open Go.RowKit Rg Tx
/-- what the loop knows at k: no "." from f to k; the pieces ahead of f are right -/
def DGoes (L : List UInt8) (f k : Nat) : Prop := f ≤ k ∧ k ≤ L.length ∧ (∀ c ∈ (L.drop f).take (k - f), c ≠ 46) ∧ (Jd.pcs 46 L).any Jd.badB = (Jd.pcs 46 (L.drop f)).any Jd.badB
theorem DGoes.start (L : List UInt8) : DGoes L 0 0 := ⟨Nat.le_refl _, Nat.zero_le _, by simp, rfl⟩
theorem take_snoc {L : List UInt8} {f k : Nat} (hf : f ≤ k) (hk : k < L.length) : (L.drop f).take (k + 1 - f) = (L.drop f).take (k - f) ++ [L[k]] := by
  rw [show k + 1 - f = (k - f) + 1 by omega, List.take_add_one, List.getElem?_drop, show f + (k - f) = k by omega, List.getElem?_eq_getElem hk]
  rfl
theorem DGoes.next {L : List UInt8} {f k : Nat} (h : DGoes L f k) (hk : k < L.length) (hc : L[k] ≠ 46) : DGoes L f (k + 1) := by
  obtain ⟨h1, h2, h3, h4⟩ := h
  refine ⟨by omega, by omega, fun c hm => ?_, h4⟩
  rw [take_snoc h1 hk] at hm
  rcases List.mem_append.1 hm with hm | hm
  · exact h3 c hm
  · rw [List.mem_singleton.1 hm]; exact hc
theorem DGoes.last {L : List UInt8} {f : Nat} (h : DGoes L f L.length) : (Jd.pcs 46 L).any Jd.badB = Jd.badB ((L.drop f).take (L.length - f)) := by
  obtain ⟨h1, h2, h3, h4⟩ := h
  have e : (L.drop f).take (L.length - f) = L.drop f := List.take_of_length_le (by rw [List.length_drop]; omega)
  rw [e] at h3 ⊢
  rw [h4, Jd.pcs_none (fun hm => h3 46 hm rfl)]
  simp
end Go.Proofs.YtbgaglcgennhiaaGreatDoor
end
section
/- what is reached of it -/
namespace Go.Proofs.YtbgaglcgennhiaaGreatDoor
open Go.RowKit Rg Tx
/-- the result's block, behind a store -/
theorem stored {w w1 : World} {q : Nat} {a b c : Value} (x y z : Value) (hk : Bk w1 q 115 #[a, b, c]) (hb : Below q w w1) :
    Bk (((w1.setCell ⟨q, 0, none⟩ x).setCell ⟨q, 1, none⟩ y).setCell ⟨q, 2, none⟩ z) q 115 #[x, y, z] ∧ Below q w (((w1.setCell ⟨q, 0, none⟩ x).setCell ⟨q, 1, none⟩ y).setCell ⟨q, 2, none⟩ z) :=
  ⟨((hk.put 0 x).put 1 y).put 2 z, Below.setCell (B := q) (p := ⟨q, 2, none⟩) (Below.setCell (B := q) (p := ⟨q, 1, none⟩) (Below.setCell (B := q) (p := ⟨q, 0, none⟩) hb (Nat.le_refl q) _) (Nat.le_refl q) _) (Nat.le_refl q) _⟩

end Go.Proofs.YtbgaglcgennhiaaGreatDoor
end
section
/- what is reached of it -/
namespace Go.Proofs.YtbgaglcgennhiaaGreatDoor
open Go.RowKit Go.Sort Sy Tx Vc Ct
namespace Sy
variable {α : Type} [Inhabited α] {enc : α → List Value} {k : Nat} {W0 W W' : World} {B : Nat} {d : Array α}
theorem get_setI (d : Array α) (i j : Nat) (hi : i < d.size) (y : α) : (d.setIfInBounds i y)[j]! = if j = i then y else d[j]! := by
  by_cases h : j = i
  · subst h
    rw [if_pos rfl, getElem!_pos (d.setIfInBounds j y) j (by simpa using hi), Array.getElem_setIfInBounds_self]
  · rw [if_neg h]
    by_cases hj : j < d.size
    · rw [getElem!_pos (d.setIfInBounds i y) j (by simpa using hj), getElem!_pos d j hj]
      rw [Array.getElem_setIfInBounds]
      exact if_neg (fun e => h e.symm)
    · rw [getElem!_neg (d.setIfInBounds i y) j (by simpa using hj), getElem!_neg d j hj]
theorem setMany_set (hk : ∀ x, (enc x).length = k) (d : Array α) (i : Nat) (hi : i < d.size) (y : α) : setMany (flatK enc k d) (i * k) (enc y) = flatK enc k (d.setIfInBounds i y) := by
  refine ext_get! (by simp) fun t ht => ?_
  have ht' : t < d.size * k := by simpa using ht
  have k0 : 0 < k := by
    rcases Nat.eq_zero_or_pos k with h | h
    · subst h; simp at ht'
    · exact h
  rw [get_setMany _ _ _ t (by simpa using ht'), get_flatK _ _ _ t ht', get_flatK _ _ _ t (by simpa using ht'), hk, get_setI d i _ hi]
  by_cases a : t / k = i
  · rw [if_pos ((blk_iff k i t k0).2 a), if_pos a, show t - i * k = t % k from by subst a; rw [Nat.mod_eq_sub_div_mul]]
  · rw [if_neg (fun h => a ((blk_iff k i t k0).1 h)), if_neg a]
theorem St.put1 (h : St enc k W0 B d W) (R : Enc enc k) (i : Nat) (hi : i < d.size) (y : α) : St enc k W0 B (d.setIfInBounds i y) (W.setCells B (i * k) (enc y)) := by
  refine ⟨grownBy_setCells _ _ _ h.grown, ?_, h.lt⟩
  have a := holds_setCellsS h.holds (i * k) (enc y) (by rw [R.hk, size_flatK]; exact rowK_bndS d k i hi)
  rw [Nat.zero_add, setMany_set R.hk d i hi y] at a
  exact a
end Sy
end Go.Proofs.YtbgaglcgennhiaaGreatDoor
end
section
/- what is reached of it -/
namespace Go.Proofs.YtbgaglcgennhiaaGreatDoor.Ct
open Go.Proofs.YtbgaglcgennhiaaGreatDoor Tx Vc
theorem iparse_eq {s : List UInt8} {c d : List UInt8 × List UInt8 × Bool} (hc : Jd.cutB 47 s = c) (hd : Jd.halfL c.1 = d) : Jd.parseL s = Jd.three (Jd.domL d.2.1) (Jd.part d.2.2 1 d.1) (Jd.part c.2.2 3 c.2.1) := by
  subst hc
  subst hd
  rfl
end Go.Proofs.YtbgaglcgennhiaaGreatDoor.Ct
end
section
/- what is reached of it -/
namespace Go.Proofs.YtbgaglcgennhiaaGreatDoor
open Go.RowKit Go.Sort Sy Vc Ct Tx
theorem ReadI.upon {w W : World} {v : Value} {l : List (Itm × Slc)} (h : ReadI w.heap.size w v l) (hb : Below w.heap.size w W) : ReadI W.heap.size W v l := by
  obtain ⟨A, cap, hv, hc, hT⟩ := h
  refine ⟨A, cap, hv, fun h0 => ?_, fun p hp => (hT p hp).upon hb⟩
  obtain ⟨b, off, ha, hbb, hcc⟩ := hc h0
  exact ⟨b, off, ha, Nat.lt_of_lt_of_le hbb hb.size, fun i p hp c u hu => by rw [hb.cell (p := ⟨b, off + i * 6 + c, none⟩) hbb]; exact hcc i p hp c u hu⟩
/-- an item's address, where items stand -/
theorem ReadI.jid {w : World} {v : Value} {l : List (Itm × Slc)} (h : ReadI w.heap.size w v l) (h0 : 0 < l.length) : ∃ b off cap, v = .slice (some ⟨b, off, none⟩) l.length cap ∧ ∀ W, Below w.heap.size w W → ∀ i p, l[i]? = some p → W.cell? ⟨b, off + i * 6, none⟩ = some (.string (bts p.1.jid)) := by
  obtain ⟨A, cap, rfl, hc, _⟩ := h
  obtain ⟨b, off, rfl, hb, hcc⟩ := hc h0
  exact ⟨b, off, cap, rfl, fun W hW i p hp => by rw [hW.cell (p := ⟨b, off + i * 6, none⟩) hb]; exact hcc i p hp 0 _ rfl⟩
end Go.Proofs.YtbgaglcgennhiaaGreatDoor
end
section
/- what is reached of it -/
namespace Go.Proofs.YtbgaglcgennhiaaGreatDoor
open Go.RowKit Tx Vc Ct
/-- the cells of a reading, at any world above -/
theorem ReadT.cells {w : World} {v : Value} {l : List (List UInt8)} (h : ReadT w.heap.size w v (sts l)) : ∃ A cap, v = .slice A l.length cap ∧ (0 < l.length → ∃ ad : Addr, A = some ad ∧ ∀ W, Below w.heap.size w W → ∀ i x, l[i]? = some x → W.cell? (ad.add i) = some (.string (bts x))) := by
  obtain ⟨A, cap, hv, hc⟩ := h
  have hll : (sts l).length = l.length := List.length_map _
  rw [hll] at hv hc
  refine ⟨A, cap, hv, fun h0 => ?_⟩
  obtain ⟨ad, ha, hb, hcc⟩ := hc h0
  refine ⟨ad, ha, fun W hW i x hi => ?_⟩
  rw [hW.cell (p := ad.add i) (by rw [addBlock]; exact hb)]
  exact hcc i (bts x) (by unfold sts; rw [List.getElem?_map, hi]; rfl)
end Go.Proofs.YtbgaglcgennhiaaGreatDoor
end
