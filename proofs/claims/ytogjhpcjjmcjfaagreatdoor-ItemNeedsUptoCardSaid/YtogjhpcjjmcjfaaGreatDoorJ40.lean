import Derived.Test.YtogjhpcjjmcjfaaGreatDoorJ39
import Derived.Test.YtogjhpcjjmcjfaaGreatDoorJ36
/- what is reached of it -/
namespace Go.Proofs.YtogjhpcjjmcjfaaGreatDoor
open Tx Vc Ct
theorem bare_free {s t : List UInt8} (h : Jd.bareL s = (t, 0)) : (47 : UInt8) ∉ t := by
  unfold Jd.bareL at h
  by_cases hp : (Jd.parseL s).2 = 0
  · rw [if_pos hp] at h
    by_cases hr : (Jd.parseL s).1.2.2 = []
    · rw [if_pos hr] at h
      have hpe : Jd.parseL s = ((Jd.parseL s).1, 0) := Prod.ext rfl hp
      have R := Jd.parse_right hpe
      obtain ⟨⟨l, d, r⟩, hj⟩ : ∃ j, (Jd.parseL s).1 = j := ⟨_, rfl⟩
      rw [hj] at R hr h
      simp only at hr
      subst hr
      obtain ⟨h1, _, h2, _⟩ := R
      simp only at h1 h2
      obtain ⟨d1, _⟩ := Jd.dom_free h1
      have ht : Jd.textL (l, d, []) = t := congrArg Prod.fst h
      rw [← ht]
      unfold Jd.textL
      simp only [if_pos, List.append_nil]
      by_cases hl : l = []
      · rw [if_pos hl]; exact d1
      · rw [if_neg hl]
        have l2 : (47 : UInt8) ∉ l := Jd.prep_no (h2.resolve_left hl).1 (by decide) (by decide)
        intro hm
        simp only [List.mem_append, List.mem_singleton] at hm
        rcases hm with (hm | hm) | hm
        · exact l2 hm
        · exact absurd hm (by decide)
        · exact d1 hm
    · rw [if_neg hr] at h
      exact absurd (congrArg Prod.snd h) (by simp)
  · rw [if_neg hp] at h
    exact absurd (congrArg Prod.snd h) hp
theorem addr_near (s : List UInt8) (k : Nat) : addrB (nearJ s k) = true := decide_eq_true (near_key s k)
theorem addr_slash (t u : List UInt8) : addrB (t ++ 47 :: u) = false := decide_eq_false fun h => bare_free h (by simp)
theorem addr_nil : addrB [] = false := by
  have h : (Jd.parseL []).2 = 14 := by
    rw [Jd.parse_eq (s := []) (c := ([], [], false)) (d := ([], [], false)) (by decide) (by decide), Jd.three_e1 (by simp only; rw [Jd.dom_nil]; decide)]
    simp only
    rw [Jd.dom_nil]
  refine decide_eq_false fun e => ?_
  rw [Jd.bare_bad (by rw [h]; decide), h] at e
  exact absurd (congrArg Prod.snd e) (by decide)
theorem addr_Ab : addrB [65, 64, 98] = false := by
  have h : Jd.parseL [65, 64, 98] = (([97], [98], []), 0) := by
    rw [Jd.parse_eq (s := [65, 64, 98]) (c := ([65, 64, 98], [], false)) (d := ([65], [98], true)) (by decide) (by decide)]
    simp only
    rw [Jd.dom_b, Jd.node_A]
    rfl
  refine decide_eq_false fun e => ?_
  rw [Jd.bare_ok h rfl] at e
  exact absurd (congrArg Prod.fst e) (by decide)
structure NearI (d : Itm) : Prop where
  jid : ∃ s k, d.jid = nearJ s k
  name : line d.name 100 = true
  groups : ∃ l, d.groups = groupsL l ∧ l.length ≤ 4 ∧ ∀ g ∈ l, line g 30 = true
  sub : d.sub = 0 ∨ d.sub = 1 ∨ d.sub = 2 ∨ d.sub = 3
  ask : d.ask = true → d.sub = 0 ∨ d.sub = 2
  app : d.app = true → d.sub = 0 ∨ d.sub = 1
theorem grp_near {l : List (List UInt8)} (hl : l.length ≤ 8) (hx : ∀ g ∈ l, line g 30 = true) : grpB (groupsL l) = true := by
  have h := groups_ok hl hx (by decide)
  have h2 := groups_right h
  unfold rightG at h
  simp only [Bool.and_eq_true, decide_eq_true_eq, List.all_eq_true] at h
  unfold grpB
  rw [decide_eq_true h.1.1, decide_eq_true h2.symm, Bool.and_self, Bool.true_and, Bool.not_eq_true']
  refine List.any_eq_false.2 fun g hg => ?_
  rw [(h.1.2 g hg).2]
  decide
theorem NearI.right {d : Itm} (h : NearI d) : rightI d = true := by
  obtain ⟨s, k, hj⟩ := h.jid
  obtain ⟨l, hg, hl, hx⟩ := h.groups
  unfold rightI
  rw [hj, addr_near, h.name, hg, grp_near (by omega) hx, Bool.true_and, Bool.true_and, Bool.true_and]
  have ha := h.ask
  have hp := h.app
  unfold subB
  rcases h.sub with e | e | e | e <;> rw [e] at ha hp ⊢
  · rfl
  · have : d.ask = false := by cases hd : d.ask with | false => rfl | true => exact absurd (ha hd) (by decide)
    rw [this]; rfl
  · have : d.app = false := by cases hd : d.app with | false => rfl | true => exact absurd (hp hd) (by decide)
    rw [this]; rfl
  · have h1 : d.ask = false := by cases hd : d.ask with | false => rfl | true => exact absurd (ha hd) (by decide)
    have h2 : d.app = false := by cases hd : d.app with | false => rfl | true => exact absurd (hp hd) (by decide)
    rw [h1, h2]; rfl
/-- of each subscription whether one may be asked for, and was let ahead -/
theorem right_modes {d : Itm} (h : NearI d) (s : Int) (a p : Bool) : rightI { d with sub := s, ask := a, app := p } = subB s a p := by
  obtain ⟨t, k, hj⟩ := h.jid
  obtain ⟨l, hg, hl, hx⟩ := h.groups
  unfold rightI
  show (addrB d.jid && line d.name 100 && grpB d.groups && subB s a p) = _
  rw [hj, addr_near, h.name, hg, grp_near (by omega) hx, Bool.true_and, Bool.true_and, Bool.true_and]
theorem bad_jid {d : Itm} (h : addrB d.jid = false) : rightI d = false := by unfold rightI; rw [h]; rfl
theorem bad_name {d : Itm} (h : line d.name 100 = false) : rightI d = false := by unfold rightI; rw [h, Bool.and_false]; rfl
theorem bad_groups {d : Itm} (h : grpB d.groups = false) : rightI d = false := by unfold rightI; rw [h, Bool.and_false]; rfl
theorem bad_sub {d : Itm} (h : subB d.sub d.ask d.app = false) : rightI d = false := by unfold rightI; rw [h, Bool.and_false]
/-- what the statement makes of one who is right -/
def worseI (k : Nat) (d : Itm) : Itm := match k with
  | 0 => { d with jid := [] }
  | 1 => { d with jid := [65, 64, 98] }
  | 2 => { d with name := longL }
  | 3 => { d with name := [97, 9, 98] }
  | 4 => { d with groups := [[97], [97]] }
  | 5 => { d with groups := [[]] }
  | 6 => { d with groups := [longL] }
  | 7 => { d with groups := [[97], [98], [99], [100], [101], [102], [103], [104], [105]] }
  | _ => { d with sub := 4 }
theorem grp_aa : grpB [[97], [97]] = false := by decide +kernel
theorem grp_e : grpB [[]] = false := by decide +kernel
theorem grp_long : grpB [longL] = false := by
  unfold grpB
  rw [List.any_cons, long_no]
  simp
theorem grp_nine : grpB [[97], [98], [99], [100], [101], [102], [103], [104], [105]] = false := by decide +kernel
theorem worseI_no (k : Nat) (d : Itm) : rightI (worseI k d) = false := by
  unfold worseI
  split
  · exact bad_jid addr_nil
  · exact bad_jid addr_Ab
  · exact bad_name long_no
  · exact bad_name (show line [97, 9, 98] 100 = false by decide +kernel)
  · exact bad_groups grp_aa
  · exact bad_groups grp_e
  · exact bad_groups grp_long
  · exact bad_groups grp_nine
  · refine bad_sub ?_
    unfold subB
    rfl
end Go.Proofs.YtogjhpcjjmcjfaaGreatDoor
