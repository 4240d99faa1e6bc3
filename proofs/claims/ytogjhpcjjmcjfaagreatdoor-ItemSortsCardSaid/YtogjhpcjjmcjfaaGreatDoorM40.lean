import Derived.Test.YtogjhpcjjmcjfaaGreatDoorM28
import Derived.Test.YtogjhpcjjmcjfaaGreatDoorM31
section
/- what is reached of it -/
namespace Go.Proofs.YtogjhpcjjmcjfaaGreatDoor.Ct
open Go.Proofs.YtogjhpcjjmcjfaaGreatDoor Tx Vc
/-- an address, near to a text -/
def nearJ (s : List UInt8) (k : Nat) : List UInt8 := if (Jd.bareL s).2 = 0 then (Jd.bareL s).1 else ([[97, 64, 104], [98, 64, 104], [99, 64, 104], [100, 64, 120, 46, 121], [104]] : List (List UInt8)).getD (k % 5) []
theorem node_one {b : UInt8} (h : Jd.fitB 1 b = true) : Jd.part true 1 [b] = ([b], 0) := by
  show Jd.sizedL 64 (Pr.prepL 1 [b]) = _
  rw [Jd.fit_prep (fun x hx => by rw [List.mem_singleton] at hx; rw [hx]; exact h)]
  simp [Jd.sizedL]
theorem dom_xy : Jd.domL [120, 46, 121] = ([120, 46, 121], 0) := Jd.dom_of (Jd.fit_prep (by decide)) (by decide) (by decide) (by decide)
theorem near_key (s : List UInt8) (k : Nat) : Jd.bareL (nearJ s k) = (nearJ s k, 0) := by
  unfold nearJ
  by_cases h : (Jd.bareL s).2 = 0
  · rw [if_pos h]
    unfold Jd.bareL at h
    by_cases hp : (Jd.parseL s).2 = 0
    · rw [if_pos hp] at h
      by_cases hr : (Jd.parseL s).1.2.2 = []
      · have hpe : Jd.parseL s = ((Jd.parseL s).1, 0) := Prod.ext rfl hp
        rw [Jd.bare_ok hpe hr]
        exact Jd.bare_back hpe hr
      · rw [if_neg hr] at h
        exact absurd h (by simp)
    · rw [if_neg hp] at h
      exact absurd h hp
  · rw [if_neg h]
    have hk : k % 5 = 0 ∨ k % 5 = 1 ∨ k % 5 = 2 ∨ k % 5 = 3 ∨ k % 5 = 4 := by omega
    have one : ∀ b : UInt8, Jd.fitB 1 b = true → Jd.cutB 47 [b, 64, 104] = ([b, 64, 104], [], false) → Jd.halfL [b, 64, 104] = ([b], [104], true) → Jd.bareL [b, 64, 104] = ([b, 64, 104], 0) := fun b h1 h2 h3 => by
      have h : Jd.parseL [b, 64, 104] = (([b], [104], []), 0) := by
        rw [Jd.parse_eq (s := [b, 64, 104]) (c := ([b, 64, 104], [], false)) (d := ([b], [104], true)) h2 h3]
        simp only
        rw [dom_h, node_one h1]
        rfl
      rw [Jd.bare_ok h rfl]
      rfl
    rcases hk with e | e | e | e | e
    · rw [e]; exact bare_ah
    · rw [e]; exact one 98 (by decide) (by decide) (by decide)
    · rw [e]; exact one 99 (by decide) (by decide) (by decide)
    · rw [e]
      show Jd.bareL [100, 64, 120, 46, 121] = ([100, 64, 120, 46, 121], 0)
      have h : Jd.parseL [100, 64, 120, 46, 121] = (([100], [120, 46, 121], []), 0) := by
        rw [Jd.parse_eq (s := [100, 64, 120, 46, 121]) (c := ([100, 64, 120, 46, 121], [], false)) (d := ([100], [120, 46, 121], true)) (by decide) (by decide)]
        simp only
        rw [dom_xy, node_one (by decide)]
        rfl
      rw [Jd.bare_ok h rfl]
      rfl
    · rw [e]
      show Jd.bareL [104] = ([104], 0)
      have h : Jd.parseL [104] = (([], [104], []), 0) := by
        rw [Jd.parse_eq (s := [104]) (c := ([104], [], false)) (d := ([], [104], false)) (by decide) (by decide)]
        simp only
        rw [dom_h]
        rfl
      rw [Jd.bare_ok h rfl]
      rfl
theorem near_bare (s : List UInt8) (k : Nat) : bareB (nearJ s k) = true := by
  unfold bareB
  rw [near_key, decide_eq_true (rfl : (nearJ s k, 0) = (nearJ s k, 0)), Bool.or_true]
theorem note_line {t : List UInt8} (h : line t 200 = true) : noteB t = true := by
  obtain ⟨cs, h1, h2, h3⟩ := line_chars h
  unfold noteB
  rw [line_valid h, runes_some h1]
  rw [line_some h1] at h
  have hl : (cs.length : Int) ≤ 200 := of_decide_eq_true (Bool.and_eq_true_iff.1 h).2
  have hb : t.all (fun b => b != 13) = true := List.all_eq_true.2 fun b hb => by
    have h13 := line_no13 (t := t) (n := 200) (by rw [line_some h1]; exact h)
    have : b ≠ 13 := fun e => h13 (e ▸ hb)
    simpa using this
  rw [hb, decide_eq_true (show cs.length ≤ 500 by omega)]
  rfl
/-- what is near to a contact -/
structure Near (d : Con) : Prop where
  name : line d.name 100 = true
  some_ : d.name ≠ []
  family : line d.family 50 = true
  given : line d.given 50 = true
  nick : line d.nick 50 = true
  jid : d.jid = [] ∨ ∃ s k, d.jid = nearJ s k
  email : line d.email 50 = true
  tel : line d.tel 50 = true
  note : line d.note 200 = true
  uid : line d.uid 50 = true
  groups : ∃ l, d.groups = groupsL l ∧ l.length ≤ 4 ∧ ∀ g ∈ l, line g 30 = true
  other : d.other = []
theorem Near.right {d : Con} (h : Near d) : rightC d = true := by
  obtain ⟨l, hg, hl, hx⟩ := h.groups
  refine right_of h.some_ ?_ (note_line h.note) ?_ ?_ (by rw [h.other]; exact none_ok)
  · unfold textsB
    rw [h.name, line_more h.family (by decide), line_more h.given (by decide), line_more h.nick (by decide), line_more h.email (by decide), line_more h.tel (by decide), line_more h.uid (by decide)]
    rfl
  · rcases h.jid with e | ⟨s, k, e⟩
    · rw [e]; rfl
    · rw [e]; exact near_bare s k
  · rw [hg]
    exact groups_ok (by omega) hx (by decide)
end Go.Proofs.YtogjhpcjjmcjfaaGreatDoor.Ct
end
section
/- what is reached of it -/
namespace Go.Proofs.YtogjhpcjjmcjfaaGreatDoor
open Tx Vc Ct
theorem addr_near (s : List UInt8) (k : Nat) : addrB (nearJ s k) = true := decide_eq_true (near_key s k)
structure NearI (d : Itm) : Prop where
  jid : ∃ s k, d.jid = nearJ s k
  name : line d.name 100 = true
  groups : ∃ l, d.groups = groupsL l ∧ l.length ≤ 4 ∧ ∀ g ∈ l, line g 30 = true
  sub : d.sub = 0 ∨ d.sub = 1 ∨ d.sub = 2 ∨ d.sub = 3
  ask : d.ask = true → d.sub = 0 ∨ d.sub = 2
  app : d.app = true → d.sub = 0 ∨ d.sub = 1
theorem grp_near {l : List (List UInt8)} (hl : l.length ≤ 8) (hx : ∀ g ∈ l, line g 30 = true) : grpB (groupsL l) = true := by
  have h := groups_ok hl hx (by decide)
  have h2 := groups_right h
  unfold rightG at h
  simp only [Bool.and_eq_true, decide_eq_true_eq, List.all_eq_true] at h
  unfold grpB
  rw [decide_eq_true h.1.1, decide_eq_true h2.symm, Bool.and_self, Bool.true_and, Bool.not_eq_true']
  refine List.any_eq_false.2 fun g hg => ?_
  rw [(h.1.2 g hg).2]
  decide
theorem NearI.right {d : Itm} (h : NearI d) : rightI d = true := by
  obtain ⟨s, k, hj⟩ := h.jid
  obtain ⟨l, hg, hl, hx⟩ := h.groups
  unfold rightI
  rw [hj, addr_near, h.name, hg, grp_near (by omega) hx, Bool.true_and, Bool.true_and, Bool.true_and]
  have ha := h.ask
  have hp := h.app
  unfold subB
  rcases h.sub with e | e | e | e <;> rw [e] at ha hp ⊢
  · rfl
  · have : d.ask = false := by cases hd : d.ask with | false => rfl | true => exact absurd (ha hd) (by decide)
    rw [this]; rfl
  · have : d.app = false := by cases hd : d.app with | false => rfl | true => exact absurd (hp hd) (by decide)
    rw [this]; rfl
  · have h1 : d.ask = false := by cases hd : d.ask with | false => rfl | true => exact absurd (ha hd) (by decide)
    have h2 : d.app = false := by cases hd : d.app with | false => rfl | true => exact absurd (hp hd) (by decide)
    rw [h1, h2]; rfl
end Go.Proofs.YtogjhpcjjmcjfaaGreatDoor
end
