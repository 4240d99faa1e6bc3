import Derived.Test.YtogjhpcjjmcjfaaGreatDoorL30
import Derived.Test.YtogjhpcjjmcjfaaGreatDoorL34
import Derived.Test.YtogjhpcjjmcjfaaGreatDoorL25
import Derived.Test.YtogjhpcjjmcjfaaGreatDoorL32
/- what is reached of it -/
namespace Go.Proofs.YtogjhpcjjmcjfaaGreatDoor
open Go.RowKit Vc Ct Tx
theorem grp_right (l : List (List UInt8)) : grpB l = rightG l := by
  cases h : rightG l with
  | true =>
    have h2 := groups_right h
    unfold rightG at h
    simp only [Bool.and_eq_true, decide_eq_true_eq, List.all_eq_true] at h
    unfold grpB
    rw [decide_eq_true h.1.1, decide_eq_true h2.symm, Bool.and_self, Bool.true_and, Bool.not_eq_true']
    refine List.any_eq_false.2 fun g hg => ?_
    rw [(h.1.2 g hg).2]
    decide
  | false =>
    cases hg : grpB l with
    | false => rfl
    | true =>
      unfold grpB at hg
      simp only [Bool.and_eq_true, decide_eq_true_eq, Bool.not_eq_true'] at hg
      obtain ⟨⟨h1, h2⟩, h3⟩ := hg
      obtain ⟨g1, g2⟩ := groups_rising l
      rw [← h2] at g1 g2
      have : rightG l = true := by
        unfold rightG
        simp only [Bool.and_eq_true, decide_eq_true_eq, List.all_eq_true]
        refine ⟨⟨h1, fun g hm => ⟨((g2 g).1 hm).2, ?_⟩⟩, g1⟩
        have := List.any_eq_false.1 h3 g hm
        simpa using this
      rw [h] at this
      cases this
theorem addr_bare (t : List UInt8) (h : t ≠ []) : addrB t = bareB t := by
  unfold addrB bareB
  rw [decide_eq_false h, Bool.false_or]
theorem sub_is (s : Int) (a p : Bool) : (decide (0 ≤ s) && decide (s ≤ 3) && (!a || decide (s = 0) || decide (s = 2)) && (!p || decide (s = 0) || decide (s = 1))) = subB s a p := by
  unfold subB
  by_cases h0 : s = 0
  · subst h0; simp
  by_cases h1 : s = 1
  · subst h1; simp
  by_cases h2 : s = 2
  · subst h2; simp
  by_cases h3 : s = 3
  · subst h3; simp
  rw [if_neg h0, if_neg h1, if_neg h2, if_neg h3]
  by_cases hl : 0 ≤ s
  · have : ¬ s ≤ 3 := by omega
    rw [decide_eq_false this]; simp
  · rw [decide_eq_false hl]; simp
theorem right_no (x : Itm) (h : addrB x.jid = false ∨ line x.name 100 = false ∨ grpB x.groups = false) : rightI x = false := by
  rcases h with h | h | h
  · exact bad_jid h
  · exact bad_name h
  · exact bad_groups h
theorem right_yes (x : Itm) (h1 : addrB x.jid = true) (h2 : line x.name 100 = true) (h3 : grpB x.groups = true) : rightI x = subB x.sub x.ask x.app := by
  unfold rightI
  rw [h1, h2, h3]
  rfl
set_option maxHeartbeats 8000000 in
set_option maxRecDepth 100000 in
theorem rrightI_any (x : Itm) (gv : Value) (w : World) (hR : ReadT w.heap.size w gv (sts x.groups)) (hj : x.jid.length ≤ 1000000) (hn : x.name.length ≤ 1000000) (hl : x.groups.length ≤ 1000000) (hs : ∀ g ∈ x.groups, g.length ≤ 1000000) :
    Calls Tryz.prog 15 #[agI x gv] w fun e w' => e = .returned (.bool (rightI x)) ∧ Below w.heap.size w w' := by
  obtain ⟨A, n, cap, rfl⟩ : ∃ A n cap, gv = .slice A n cap := by obtain ⟨A, cap, e, _⟩ := hR; exact ⟨A, _, cap, e⟩
  have hag : agI x (.slice A n cap) = .agg #[.string (bts x.jid), .string (bts x.name), .slice A n cap, .int .i64 x.sub, .bool x.ask, .bool x.app] := rfl
  rw [hag]
  have e0 := emptyB (l := x.jid)
  have HB := Lib.hid (fun W => rbareS_any x.jid W hj)
  have HL : Hid (∀ W, Calls Tryz.prog 36 #[.string (bts x.name), .int .i64 100] W fun e w' => e = .returned (.bool (line x.name 100)) ∧ Below W.heap.size W w') := fun W => rline_any (bts x.name) 100 W (by rw [Lib.size_eq]; show x.name.length < _; omega)
  have HG : Hid (∀ W, Below w.heap.size w W → Calls Tryz.prog 37 #[.slice A n cap] W fun e w' => e = .returned (.bool (grpB x.groups)) ∧ Below W.heap.size W w') := fun W hW => by
    rw [grp_right]
    exact rgroups_right _ x.groups W (hR.upon hW) (by omega) hs
  have HNO : Hid (addrB x.jid = false ∨ line x.name 100 = false ∨ grpB x.groups = false → rightI x = false) := right_no x
  have HYE : Hid (addrB x.jid = true → line x.name 100 = true → grpB x.groups = true → rightI x = subB x.sub x.ask x.app) := right_yes x
  have hab : Hid (x.jid ≠ [] → addrB x.jid = bareB x.jid) := addr_bare x.jid
  have han : Hid (x.jid = [] → addrB x.jid = false) := fun h => by rw [h]; exact addr_nil
  obtain ⟨a1, h1⟩ : ∃ a, addrB x.jid = a := ⟨_, rfl⟩
  obtain ⟨a2, h2⟩ : ∃ a, line x.name 100 = a := ⟨_, rfl⟩
  obtain ⟨a3, h3⟩ : ∃ a, grpB x.groups = a := ⟨_, rfl⟩
  obtain ⟨bb, hbb⟩ : ∃ a, bareB x.jid = a := ⟨_, rfl⟩
  obtain ⟨r, hr⟩ : ∃ a, rightI x = a := ⟨_, rfl⟩
  obtain ⟨em, hem⟩ : ∃ a, decide (x.jid = []) = a := ⟨_, rfl⟩
  have HEM := Lib.hid hem
  obtain ⟨J, hJ⟩ : ∃ X, bts x.jid = X := ⟨_, rfl⟩
  obtain ⟨N, hN⟩ : ∃ X, bts x.name = X := ⟨_, rfl⟩
  obtain ⟨s, hs2⟩ : ∃ X, x.sub = X := ⟨_, rfl⟩
  obtain ⟨ak, hk⟩ : ∃ X, x.ask = X := ⟨_, rfl⟩
  obtain ⟨ap, hp⟩ : ∃ X, x.app = X := ⟨_, rfl⟩
  rw [hJ, hbb] at HB
  rw [hJ, hem] at e0
  rw [hN, h2] at HL
  rw [h3] at HG
  rw [h1, h2, h3, hr] at HNO HYE
  rw [hs2, hk, hp] at HYE
  rw [h1, hbb] at hab
  rw [h1] at han
  rw [hJ, hN, hs2, hk, hp, hr]
  clear hR hj hn hl hs hag h1 h2 h3 hbb hr hem hJ hN hs2 hk hp
  obtain ⟨W1, hW1⟩ : ∃ W1, w.alloc (.cells #[.string J, .string N, .slice A n cap, .int .i64 s, .bool ak, .bool ap] 24) = W1 := ⟨_, rfl⟩
  obtain ⟨G, hG⟩ : ∃ G, w.heap.size = G := ⟨_, rfl⟩
  have K1 : Hid (Bk W1 G 24 #[.string J, .string N, .slice A n cap, .int .i64 s, .bool ak, .bool ap]) := by rw [← hW1, ← hG]; exact Bk.new _ _ _
  have B1 : Hid (Below w.heap.size w W1) := by rw [← hW1]; exact (Below.refl _ _).alloc (Nat.le_refl _) _
  have HGE := Lib.hid hG
  have c0 : W1.cell? ⟨G, 0, none⟩ = some (.string J) := K1.out.cell 0
  have c1 : W1.cell? ⟨G, 1, none⟩ = some (.string N) := K1.out.cell 1
  have c2 : W1.cell? ⟨G, 2, none⟩ = some (.slice A n cap) := K1.out.cell 2
  have c3 : W1.cell? ⟨G, 3, none⟩ = some (.int .i64 s) := K1.out.cell 3
  have c4 : W1.cell? ⟨G, 4, none⟩ = some (.bool ak) := K1.out.cell 4
  have c5 : W1.cell? ⟨G, 5, none⟩ = some (.bool ap) := K1.out.cell 5
  go_enter Tryz.func15, Tryz.ntmps15
  cases em with
  | true =>
    have hr : r = false := HNO.out (.inl (han.out (of_decide_eq_true HEM.out)))
    subst hr
    clear HEM
    go_wp2_with fail
    go_ret
    exact ⟨rfl, by first | exact B1.out | (rw [← HGE.out]; exact B1.out)⟩
  | false =>
    have hab1 := hab.out (of_decide_eq_false HEM.out)
    have HAB := Lib.hid hab1
    clear HEM hab1
    go_wp2_with fail
    refine (HB.out W1).mono ?_
    rintro e w2 ⟨rfl, b2⟩
    have B2 : Hid (Below w.heap.size w w2) := B1.out.trans (b2.mono B1.out.size)
    have K2 := Lib.hid (K1.out.below b2 K1.out.lt)
    clear b2 c0 c1 c2 c3 c4 c5 hW1 e0
    have d0 : w2.cell? ⟨G, 0, none⟩ = some (.string J) := K2.out.cell 0
    have d1 : w2.cell? ⟨G, 1, none⟩ = some (.string N) := K2.out.cell 1
    have d2 : w2.cell? ⟨G, 2, none⟩ = some (.slice A n cap) := K2.out.cell 2
    have d3 : w2.cell? ⟨G, 3, none⟩ = some (.int .i64 s) := K2.out.cell 3
    have d4 : w2.cell? ⟨G, 4, none⟩ = some (.bool ak) := K2.out.cell 4
    have d5 : w2.cell? ⟨G, 5, none⟩ = some (.bool ap) := K2.out.cell 5
    cases bb with
    | false =>
      have hr : r = false := HNO.out (.inl HAB.out)
      subst hr
      go_wp2_with fail
      go_ret
      exact ⟨rfl, by first | exact B2.out | (rw [← HGE.out]; exact B2.out)⟩
    | true =>
      go_wp2_with fail
      refine (HL.out w2).mono ?_
      rintro e w3 ⟨rfl, b3⟩
      have B3 : Hid (Below w.heap.size w w3) := B2.out.trans (b3.mono B2.out.size)
      have K3 := Lib.hid (K2.out.below b3 K2.out.lt)
      clear b3 d0 d1 d2 d3 d4 d5
      have e0 : w3.cell? ⟨G, 0, none⟩ = some (.string J) := K3.out.cell 0
      have e1 : w3.cell? ⟨G, 1, none⟩ = some (.string N) := K3.out.cell 1
      have e2 : w3.cell? ⟨G, 2, none⟩ = some (.slice A n cap) := K3.out.cell 2
      have e3 : w3.cell? ⟨G, 3, none⟩ = some (.int .i64 s) := K3.out.cell 3
      have e4 : w3.cell? ⟨G, 4, none⟩ = some (.bool ak) := K3.out.cell 4
      have e5 : w3.cell? ⟨G, 5, none⟩ = some (.bool ap) := K3.out.cell 5
      cases a2 with
      | false =>
        have hr : r = false := HNO.out (.inr (.inl (by first | exact rfl | exact trivial)))
        subst hr
        go_wp2_with fail
        go_ret
        exact ⟨rfl, by first | exact B3.out | (rw [← HGE.out]; exact B3.out)⟩
      | true =>
        have HG3 := Lib.hid (HG.out w3 B3.out)
        go_wp2_with fail
        refine HG3.out.mono ?_
        rintro e w4 ⟨rfl, b4⟩
        have B4 : Hid (Below w.heap.size w w4) := B3.out.trans (b4.mono B3.out.size)
        have K4 := Lib.hid (K3.out.below b4 K3.out.lt)
        clear b4 e0 e1 e2 e3 e4 e5 hG
        have f0 : w4.cell? ⟨G, 0, none⟩ = some (.string J) := K4.out.cell 0
        have f1 : w4.cell? ⟨G, 1, none⟩ = some (.string N) := K4.out.cell 1
        have f2 : w4.cell? ⟨G, 2, none⟩ = some (.slice A n cap) := K4.out.cell 2
        have f3 : w4.cell? ⟨G, 3, none⟩ = some (.int .i64 s) := K4.out.cell 3
        have f4 : w4.cell? ⟨G, 4, none⟩ = some (.bool ak) := K4.out.cell 4
        have f5 : w4.cell? ⟨G, 5, none⟩ = some (.bool ap) := K4.out.cell 5
        cases a3 with
        | false =>
          have hr : r = false := HNO.out (.inr (.inr (by first | exact rfl | exact trivial)))
          subst hr
          go_wp2_with fail
          go_ret
          exact ⟨rfl, by first | exact B4.out | (rw [← HGE.out]; exact B4.out)⟩
        | true =>
          have hr := HYE.out HAB.out (by first | exact trivial | exact rfl) (by first | exact trivial | exact rfl)
          rw [← sub_is] at hr
          have HRR := Lib.hid hr
          clear hr
          by_cases g0 : 0 ≤ s
          · have d0 : decide (s ≥ 0) = true := decide_eq_true g0
            by_cases g3 : s ≤ 3
            · have d3 : decide (s ≤ 3) = true := decide_eq_true g3
              have hss : s = 0 ∨ s = 1 ∨ s = 2 ∨ s = 3 := by omega
              clear g0 g3 d0 d3
              rcases hss with rfl | rfl | rfl | rfl <;> cases ak <;> cases ap <;> (go_wp2_with fail; go_ret; exact ⟨by rw [HRR.out]; rfl, by first | exact B4.out | (rw [← HGE.out]; exact B4.out)⟩)
            · have d3 : decide (s ≤ 3) = false := decide_eq_false g3
              have hr : r = false := by rw [HRR.out, d3, Bool.and_false, Bool.false_and, Bool.false_and]
              subst hr
              clear HRR
              go_wp2_with fail
              go_ret
              exact ⟨rfl, by first | exact B4.out | (rw [← HGE.out]; exact B4.out)⟩
          · have d0 : decide (s ≥ 0) = false := decide_eq_false g0
            have hr : r = false := by rw [HRR.out, decide_eq_false g0, Bool.false_and, Bool.false_and, Bool.false_and]
            subst hr
            clear HRR
            go_wp2_with fail
            go_ret
            exact ⟨rfl, by first | exact B4.out | (rw [← HGE.out]; exact B4.out)⟩
end Go.Proofs.YtogjhpcjjmcjfaaGreatDoor
