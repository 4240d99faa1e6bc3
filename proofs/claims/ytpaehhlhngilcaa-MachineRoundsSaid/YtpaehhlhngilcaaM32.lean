import Derived.Test.YtpaehhlhngilcaaM31
import Derived.Test.YtpaehhlhngilcaaM30
/- what is reached of it -/
namespace Go.Proofs.Ytpaehhlhngilcaa
open Go.RowKit Tx Vc Ct
abbrev laid6M (w : World) (g : Nat) (a b c d e f : Value) : World := (((((w.setCell ⟨g, 0, none⟩ a).setCell ⟨g, 1, none⟩ b).setCell ⟨g, 2, none⟩ c).setCell ⟨g, 3, none⟩ d).setCell ⟨g, 4, none⟩ e).setCell ⟨g, 5, none⟩ f
theorem laid6M_bk {w : World} {g : Nat} {t : TypeId} {x0 x1 x2 x3 x4 x5 : Value} (h : Bk w g t #[x0, x1, x2, x3, x4, x5]) (a b c d e f : Value) : Bk (laid6M w g a b c d e f) g t #[a, b, c, d, e, f] := by
  have := (((((h.put 0 a).put 1 b).put 2 c).put 3 d).put 4 e).put 5 f
  simpa [laid6M] using this
theorem laid6M_below {w0 w : World} {B g : Nat} (h : Below B w0 w) (hg : B ≤ g) (a b c d e f : Value) : Below B w0 (laid6M w g a b c d e f) :=
  (((((h.setCell (p := ⟨g, 0, none⟩) hg _).setCell (p := ⟨g, 1, none⟩) hg _).setCell (p := ⟨g, 2, none⟩) hg _).setCell (p := ⟨g, 3, none⟩) hg _).setCell (p := ⟨g, 4, none⟩) hg _).setCell (p := ⟨g, 5, none⟩) hg _
theorem OwnT.lessM {B C : Nat} {w : World} {v : Value} {x : List ByteArray} (h : OwnT B w v x) (hC : C ≤ B) : OwnT C w v x := by
  refine ⟨h.1, ?_⟩
  rcases h.2 with h2 | ⟨g, cap, cur, hv, hg, h3⟩
  · exact .inl h2
  · exact .inr ⟨g, cap, cur, hv, Nat.le_trans hC hg, h3⟩
/-- an item with any mode -/
def intoM (x : Itm) (m : Mod) : Itm := { x with sub := subM m, ask := m.ask, app := m.app }

set_option maxHeartbeats 8000000 in
set_option maxRecDepth 100000 in
theorem into_any (x : Itm) (gv : Value) (m : Mod) (w : World) (hR : ReadT w.heap.size w gv (sts x.groups)) (hl : x.groups.length ≤ 8796093022208) :
    Calls Try.prog 17 #[agI x gv, agM m] w fun e w' => ∃ gv', e = .returned (agI (intoM x m) gv') ∧ OwnT w.heap.size w' gv' (sts x.groups) ∧ Below w.heap.size w w' := by
  obtain ⟨A, cp, hv, _⟩ := id hR
  obtain ⟨n, hnn⟩ : ∃ n, (sts x.groups).length = n := ⟨_, rfl⟩
  rw [hnn] at hv
  subst hv
  have hgl : x.groups.length = n := by rw [← hnn]; exact (List.length_map _).symm
  obtain ⟨jid, name, groups, s, k, u⟩ := x
  obtain ⟨a, b, c, d, f⟩ := m
  have hai : ∀ A cp, agI ⟨jid, name, groups, s, k, u⟩ (.slice A n cp) = .agg #[.string (bts jid), .string (bts name), .slice A n cp, .int .i64 s, .bool k, .bool u] := fun A cp => rfl
  have hai2 : ∀ A cp, agI (intoM ⟨jid, name, groups, s, k, u⟩ ⟨a, b, c, d, f⟩) (.slice A n cp) = .agg #[.string (bts jid), .string (bts name), .slice A n cp, .int .i64 (subM ⟨a, b, c, d, f⟩), .bool c, .bool f] := fun A cp => rfl
  rw [hai, ← agM_mk]
  have HAI := Lib.hid hai2
  obtain ⟨T, hT⟩ : ∃ T, intoM ⟨jid, name, groups, s, k, u⟩ ⟨a, b, c, d, f⟩ = T := ⟨_, rfl⟩
  rw [hT] at HAI ⊢
  obtain ⟨J, hJ⟩ : ∃ J, bts jid = J := ⟨_, rfl⟩
  obtain ⟨N, hN⟩ : ∃ J, bts name = J := ⟨_, rfl⟩
  rw [hJ, hN] at HAI ⊢
  obtain ⟨W1, hW1⟩ : ∃ W1, w.alloc (.cells #[.string J, .string N, .slice A n cp, .int .i64 s, .bool k, .bool u] 26) = W1 := ⟨_, rfl⟩
  obtain ⟨p, hp⟩ : ∃ p, w.heap.size = p := ⟨_, rfl⟩
  obtain ⟨W2, hW2⟩ : ∃ W2, W1.alloc (.cells #[.bool a, .bool b, .bool c, .bool d, .bool f] 23) = W2 := ⟨_, rfl⟩
  obtain ⟨q, hq⟩ : ∃ q, p + 1 = q := ⟨_, rfl⟩
  have hq1 : W1.heap.size = q := by rw [← hW1, World.size_alloc, hp, hq]
  obtain ⟨W3, hW3⟩ : ∃ W3, W2.alloc (.cells #[.string ⟨#[]⟩, .string ⟨#[]⟩, .slice none 0 0, .int .i64 0, .bool false, .bool false] 26) = W3 := ⟨_, rfl⟩
  obtain ⟨r, hr⟩ : ∃ r, q + 1 = r := ⟨_, rfl⟩
  have hr1 : W2.heap.size = r := by rw [← hW2, World.size_alloc, hq1, hr]
  have K1 : Hid (Bk W3 p 26 #[.string J, .string N, .slice A n cp, .int .i64 s, .bool k, .bool u]) := by rw [← hW3, ← hW2, ← hW1, ← hp]; exact ((Bk.new _ _ _).alloc _).alloc _
  have K2 : Hid (Bk W3 q 23 #[.bool a, .bool b, .bool c, .bool d, .bool f]) := by rw [← hW3, ← hW2, ← hq1]; exact (Bk.new _ _ _).alloc _
  have K3 : Hid (Bk W3 r 26 #[.string ⟨#[]⟩, .string ⟨#[]⟩, .slice none 0 0, .int .i64 0, .bool false, .bool false]) := by rw [← hW3, ← hr1]; exact Bk.new _ _ _
  have B3 : Hid (Below w.heap.size w W3) := by rw [← hW3, ← hW2, ← hW1]; exact (((Below.refl _ _).alloc (Nat.le_refl _) _).alloc (by rw [World.size_alloc]; omega) _).alloc (by rw [World.size_alloc, World.size_alloc]; omega) _
  have hn1 : ¬ q = p := by omega
  have hn2 : ¬ p = q := by omega
  have hn3 : ¬ r = p := by omega
  have hn4 : ¬ p = r := by omega
  have hn5 : ¬ r = q := by omega
  have hn6 : ¬ q = r := by omega
  have HLE : Hid (w.heap.size ≤ p ∧ w.heap.size ≤ r) := by unfold Hid; omega
  have HS : Hid (∀ W, Below W3.heap.size W3 W → Calls Try.prog 23 #[.agg #[.bool a, .bool b, .bool c, .bool d, .bool f]] W fun e w' => e = .returned (.int .i64 (subM ⟨a, b, c, d, f⟩)) ∧ Hid (Below W3.heap.size W3 w') ∧ w'.cell? ⟨q, 0, none⟩ = some (.bool a) ∧ w'.cell? ⟨q, 1, none⟩ = some (.bool b) ∧ w'.cell? ⟨q, 2, none⟩ = some (.bool c) ∧ w'.cell? ⟨q, 3, none⟩ = some (.bool d) ∧ w'.cell? ⟨q, 4, none⟩ = some (.bool f) ∧ w'.cell? ⟨p, 3, none⟩ = some (.int .i64 s) ∧ w'.cell? ⟨p, 4, none⟩ = some (.bool k) ∧ w'.cell? ⟨p, 5, none⟩ = some (.bool u) ∧ w'.frozen? ⟨p, 3, none⟩ = false ∧ w'.frozen? ⟨p, 4, none⟩ = false ∧ w'.frozen? ⟨p, 5, none⟩ = false) := fun W hW => (sub_any a b c d f W).mono fun e w' ⟨he, hb⟩ => by
    have hB := hW.trans (hb.mono hW.size)
    have l1 := K1.out.below hB K1.out.lt
    have l2 := K2.out.below hB K2.out.lt
    exact ⟨he, hB, l2.cell 0, l2.cell 1, l2.cell 2, l2.cell 3, l2.cell 4, l1.cell 3, l1.cell 4, l1.cell 5, l1.free 3, l1.free 4, l1.free 5⟩
  have HCL : Hid (∀ W, Below w.heap.size w W → Calls Try.prog 24 #[.slice A n cp] W fun e w' => ∃ A2 cap, e = .returned (.slice A2 n cap) ∧ OwnT W.heap.size w' (.slice A2 n cap) (sts groups) ∧ Below W.heap.size W w') := fun W hW => by
    have := cloneTZ_any (.slice A n cp) groups W w.heap.size (hR.below hW) hl
    rw [show groups.length = n from hgl] at this
    exact this
  obtain ⟨S, hS⟩ : ∃ S, subM ⟨a, b, c, d, f⟩ = S := ⟨_, rfl⟩
  rw [hS] at HS HAI
  have m0 : W3.cell? ⟨q, 0, none⟩ = some (.bool a) := K2.out.cell 0
  have m1 : W3.cell? ⟨q, 1, none⟩ = some (.bool b) := K2.out.cell 1
  have m2 : W3.cell? ⟨q, 2, none⟩ = some (.bool c) := K2.out.cell 2
  have m3 : W3.cell? ⟨q, 3, none⟩ = some (.bool d) := K2.out.cell 3
  have m4 : W3.cell? ⟨q, 4, none⟩ = some (.bool f) := K2.out.cell 4
  have HW1 := Lib.hid hW1
  have HW2 := Lib.hid hW2
  have HW3 := Lib.hid hW3
  have HP := Lib.hid hp
  have HQ := Lib.hid hq
  have HRR := Lib.hid hr
  clear hW1 hW2 hW3 hp hq hr hq1 hr1 hT hJ hN hai hai2 hS hR hl hnn hgl
  go_enter Try.func17, Try.ntmps17
  go_upto_region 1 with fail
  (try rw [HW1.out])
  (try rw [HP.out])
  (try rw [HQ.out])
  (try rw [HW2.out])
  (try rw [HRR.out])
  (try rw [HW3.out])
  go_cut [6] from 5 to 14 (fun v wx => v = .int .i64 S ∧ Hid (Bk wx p 26 #[.string J, .string N, .slice A n cp, .int .i64 S, .bool c, .bool f]) ∧ Hid (Bk wx r 26 #[.string ⟨#[]⟩, .string ⟨#[]⟩, .slice none 0 0, .int .i64 0, .bool false, .bool false]) ∧ Hid (Below w.heap.size w wx) ∧ W3.heap.size ≤ wx.heap.size)
  case first J0 KK0 hJ hK =>
    go_region_with ((go_at_call 23; refine (HS.out _ (by first | exact Below.refl _ _ | exact (Below.refl _ _).drew)).mono ?_; rintro e w4 ⟨rfl, B4, n0, n1, n2, n3, n4, i3, i4, i5, g3, g4, g5⟩; obtain ⟨w5, hw5⟩ : ∃ z, ((w4.setCell ⟨p, 3, none⟩ (.int .i64 S)).setCell ⟨p, 4, none⟩ (.bool c)).setCell ⟨p, 5, none⟩ (.bool f) = z := ⟨_, rfl⟩))
    all_goals
      have P1 : Hid (Bk w5 p 26 #[.string J, .string N, .slice A n cp, .int .i64 S, .bool c, .bool f]) := by unfold Hid; rw [← hw5]; simpa using (((K1.out.below B4.out K1.out.lt).put 3 (.int .i64 S)).put 4 (.bool c)).put 5 (.bool f)
      have P3 : Hid (Bk w5 r 26 #[.string ⟨#[]⟩, .string ⟨#[]⟩, .slice none 0 0, .int .i64 0, .bool false, .bool false]) := by rw [← hw5]; exact (((K3.out.below B4.out K3.out.lt).far (p := ⟨p, 3, none⟩) hn3 _).far (p := ⟨p, 4, none⟩) hn3 _).far (p := ⟨p, 5, none⟩) hn3 _
      have PB : Hid (Below w.heap.size w w5) := by rw [← hw5]; exact (((B3.out.trans (B4.out.mono B3.out.size)).setCell (p := ⟨p, 3, none⟩) HLE.out.1 _).setCell (p := ⟨p, 4, none⟩) HLE.out.1 _).setCell (p := ⟨p, 5, none⟩) HLE.out.1 _
      have PS : W3.heap.size ≤ w5.heap.size := by rw [← hw5, World.size_setCell, World.size_setCell, World.size_setCell]; exact B4.out.size
      first | refine Met.intro (hK _ _ (Met.intro (hJ _ _ ?_))) | refine hK _ _ (Met.intro (hJ _ _ ?_))
      (repeat apply Exists.intro)
      refine ⟨?_, rfl⟩
      exact ⟨rfl, P1, P3, PB, PS⟩
  case rest =>
    obtain ⟨rfl, P1, P3, PB, PS⟩ := hcut
    have R3 := P3.out
    have K3' := P1.out
    have e2 : wc.cell? ⟨p, 2, none⟩ = some (.slice A n cp) := K3'.cell 2
    have HC := Lib.hid (HCL.out wc PB.out)
    go_wp2_with fail
    refine HC.out.mono ?_
    rintro e w3 ⟨A3, cap3, rfl, hr3, b3⟩
    have K3 := P1.out.below b3 P1.out.lt
    have R3 := P3.out.below b3 P3.out.lt
    have B3' : Hid (Below w.heap.size w w3) := PB.out.trans (b3.mono PB.out.size)
    have f2 : w3.frozen? ⟨p, 2, none⟩ = false := K3.free 2
    have e2 : w3.cell? ⟨p, 2, none⟩ = some (.slice A n cp) := K3.cell 2
    have K4 := Lib.hid (K3.put 2 (.slice A3 n cap3))
    have R4 := Lib.hid (R3.far (p := ⟨p, 2, none⟩) hn3 (.slice A3 n cap3))
    have B4 : Hid (Below w.heap.size w (w3.setCell ⟨p, 2, none⟩ (.slice A3 n cap3))) := B3'.out.setCell (p := ⟨p, 2, none⟩) HLE.out.1 _
    have HR3 := Lib.hid hr3
    have HPL := Lib.hid P1.out.lt
    have HRL := Lib.hid P3.out.lt
    clear K3 R3 b3 hr3 K3'
    go_upto_region 3 with fail
    have O4 : Hid (OwnT wc.heap.size (w3.setCell ⟨p, 2, none⟩ (.slice A3 n cap3)) (.slice A3 n cap3) (sts groups)) := HR3.out.set HPL.out
    obtain ⟨w4, hw4⟩ : ∃ z, w3.setCell ⟨p, 2, none⟩ (.slice A3 n cap3) = z := ⟨_, rfl⟩
    rw [hw4] at K4 R4 B4 O4 ⊢
    have k5 : Bk w4 p 26 #[.string J, .string N, .slice A3 n cap3, .int .i64 S, .bool c, .bool f] := by simpa using K4.out
    clear e2 f2 hw4
    have i0 : w4.cell? ⟨p, 0, none⟩ = some (.string J) := k5.cell 0
    have i1 : w4.cell? ⟨p, 1, none⟩ = some (.string N) := k5.cell 1
    have i2 : w4.cell? ⟨p, 2, none⟩ = some (.slice A3 n cap3) := k5.cell 2
    have i3 : w4.cell? ⟨p, 3, none⟩ = some (.int .i64 S) := k5.cell 3
    have i4 : w4.cell? ⟨p, 4, none⟩ = some (.bool c) := k5.cell 4
    have i5 : w4.cell? ⟨p, 5, none⟩ = some (.bool f) := k5.cell 5
    have r0 : w4.cell? ⟨r, 0, none⟩ = some (.string ⟨#[]⟩) := R4.out.cell 0
    have g0 : w4.frozen? ⟨r, 0, none⟩ = false := R4.out.free 0
    have r1 : w4.cell? ⟨r, 1, none⟩ = some (.string ⟨#[]⟩) := R4.out.cell 1
    have g1 : w4.frozen? ⟨r, 1, none⟩ = false := R4.out.free 1
    have r2 : w4.cell? ⟨r, 2, none⟩ = some (.slice none 0 0) := R4.out.cell 2
    have g2 : w4.frozen? ⟨r, 2, none⟩ = false := R4.out.free 2
    have r3 : w4.cell? ⟨r, 3, none⟩ = some (.int .i64 0) := R4.out.cell 3
    have g3 : w4.frozen? ⟨r, 3, none⟩ = false := R4.out.free 3
    have r4 : w4.cell? ⟨r, 4, none⟩ = some (.bool false) := R4.out.cell 4
    have g4 : w4.frozen? ⟨r, 4, none⟩ = false := R4.out.free 4
    have r5 : w4.cell? ⟨r, 5, none⟩ = some (.bool false) := R4.out.cell 5
    have g5 : w4.frozen? ⟨r, 5, none⟩ = false := R4.out.free 5
    have R5 := Lib.hid (laid6M_bk R4.out (.string J) (.string N) (.slice A3 n cap3) (.int .i64 S) (.bool c) (.bool f))
    have B5 := Lib.hid (laid6M_below B4.out HLE.out.2 (.string J) (.string N) (.slice A3 n cap3) (.int .i64 S) (.bool c) (.bool f))
    obtain ⟨w5, hw5⟩ : ∃ z, laid6M w4 r (.string J) (.string N) (.slice A3 n cap3) (.int .i64 S) (.bool c) (.bool f) = z := ⟨_, rfl⟩
    have O5 : Hid (OwnT wc.heap.size (laid6M w4 r (.string J) (.string N) (.slice A3 n cap3) (.int .i64 S) (.bool c) (.bool f)) (.slice A3 n cap3) (sts groups)) := (((((O4.out.set HRL.out).set HRL.out).set HRL.out).set HRL.out).set HRL.out).set HRL.out
    rw [hw5] at O5
    rw [hw5] at R5 B5
    go_wp2_with fail
    have j0 : w5.cell? ⟨r, 0, none⟩ = some (.string J) := R5.out.cell 0
    have j1 : w5.cell? ⟨r, 1, none⟩ = some (.string N) := R5.out.cell 1
    have j2 : w5.cell? ⟨r, 2, none⟩ = some (.slice A3 n cap3) := R5.out.cell 2
    have j3 : w5.cell? ⟨r, 3, none⟩ = some (.int .i64 S) := R5.out.cell 3
    have j4 : w5.cell? ⟨r, 4, none⟩ = some (.bool c) := R5.out.cell 4
    have j5 : w5.cell? ⟨r, 5, none⟩ = some (.bool f) := R5.out.cell 5
    refine bodyPost_ret (v := .agg #[.string J, .string N, .slice A3 n cap3, .int .i64 S, .bool c, .bool f]) (by simp [results, Try.results17, go_sem, j0, j1, j2, j3, j4, j5]) rfl ?_
    exact ⟨.slice A3 n cap3, by rw [HAI.out], OwnT.lessM O5.out PB.out.size, B5.out⟩
end Go.Proofs.Ytpaehhlhngilcaa
