import Derived.Test.YtpaehhlhngilcaaM30
import Derived.Test.YtpaehhlhngilcaaM11
import Derived.Test.YtpaehhlhngilcaaM15
import Derived.BigQuiet
/- what is reached of it -/
namespace Go.Proofs.Ytpaehhlhngilcaa
open Go.RowKit Tx Vc Ct
set_option maxHeartbeats 4000000 in
set_option maxRecDepth 100000 in
theorem helpI_same (x : Itm) (g1 g2 : Slc) (w : World) (h1 : ReadT w.heap.size w (sl g1) (sts x.groups)) (h2 : ReadT w.heap.size w (sl g2) (sts x.groups)) (hl : x.groups.length ≤ 140737488355328) :
    Calls Try.prog 16 #[agI x (sl g1), agI x (sl g2)] w fun e w' => e = .returned (.bool true) ∧ Below w.heap.size w w' := by
  obtain ⟨pA, pn, pc⟩ := g1
  obtain ⟨qA, qn, qc⟩ := g2
  have HPL : Hid (∀ W, Below w.heap.size w W → Calls Try.prog 22 #[.slice pA pn pc, .slice qA qn qc] W fun e w' => e = .returned (.bool true) ∧ Below W.heap.size W w') := fun W hW => by
    have := plainT_any W.heap.size (.slice pA pn pc) (.slice qA qn qc) (sts x.groups) (sts x.groups) W ((h1.below hW).more hW.size) ((h2.below hW).more hW.size) (by unfold sts; rw [List.length_map]; exact hl) (by unfold sts; rw [List.length_map]; exact hl)
    rw [decide_eq_true rfl] at this
    exact this
  have e1 : agI x (sl (pA, pn, pc)) = .agg #[.string (bts x.jid), .string (bts x.name), .slice pA pn pc, .int .i64 x.sub, .bool x.ask, .bool x.app] := rfl
  have e2 : agI x (sl (qA, qn, qc)) = .agg #[.string (bts x.jid), .string (bts x.name), .slice qA qn qc, .int .i64 x.sub, .bool x.ask, .bool x.app] := rfl
  rw [e1, e2]
  obtain ⟨X, hX⟩ : ∃ X, bts x.jid = X := ⟨_, rfl⟩
  obtain ⟨M, hM⟩ : ∃ X, bts x.name = X := ⟨_, rfl⟩
  obtain ⟨xs, hs⟩ : ∃ X, x.sub = X := ⟨_, rfl⟩
  obtain ⟨xk, hk⟩ : ∃ X, x.ask = X := ⟨_, rfl⟩
  obtain ⟨xa, ha⟩ : ∃ X, x.app = X := ⟨_, rfl⟩
  rw [hX, hM, hs, hk, ha]
  clear e1 e2 hX hM hs hk ha h1 h2 hl
  obtain ⟨W1, hW1⟩ : ∃ W1, w.alloc (.cells #[.string X, .string M, .slice pA pn pc, .int .i64 xs, .bool xk, .bool xa] 26) = W1 := ⟨_, rfl⟩
  obtain ⟨p, hp⟩ : ∃ G, w.heap.size = G := ⟨_, rfl⟩
  have k1 : Bk W1 p 26 #[.string X, .string M, .slice pA pn pc, .int .i64 xs, .bool xk, .bool xa] := by rw [← hW1, ← hp]; exact Bk.new _ _ _
  have b1 : Below w.heap.size w W1 := by rw [← hW1]; exact (Below.refl _ _).alloc (Nat.le_refl _) _
  obtain ⟨W2, hW2⟩ : ∃ W1', W1.alloc (.cells #[.string X, .string M, .slice qA qn qc, .int .i64 xs, .bool xk, .bool xa] 26) = W1' := ⟨_, rfl⟩
  obtain ⟨q, hq⟩ : ∃ G, W1.heap.size = G := ⟨_, rfl⟩
  have k2 : Bk W2 q 26 #[.string X, .string M, .slice qA qn qc, .int .i64 xs, .bool xk, .bool xa] := by rw [← hW2, ← hq]; exact Bk.new _ _ _
  have b2 : Below W1.heap.size W1 W2 := by rw [← hW2]; exact (Below.refl _ _).alloc (Nat.le_refl _) _
  have B2 : Hid (Below w.heap.size w W2) := b1.trans (b2.mono b1.size)
  have k3 := k1.below b2 k1.lt
  have HP := Lib.hid hp
  have c0 : W2.cell? ⟨p, 0, none⟩ = some (.string X) := k3.cell 0
  have d0 : W2.cell? ⟨q, 0, none⟩ = some (.string X) := k2.cell 0
  have c1 : W2.cell? ⟨p, 1, none⟩ = some (.string M) := k3.cell 1
  have d1 : W2.cell? ⟨q, 1, none⟩ = some (.string M) := k2.cell 1
  have c2 : W2.cell? ⟨p, 2, none⟩ = some (.slice pA pn pc) := k3.cell 2
  have d2 : W2.cell? ⟨q, 2, none⟩ = some (.slice qA qn qc) := k2.cell 2
  have c3 : W2.cell? ⟨p, 3, none⟩ = some (.int .i64 xs) := k3.cell 3
  have d3 : W2.cell? ⟨q, 3, none⟩ = some (.int .i64 xs) := k2.cell 3
  have c4 : W2.cell? ⟨p, 4, none⟩ = some (.bool xk) := k3.cell 4
  have d4 : W2.cell? ⟨q, 4, none⟩ = some (.bool xk) := k2.cell 4
  have c5 : W2.cell? ⟨p, 5, none⟩ = some (.bool xa) := k3.cell 5
  have d5 : W2.cell? ⟨q, 5, none⟩ = some (.bool xa) := k2.cell 5
  have t1 : (X.toList == X.toList) = true := by simp
  have t2 : (M.toList == M.toList) = true := by simp
  clear k1 k2 k3 b1 b2
  go_enter Try.func16, Try.ntmps16
  go_wp2_with fail
  refine (HPL.out W2 B2.out).mono ?_
  rintro e w3 ⟨rfl, b3⟩
  have BF : Hid (Below w.heap.size w w3) := B2.out.trans (b3.mono B2.out.size)
  clear b3
  go_wp2_with fail
  go_ret
  exact ⟨rfl, by first | exact BF.out | (rw [← HP.out]; exact BF.out)⟩
end Go.Proofs.Ytpaehhlhngilcaa
