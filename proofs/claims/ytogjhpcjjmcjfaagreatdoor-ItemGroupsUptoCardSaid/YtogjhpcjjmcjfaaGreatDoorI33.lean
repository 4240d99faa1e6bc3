import Derived.Test.YtogjhpcjjmcjfaaGreatDoorI32
/- what is reached of it -/
namespace Go.Proofs.YtogjhpcjjmcjfaaGreatDoor
open Go.RowKit Rg Tx
abbrev btj (l : List UInt8) : ByteArray := ⟨l.toArray⟩
/-- what has been gathered, and the first error -/
abbrev Gat := Jd.J × Nat
def gatC (s : Gat) : Array Value := #[.string (btj s.1.1), .string (btj s.1.2.1), .string (btj s.1.2.2), .int .i64 (s.2 : Nat)]
def putJ : Nat → Jd.J → List UInt8 → Jd.J
  | 0, j, x => (x, j.2.1, j.2.2)
  | 1, j, x => (j.1, x, j.2.2)
  | _, j, x => (j.1, j.2.1, x)
def stepG (k : Nat) (s : Gat) (r : List UInt8 × Nat) : Gat := if s.2 ≠ 0 then s else if r.2 ≠ 0 then (Jd.none_, r.2) else (putJ k s.1 r.1, 0)
def GB (w : World) (g : Nat) (s : Gat) : Prop := Bk w g 100 (gatC s)
/-- a function that puts a part into field k -/
def Puts (v : Value) (k : Nat) : Prop := ∃ F, v = .func (.func F) #[] #[] ∧ (∀ args W, (callFunc F args).run Tryz.prog W = .ok (.enter F args) W) ∧
  ∀ (g : Nat) (s : Gat) (x : ByteArray) (W : World), GB W g s → Calls Tryz.prog F #[.pointer (some ⟨g, 0, none⟩), .string x] W fun e w' => e = .returned (.tuple #[]) ∧ w' = W.setCell ⟨g, k, none⟩ (.string x)
set_option maxHeartbeats 400000 in
theorem put1_any : Puts (.func (.func 86) #[] #[]) 1 := by
  refine ⟨_, rfl, Go.Proofs.enters_of Tryz.func86 (by kernel_rfl) rfl, fun g s x W h => ?_⟩
  have c0 : W.cell? ⟨g, 1, none⟩ = some (.string (btj s.1.2.1)) := h.cell 1
  have f0 := h.free 1
  clear h
  go_enter Tryz.func86, Tryz.ntmps86
  go_wp2_with fail
  go_end0
  exact ⟨rfl, rfl⟩
set_option maxHeartbeats 400000 in
theorem put0_any : Puts (.func (.func 89) #[] #[]) 0 := by
  refine ⟨_, rfl, Go.Proofs.enters_of Tryz.func89 (by kernel_rfl) rfl, fun g s x W h => ?_⟩
  have c0 : W.cell? ⟨g, 0, none⟩ = some (.string (btj s.1.1)) := h.cell 0
  have f0 := h.free 0
  clear h
  go_enter Tryz.func89, Tryz.ntmps89
  go_wp2_with fail
  go_end0
  exact ⟨rfl, rfl⟩
set_option maxHeartbeats 400000 in
theorem put2_any : Puts (.func (.func 91) #[] #[]) 2 := by
  refine ⟨_, rfl, Go.Proofs.enters_of Tryz.func91 (by kernel_rfl) rfl, fun g s x W h => ?_⟩
  have c0 : W.cell? ⟨g, 2, none⟩ = some (.string (btj s.1.2.2)) := h.cell 2
  have f0 := h.free 2
  clear h
  go_enter Tryz.func91, Tryz.ntmps91
  go_wp2_with fail
  go_end0
  exact ⟨rfl, rfl⟩
theorem GB.put {w : World} {g k : Nat} {s : Gat} (h : GB w g s) (hk : k = 0 ∨ k = 1 ∨ k = 2) (h0 : s.2 = 0) (x : List UInt8) : GB (w.setCell ⟨g, k, none⟩ (.string (btj x))) g (putJ k s.1 x, 0) := by
  have h1 := Bk.put h k (.string (btj x))
  unfold GB
  have e : (gatC s).setIfInBounds k (.string (btj x)) = gatC (putJ k s.1 x, 0) := by
    unfold gatC
    rw [h0]
    rcases hk with rfl | rfl | rfl <;> rfl
  rw [e] at h1
  exact h1
set_option maxHeartbeats 2000000 in
theorem add_any (g k : Nat) (s : Gat) (p : ByteArray) (kv pv : Value) (f : List UInt8 → List UInt8 × Nat) (w : World) (hk : k = 0 ∨ k = 1 ∨ k = 2) (hg : GB w g s) (hK : Keeps w kv f) (hP : Puts pv k) (hp : p.size ≤ 100000000) :
    Calls Tryz.prog 84 #[.pointer (some ⟨g, 0, none⟩), .string p, kv, pv] w fun e w' => e = .returned (.tuple #[]) ∧ GB w' g (stepG k s (f p.data.toList)) ∧ Below g w w' := by
  have hgl := hg.lt
  obtain ⟨F, cb, rfl, eg, hK⟩ := hK
  obtain ⟨P, rfl, eP, hP⟩ := hP
  have HG := Lib.hid hg
  have HK := Lib.hid (hK p w (Below.refl _ _) hp)
  have HP := Lib.hid hP
  have c3 : w.cell? ⟨g, 3, none⟩ = some (.int .i64 (s.2 : Nat)) := hg.cell 3
  obtain ⟨r, hr⟩ : ∃ r, f p.data.toList = r := ⟨_, rfl⟩
  rw [hr] at HK ⊢
  clear hK hP hr hg
  by_cases h0 : s.2 = 0
  · rw [h0] at c3
    by_cases h1 : r.2 = 0
    · have e1 : stepG k s r = (putJ k s.1 r.1, 0) := by unfold stepG; rw [if_neg (by simpa using h0), if_neg (by simpa using h1)]
      rw [e1]
      obtain ⟨a, ha⟩ : ∃ a : ByteArray, btj r.1 = a := ⟨_, rfl⟩
      have hV : twoV r = .tuple #[.string a, .int .i64 0] := by rw [twoV_of (show r = (r.1, 0) from Prod.ext rfl h1), ← ha]; rfl
      rw [hV] at HK
      have HA := Lib.hid ha
      have H0 := Lib.hid h0
      clear hV ha e1 h1 h0
      go_enter Tryz.func84, Tryz.ntmps84
      go_wp2_with fail
      refine HK.out.mono ?_
      rintro e w1 ⟨rfl, b1⟩
      have B1 := Lib.hid b1
      have G1 : Hid (GB w1 g s) := Bk.below HG.out b1 hgl
      clear b1
      go_wp2_with fail
      refine (HP.out g s a w1 G1.out).mono ?_
      rintro e w2 ⟨rfl, hw2⟩
      have G2 : Hid (GB w2 g (putJ k s.1 r.1, 0)) := by
        unfold Hid
        rw [hw2, ← HA.out]
        exact G1.out.put hk H0.out r.1
      have B2 : Hid (Below g w w2) := by
        unfold Hid
        rw [hw2]
        exact Below.setCell (B := g) (p := ⟨g, k, none⟩) (B1.out.mono (by omega)) (Nat.le_refl g) _
      clear hw2
      go_wp2_with fail
      go_end0
      exact ⟨rfl, G2.out, B2.out⟩
    · have e1 : stepG k s r = (Jd.none_, r.2) := by unfold stepG; rw [if_neg (by simpa using h0), if_pos h1]
      rw [e1]
      obtain ⟨a, ha⟩ : ∃ a : ByteArray, ⟨r.1.toArray⟩ = a := ⟨_, rfl⟩
      obtain ⟨n, hn⟩ : ∃ n : Int, ((r.2 : Nat) : Int) = n := ⟨_, rfl⟩
      have hV : twoV r = .tuple #[.string a, .int .i64 n] := by unfold twoV; rw [ha, hn]
      rw [hV] at HK
      have hn0 : n ≠ 0 := by omega
      have hnB : (n != 0) = true := by simpa using hn0
      have HN := Lib.hid hn
      clear hV ha e1 h1 h0 hn
      go_enter Tryz.func84, Tryz.ntmps84
      go_wp2_with fail
      refine HK.out.mono ?_
      rintro e w1 ⟨rfl, b1⟩
      have B1 := Lib.hid b1
      have G1 : Hid (GB w1 g s) := Bk.below HG.out b1 hgl
      have d0 : w1.cell? ⟨g, 0, none⟩ = some (.string (btj s.1.1)) := G1.out.cell 0
      have d1 : w1.cell? ⟨g, 1, none⟩ = some (.string (btj s.1.2.1)) := G1.out.cell 1
      have d2 : w1.cell? ⟨g, 2, none⟩ = some (.string (btj s.1.2.2)) := G1.out.cell 2
      have d3 : w1.cell? ⟨g, 3, none⟩ = some (.int .i64 (s.2 : Nat)) := G1.out.cell 3
      have f0 : w1.frozen? ⟨g, 0, none⟩ = false := Bk.free G1.out 0
      have f1 : w1.frozen? ⟨g, 1, none⟩ = false := Bk.free G1.out 1
      have f2 : w1.frozen? ⟨g, 2, none⟩ = false := Bk.free G1.out 2
      have f3 : w1.frozen? ⟨g, 3, none⟩ = false := Bk.free G1.out 3
      clear b1
      go_wp2_with fail
      refine bodyPost_ret (results_none rfl _ _ _) rfl ?_
      refine ⟨rfl, ?_, ?_⟩
      · have h := ((((show Bk w1 g 100 (gatC s) from G1.out).put 0 (.string ⟨#[]⟩)).put 1 (.string ⟨#[]⟩)).put 2 (.string ⟨#[]⟩)).put 3 (.int .i64 n)
        have e : (((((gatC s).setIfInBounds 0 (.string ⟨#[]⟩)).setIfInBounds 1 (.string ⟨#[]⟩)).setIfInBounds 2 (.string ⟨#[]⟩)).setIfInBounds 3 (.int .i64 n)) = gatC (Jd.none_, r.2) := by
          unfold gatC
          rw [HN.out]
          rfl
        rw [e] at h
        exact h
      · exact (((Below.setCell (B := g) (p := ⟨g, 0, none⟩) (B1.out.mono (by omega)) (Nat.le_refl g) _).setCell (p := ⟨g, 1, none⟩) (Nat.le_refl _) _).setCell (p := ⟨g, 2, none⟩) (Nat.le_refl _) _).setCell (p := ⟨g, 3, none⟩) (Nat.le_refl _) _
  · have e1 : stepG k s r = s := by unfold stepG; rw [if_pos h0]
    rw [e1]
    obtain ⟨n, hn⟩ : ∃ n : Int, ((s.2 : Nat) : Int) = n := ⟨_, rfl⟩
    rw [hn] at c3
    have hn0 : n ≠ 0 := by omega
    have hnB : (n != 0) = true := by simpa using hn0
    clear e1 h0 hn HK HP
    go_enter Tryz.func84, Tryz.ntmps84
    go_wp2_with fail
    refine bodyPost_ret (results_none rfl _ _ _) rfl ?_
    exact ⟨rfl, HG.out, Below.refl _ _⟩
end Go.Proofs.YtogjhpcjjmcjfaaGreatDoor
