/-
  cardexhelp.Digits: a number in tens.
-/
import Derived.Test.YtfjpignmjebloaaDoorEscLaws
import Derived.Deep.RegionWith
namespace Go.Proofs.YtfjpignmjebloaaDoor
open Go.RowKit Tx

/-- a number's digits in tens, at most so many -/
def digF : Nat → Nat → List UInt8
  | 0, v => [UInt8.ofNat (48 + v)]
  | f + 1, v => if v < 10 then [UInt8.ofNat (48 + v)] else digF f (v / 10) ++ [UInt8.ofNat (48 + v % 10)]
theorem digF_len : ∀ (f v : Nat), (digF f v).length ≤ f + 1
  | 0, v => by simp [digF]
  | f + 1, v => by
    unfold digF
    split
    · simp
    · have := digF_len f (v / 10)
      simp
      omega
theorem byteStr (x : Int) (W : World) (b : Nat) (h : W.cell? ⟨b, 0, none⟩ = some (.int .u8 x)) :
    (convert 41 9 (.slice (some ⟨b, 0, none⟩) 1 1)).run Tryd.prog W = .ok (.string ⟨#[UInt8.ofNat x.toNat]⟩) W := by
  rw [run_convert_bytes_string _ _ _ 5 _ _ _ Tryd.underlying41 Tryd.underlying5 Tryd.underlying9]
  have := run_bytesToString (P := Tryd.prog) W ⟨b, 0, none⟩ 1 1 [x] (by
    have h := run_loadCells_list (P := Tryd.prog) (w := W) ⟨b, 0, none⟩ [.int .u8 x] (by
      intro j v hj
      match j, hj with
      | 0, hj => simp at hj; subst hj; simpa [Addr.add] using h)
    exact h)
  rw [this]
  rfl
set_option maxHeartbeats 2000000 in
set_option maxRecDepth 100000 in
theorem digits_any : ∀ (f v : Nat) (w : World), f ≤ 10 → v < 10 ^ (f + 1) → v < 2000000 → Calls Tryd.prog 14 #[.int .i64 v] w fun e w' => e = .returned (.string ⟨(digF f v).toArray⟩) ∧ Below w.heap.size w w' := by
  intro f
  induction f with
  | zero =>
    intro v w _ hv _
    obtain ⟨z, hz⟩ : ∃ z : Int, (v : Int) = z := ⟨_, rfl⟩
    have hr : (⟨(digF 0 v).toArray⟩ : ByteArray) = ⟨#[UInt8.ofNat (48 + z).toNat]⟩ := by
      rw [show (48 + z).toNat = 48 + v by omega]; rfl
    have z0 : 0 ≤ z := by omega
    have z1 : z < 10 := by omega
    have hmx : max 0 z = z := by omega
    have hcv := byteStr (48 + z) (w.alloc (.cells #[.int .u8 (48 + z)] 5)) w.heap.size (by rw [(Bk.new w _ _).cell]; rfl)
    rw [hz, hr]
    clear hz hv hr
    go_enter Tryd.func14, Tryd.ntmps14
    go_wp2_with fail
    go_ret
    exact ⟨rfl, (Below.refl _ _).alloc (Nat.le_refl _) _⟩
  | succ f ih =>
    intro v w hf hv hv2
    by_cases h10 : v < 10
    · have hd : digF (f + 1) v = [UInt8.ofNat (48 + v)] := if_pos h10
      rw [hd]
      obtain ⟨z, hz⟩ : ∃ z : Int, (v : Int) = z := ⟨_, rfl⟩
      have hr : (⟨([UInt8.ofNat (48 + v)]).toArray⟩ : ByteArray) = ⟨#[UInt8.ofNat (48 + z).toNat]⟩ := by
        rw [show (48 + z).toNat = 48 + v by omega]
      have z0 : 0 ≤ z := by omega
      have z1 : z < 10 := by omega
      have hmx : max 0 z = z := by omega
      have hcv := byteStr (48 + z) (w.alloc (.cells #[.int .u8 (48 + z)] 5)) w.heap.size (by rw [(Bk.new w _ _).cell]; rfl)
      rw [hz, hr]
      clear hz hv hr hd hv2 h10
      go_enter Tryd.func14, Tryd.ntmps14
      go_wp2_with fail
      go_ret
      exact ⟨rfl, (Below.refl _ _).alloc (Nat.le_refl _) _⟩
    · have hd : digF (f + 1) v = digF f (v / 10) ++ [UInt8.ofNat (48 + v % 10)] := if_neg h10
      have hq : v / 10 < 10 ^ (f + 1) := by
        rw [Nat.div_lt_iff_lt_mul (by omega), ← Nat.pow_succ]
        exact hv
      have hih := fun (W : World) => ih (v / 10) W (by omega) hq (by omega)
      obtain ⟨D, hD⟩ : ∃ D : ByteArray, ⟨(digF f (v / 10)).toArray⟩ = D := ⟨_, rfl⟩
      have hDl : D.data.toList = digF f (v / 10) := by rw [← hD]
      have hDs : D.size ≤ 20 := by rw [Lib.size_eq, hDl]; have := digF_len f (v / 10); omega
      rw [hD] at hih
      obtain ⟨z, hz⟩ : ∃ z : Int, (v : Int) = z := ⟨_, rfl⟩
      have z0 : 10 ≤ z := by omega
      have z1 : z < 2000000 := by omega
      have hr : (⟨(digF (f + 1) v).toArray⟩ : ByteArray) = D ++ ⟨#[UInt8.ofNat (48 + z % 10).toNat]⟩ := by
        rw [hd]
        symm
        refine bytes_of ?_
        rw [cat_list, hDl, show (48 + z % 10).toNat = 48 + v % 10 by omega]
      rw [show ((v / 10 : Nat) : Int) = z / 10 by omega] at hih
      rw [hz, hr]
      have HIH := Lib.hid hih
      have q1 : IntKind.i64.wrap (z.tdiv 10) = z / 10 := by
        rw [Int.tdiv_eq_ediv_of_nonneg (by omega), IntKind.wrap_i64]; omega
      have q2 : IntKind.u8.wrap (IntKind.i64.wrap (48 + z.tmod 10)) = 48 + z % 10 := by
        rw [Int.tmod_eq_emod_of_nonneg (by omega), IntKind.wrap_i64, IntKind.wrap_u8]; omega
      obtain ⟨X, hX⟩ : ∃ X : Int, 48 + z % 10 = X := ⟨_, rfl⟩
      obtain ⟨Q, hQ⟩ : ∃ Q : Int, z / 10 = Q := ⟨_, rfl⟩
      rw [hX] at q2 ⊢
      rw [hQ] at q1
      rw [hQ] at HIH
      have HC : ∀ W : World, (W.alloc (.cells #[.int .u8 X] 5)).cell? ⟨W.heap.size, 0, none⟩ = some (.int .u8 X) := fun W => by rw [(Bk.new W _ _).cell]; rfl
      have hc1 := fun (W : World) => byteStr X (W.alloc (.cells #[.int .u8 X] 5)) W.heap.size (HC W)
      have hc3 := byteStr X (w.alloc (.cells #[.int .u8 X] 5)).drew w.heap.size (HC w)
      clear hz hv hr hd hv2 h10 hq hih hD hDl
      go_enter Tryd.func14, Tryd.ntmps14
      go_wp2_with fail
      go_region_with ((go_at_call 14; refine (HIH.out _).mono ?_; rintro e w2 ⟨rfl, b2⟩; try have hc2 := byteStr X w2 w.heap.size (by rw [b2.cell (p := ⟨w.heap.size, 0, none⟩) (by simp)]; exact HC _)))
      all_goals
        have hw : Below w.heap.size w w2 := by
          first
            | exact (Below.refl _ w).drew.trans b2
            | exact (((Below.refl _ w).drew).alloc (Nat.le_refl _) _).trans (b2.mono (by simp))
            | exact (((Below.refl _ w).alloc (Nat.le_refl _) _).drew).trans (b2.mono (by simp))
        go_wp2_with fail
        go_ret
        first
          | exact ⟨rfl, hw⟩
          | exact ⟨rfl, hw.alloc hw.size _⟩
          | exact ⟨rfl, hw.drew⟩
          | exact ⟨rfl, (hw.alloc hw.size _).drew⟩
end Go.Proofs.YtfjpignmjebloaaDoor
