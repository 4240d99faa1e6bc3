/-
  PrepWays: the walk.
-/
import Derived.Test.YtpelkkokkclclaaDoorPrL3
namespace Go.Proofs.YtpelkkokkclclaaDoor
open Go.RowKit Rg Tx

theorem uintRem (c : Int) (k : Int) (hk : 0 < k) : ∃ n : Nat, (IntKind.u64.wrap c).tmod k = (n : Int) ∧ (n : Int) < k := by
  have e : IntKind.u64.wrap c = c % 18446744073709551616 := by simp [IntKind.wrap, IntKind.bits, IntKind.signed]
  have h0 : 0 ≤ IntKind.u64.wrap c := by rw [e]; exact Int.emod_nonneg _ (by decide)
  rw [Int.tmod_eq_emod_of_nonneg h0]
  have h1 := Int.emod_nonneg (IntKind.u64.wrap c) (show k ≠ 0 by omega)
  have h2 := Int.emod_lt_of_pos (IntKind.u64.wrap c) hk
  exact ⟨(IntKind.u64.wrap c % k).toNat, by omega, by omega⟩
theorem right_get {r : Nat} (h : r < 4) : (#[.int .i32 1488, .int .i32 1489, .int .i32 1576, .int .i32 64290] : Array Value)[r]? = some (.int .i32 (([1488, 1489, 1576, 64290] : List Nat).getD r 0 : Nat)) := by
  rcases (show r = 0 ∨ r = 1 ∨ r = 2 ∨ r = 3 by omega) with rfl | rfl | rfl | rfl <;> simp
theorem ways_parts {N a t : Nat} {X : ByteArray} (hX : X.data.toList = flat (waysL N a t)) (hN : N < 7) (ha : a < N) (ht : t < 3) {k : Nat} (hk : k = 1 ∨ k = 2 ∨ k = 3) : ∃ A : ByteArray, prepV k X.data.toList = .tuple #[.string A, .int .i64 (waysE N a t : Nat)] := by
  rw [hX]
  refine ⟨⟨(Pr.prepL k (flat (waysL N a t))).1.toArray⟩, ?_⟩
  rw [← ways_prep hN ha ht hk]
  rfl
/-- from the string on -/
def WaysEnd (w W : World) (X : ByteArray) (E : Int) : Prop := (∀ W', Below w.heap.size w W' → ∃ A, Calls Tryd.prog 9 #[.string X] W' fun e w' => e = .returned (.tuple #[.string A, .int .i64 E]) ∧ Below W'.heap.size W' w') ∧
  (∀ W', Below w.heap.size w W' → ∃ A, Calls Tryd.prog 11 #[.string X] W' fun e w' => e = .returned (.tuple #[.string A, .int .i64 E]) ∧ Below W'.heap.size W' w') ∧
  (∀ W', Below w.heap.size w W' → ∃ A, Calls Tryd.prog 13 #[.string X] W' fun e w' => e = .returned (.tuple #[.string A, .int .i64 E]) ∧ Below W'.heap.size W' w') ∧ Below w.heap.size w W
theorem flat_four : ∀ x : List Nat, (flat x).length ≤ 4 * x.length := flat_len
theorem ways_end {N a t : Nat} {X : ByteArray} {w W : World} (hT : Tabs w) (hX : X.data.toList = flat (waysL N a t)) (hN : N < 7) (ha : a < N) (ht : t < 3) (hb : Below w.heap.size w W) : WaysEnd w W X (waysE N a t : Nat) := by
  have hs : X.size ≤ 28 := by
    rw [Lib.size_eq, hX]
    have h1 := flat_len (waysL N a t)
    rw [ways_len] at h1
    omega
  obtain ⟨A1, h1⟩ := ways_parts hX hN ha ht (k := 1) (.inl rfl)
  obtain ⟨A2, h2⟩ := ways_parts hX hN ha ht (k := 2) (.inr (.inl rfl))
  obtain ⟨A3, h3⟩ := ways_parts hX hN ha ht (k := 3) (.inr (.inr rfl))
  refine ⟨fun W' h => ⟨A1, ?_⟩, fun W' h => ⟨A2, ?_⟩, fun W' h => ⟨A3, ?_⟩, hb⟩
  · rw [← h1]; exact node_any X W' (hT.below h) (by omega)
  · rw [← h2]; exact host_any X W' (hT.below h) (by omega)
  · rw [← h3]; exact resource_any X W' (hT.below h) (by omega)

set_option maxRecDepth 100000 in
set_option maxHeartbeats 8000000 in
theorem prepWays_any (n a t : Int) (w : World) (hT : Tabs w) : Calls Tryd.prog 6 #[.int .i64 n, .int .i64 a, .int .i64 t] w (Holds w) := by
  obtain ⟨i0, hi, hz0, hz1, hz2⟩ := info_parts infoRune
  have HA := Lib.hid (fun W (h : Below w.heap.size w W) => awake_any W (hT.below h))
  obtain ⟨m, hm, hm2⟩ := uintMod n 6 (by omega) (by omega)
  obtain ⟨N, hN⟩ : ∃ N : Nat, N = m + 1 := ⟨_, rfl⟩
  have hn : wrap64 ((IntKind.u64.wrap n).tmod 6) = (N : Int) - 1 := by rw [hm, hN]; push_cast; omega
  have hN0 : 1 ≤ N := by omega
  have hN7 : N < 7 := by omega
  obtain ⟨A, hA, hAN⟩ := uintMod' a N (by omega) (by omega)
  obtain ⟨T, hT0, hT3⟩ := uintRem t 3 (by omega)
  have hu := small_u64 N (by omega)
  obtain ⟨TI, hTI⟩ : ∃ TI : Int, (T : Int) = TI := ⟨_, rfl⟩
  rw [hTI] at hT0 hT3
  have HTI := Lib.hid hTI
  have hmk := run_make (P := Tryd.prog) (w.alloc (.cells #[.int .i32 1488, .int .i32 1489, .int .i32 1576, .int .i32 64290] 21)) 29 21 i0 _ Tryd.underlying29 hi hz0 .i64 .i64 (N : Int) (N : Int) (by omega) (by omega) (by rw [hz2]; omega) (by omega)
  rw [Int.toNat_natCast, hz1, made_zero N hN7, World.size_alloc] at hmk
  obtain ⟨w2, hw2⟩ : ∃ w2, (w.alloc (.cells #[.int .i32 1488, .int .i32 1489, .int .i32 1576, .int .i32 64290] 21)).alloc (.cells (rn (rowW N 0)) 21) = w2 := ⟨_, rfl⟩
  have hb2 : Below w.heap.size w w2 := by rw [← hw2]; exact ((Below.refl _ w).alloc (Nat.le_refl _) _).alloc (by simp) _
  have hk0 : Bk w2 w.heap.size 21 #[.int .i32 1488, .int .i32 1489, .int .i32 1576, .int .i32 64290] := by rw [← hw2]; exact (Bk.new w _ _).alloc _
  have hk1 : Bk w2 (w.heap.size + 1) 21 (rn (rowW N 0)) := by rw [← hw2]; exact Bk.new1 w _ _ _
  rw [hw2] at hmk
  have HB2 := Lib.hid hb2
  have HK0 := Lib.hid hk0
  have HK1 := Lib.hid hk1
  have e1 : (1 : Int) + ((N : Int) - 1) = (N : Int) := by omega
  have e2 : wrap64 (1 + ((N : Int) - 1)) = (N : Int) := by unfold wrap64; omega
  have HT := Lib.hid hT
  clear hi hz0 hz1 hz2 hm hm2 hN hw2 hb2 hk0 hk1 hT hTI
  go_enter Tryd.func6, Tryd.ntmps6
  go_wp2_with fail
  go_loopw [28] (fun i wr => ∃ k : Nat, k ≤ N ∧ i = .int .i64 k ∧ Below w.heap.size w wr ∧ Hid (Bk wr w.heap.size 21 #[.int .i32 1488, .int .i32 1489, .int .i32 1576, .int .i32 64290]) ∧ Hid (Bk wr (w.heap.size + 1) 21 (rn (rowW N k)))) (fun i _ => N - (intOf i).toNat)
  case atStart => exact ⟨0, Nat.zero_le _, rfl, HB2.out, HK0, HK1⟩
  case round =>
    obtain ⟨k, hk, rfl, bw, K0, K1⟩ := hrel
    by_cases hlt : k < N
    · obtain ⟨r, hr, hr4⟩ : ∃ r : Nat, k % 4 = r ∧ r < 4 := ⟨_, rfl, by omega⟩
      have hr1 : (k : Int).tmod 4 = (r : Int) := by rw [Int.tmod_eq_emod_of_nonneg (by omega)]; omega
      have hr2 : wrap64 ((k : Int).tmod 4) = (r : Int) := by rw [hr1]; unfold wrap64; omega
      obtain ⟨x, hx⟩ : ∃ x : Int, ((rightC k : Nat) : Int) = x := ⟨_, rfl⟩
      have d0 : wr.cell? ⟨w.heap.size, r, none⟩ = some (.int .i32 x) := by
        rw [K0.out.cell, ← hx]
        unfold rightC
        rw [hr]
        exact right_get hr4
      have c0 := K1.out.cell k
      have f0 := K1.out.free k
      rw [rn_get (by rw [rowW_len]; exact hlt)] at c0
      obtain ⟨y, hy⟩ : ∃ y : Int, (((rowW N k).getD k 0 : Nat) : Int) = y := ⟨_, rfl⟩
      rw [hy] at c0
      have hset := rn_set (rowW N k) k (rightC k)
      rw [rowW_next hlt, hx] at hset
      have HSET := Lib.hid hset
      have P0 := Lib.hid (fun u => K0.out.far (p := ⟨w.heap.size + 1, k, none⟩) (by simp) u)
      have P1 := Lib.hid (fun u => K1.out.put k u)
      have BW := Lib.hid (fun u => bw.setCell (p := ⟨w.heap.size + 1, k, none⟩) (by simp) u)
      clear hy hset hr hx hmk hn hA hT0 hu e1 e2 hN0
      go_wp2_with fail
      go_roundw
      case rel => exact ⟨k + 1, hlt, by go_num, BW.out _, P0.out _, by unfold Hid; rw [← HSET.out]; exact P1.out _⟩
      case measure => simp [intOf]; omega
    · have hke : k = N := by omega
      have c0 := K1.out.cell A
      have f0 := K1.out.free A
      rw [hke, rn_get (by rw [rowW_len]; exact hAN)] at c0
      obtain ⟨y, hy⟩ : ∃ y : Int, (((rowW N N).getD A 0 : Nat) : Int) = y := ⟨_, rfl⟩
      rw [hy] at c0
      obtain ⟨KN, hKN⟩ : ∃ KN, KN = k := ⟨_, rfl⟩
      have HCV := Lib.hid (fun (W : World) (xs : List Nat) (h : xs.length = N) (hb : Bk W (w.heap.size + 1) 21 (rn xs)) => runesStr (P := Tryd.prog) Tryd.underlying29 Tryd.underlying21 Tryd.underlying9 W (w.heap.size + 1) N N xs h hb)
      have HEND := Lib.hid (fun (T : Nat) (X : ByteArray) (W : World) (hX : X.data.toList = flat (waysL N A T)) (ht : T < 3) (hb : Below w.heap.size w W) => ways_end HT.out hX hN7 hAN ht hb)
      have hNz : ((N : Int) == 0) = false := by simp; omega
      have k2 := K1.out
      rw [hke] at k2
      have K2 := Lib.hid k2
      clear k2
      have hTI := HTI.out
      rcases (show (T = 0 ∧ TI = 0) ∨ (T = 1 ∧ TI = 1) ∨ (T = 2 ∧ TI = 2) by omega) with ⟨rfl, rfl⟩ | ⟨rfl, rfl⟩ | ⟨rfl, rfl⟩
      · obtain ⟨X, hX1, hX2⟩ := HCV.out wr (rowW N N) (rowW_len N N) K2.out
        have BW := bw
        have hE := Lib.hid (HEND.out 0 X wr (by rw [hX2]; rfl) (by omega) BW)
        have hwe : ((waysE N A 0 : Nat) : Int) = 0 := by
          have : waysE N A 0 = 0 := by
            unfold waysE
            simp
          rw [this]
          rfl
        rw [hwe] at hE
        clear hke hX2 hy hKN hmk hn e1 e2 hwe hTI
        go_wp2_with fail
        obtain ⟨A1, n1⟩ := hE.out.1 wr BW
        refine n1.mono ?_
        rintro e w1 ⟨rfl, b1⟩
        have B1 := BW.trans (b1.mono BW.size)
        clear b1 n1
        go_wp2_with fail
        obtain ⟨A2, n2⟩ := hE.out.2.1 w1 B1
        refine n2.mono ?_
        rintro e w2' ⟨rfl, b2⟩
        have B2 := B1.trans (b2.mono B1.size)
        clear b2 n2
        go_wp2_with fail
        obtain ⟨A3, n3⟩ := hE.out.2.2.1 w2' B2
        refine n3.mono ?_
        rintro e w3 ⟨rfl, b3⟩
        have B3 := B2.trans (b3.mono B2.size)
        clear b3 n3
        go_wp2_with fail
        refine (HA.out w3 B3).mono ?_
        rintro e w4 ⟨rfl, b4⟩
        have B4 := B3.trans (b4.mono B3.size)
        clear b4
        go_wp2_with fail
        go_ret
        exact ⟨rfl, B4⟩
      · by_cases h1 : N = 1
        · obtain ⟨W1, hW1⟩ : ∃ W1, wr.setCell ⟨w.heap.size + 1, A, none⟩ (.int .i32 97) = W1 := ⟨_, rfl⟩
          have BW : Below w.heap.size w W1 := by rw [← hW1]; exact bw.setCell (p := ⟨w.heap.size + 1, A, none⟩) (by simp) _
          have K3 : Bk W1 (w.heap.size + 1) 21 (rn ((rowW N N).set A 97)) := by
            have h := K2.out.put A (.int .i32 ((97 : Nat) : Int))
            rw [rn_set] at h
            rw [← hW1]
            exact h
          obtain ⟨X, hX1, hX2⟩ := HCV.out W1 ((rowW N N).set A 97) (by rw [List.length_set]; exact rowW_len N N) K3
          have hE := Lib.hid (HEND.out 1 X W1 (by rw [hX2]; rfl) (by omega) BW)
          have hwe : ((waysE N A 1 : Nat) : Int) = 0 := by
            have : waysE N A 1 = 0 := by
              unfold waysE
              rw [if_pos rfl, if_pos h1]
            rw [this]
            rfl
          rw [hwe] at hE
          have g1 : ((N : Int) == 1) = true := by simp; omega
          clear h1
          clear hke hX2 hy hKN hmk hn e1 e2 hwe hTI K3
          go_wp2_with fail
          obtain ⟨A1, n1⟩ := hE.out.1 W1 BW
          refine n1.mono ?_
          rintro e w1 ⟨rfl, b1⟩
          have B1 := BW.trans (b1.mono BW.size)
          clear b1 n1
          go_wp2_with fail
          obtain ⟨A2, n2⟩ := hE.out.2.1 w1 B1
          refine n2.mono ?_
          rintro e w2' ⟨rfl, b2⟩
          have B2 := B1.trans (b2.mono B1.size)
          clear b2 n2
          go_wp2_with fail
          obtain ⟨A3, n3⟩ := hE.out.2.2.1 w2' B2
          refine n3.mono ?_
          rintro e w3 ⟨rfl, b3⟩
          have B3 := B2.trans (b3.mono B2.size)
          clear b3 n3
          go_wp2_with fail
          refine (HA.out w3 B3).mono ?_
          rintro e w4 ⟨rfl, b4⟩
          have B4 := B3.trans (b4.mono B3.size)
          clear b4
          go_wp2_with fail
          go_ret
          exact ⟨rfl, B4⟩
        · obtain ⟨W1, hW1⟩ : ∃ W1, wr.setCell ⟨w.heap.size + 1, A, none⟩ (.int .i32 97) = W1 := ⟨_, rfl⟩
          have BW : Below w.heap.size w W1 := by rw [← hW1]; exact bw.setCell (p := ⟨w.heap.size + 1, A, none⟩) (by simp) _
          have K3 : Bk W1 (w.heap.size + 1) 21 (rn ((rowW N N).set A 97)) := by
            have h := K2.out.put A (.int .i32 ((97 : Nat) : Int))
            rw [rn_set] at h
            rw [← hW1]
            exact h
          obtain ⟨X, hX1, hX2⟩ := HCV.out W1 ((rowW N N).set A 97) (by rw [List.length_set]; exact rowW_len N N) K3
          have hE := Lib.hid (HEND.out 1 X W1 (by rw [hX2]; rfl) (by omega) BW)
          have hwe : ((waysE N A 1 : Nat) : Int) = 16 := by
            have : waysE N A 1 = 16 := by
              unfold waysE
              rw [if_pos rfl, if_neg h1]
            rw [this]
            rfl
          rw [hwe] at hE
          have g1 : ((N : Int) == 1) = false := by simp; omega
          clear h1
          clear hke hX2 hy hKN hmk hn e1 e2 hwe hTI K3
          go_wp2_with fail
          obtain ⟨A1, n1⟩ := hE.out.1 W1 BW
          refine n1.mono ?_
          rintro e w1 ⟨rfl, b1⟩
          have B1 := BW.trans (b1.mono BW.size)
          clear b1 n1
          go_wp2_with fail
          obtain ⟨A2, n2⟩ := hE.out.2.1 w1 B1
          refine n2.mono ?_
          rintro e w2' ⟨rfl, b2⟩
          have B2 := B1.trans (b2.mono B1.size)
          clear b2 n2
          go_wp2_with fail
          obtain ⟨A3, n3⟩ := hE.out.2.2.1 w2' B2
          refine n3.mono ?_
          rintro e w3 ⟨rfl, b3⟩
          have B3 := B2.trans (b3.mono B2.size)
          clear b3 n3
          go_wp2_with fail
          refine (HA.out w3 B3).mono ?_
          rintro e w4 ⟨rfl, b4⟩
          have B4 := B3.trans (b4.mono B3.size)
          clear b4
          go_wp2_with fail
          go_ret
          exact ⟨rfl, B4⟩
      · by_cases h1 : N = 1
        · have h0 : A = 0 := by omega
          obtain ⟨W1, hW1⟩ : ∃ W1, wr.setCell ⟨w.heap.size + 1, A, none⟩ (.int .i32 55) = W1 := ⟨_, rfl⟩
          have BW : Below w.heap.size w W1 := by rw [← hW1]; exact bw.setCell (p := ⟨w.heap.size + 1, A, none⟩) (by simp) _
          have K3 : Bk W1 (w.heap.size + 1) 21 (rn ((rowW N N).set A 55)) := by
            have h := K2.out.put A (.int .i32 ((55 : Nat) : Int))
            rw [rn_set] at h
            rw [← hW1]
            exact h
          obtain ⟨X, hX1, hX2⟩ := HCV.out W1 ((rowW N N).set A 55) (by rw [List.length_set]; exact rowW_len N N) K3
          have hE := Lib.hid (HEND.out 2 X W1 (by rw [hX2]; rfl) (by omega) BW)
          have hwe : ((waysE N A 2 : Nat) : Int) = 0 := by
            have : waysE N A 2 = 0 := by
              unfold waysE
              rw [if_neg (by decide), if_pos rfl, if_pos h1]
            rw [this]
            rfl
          rw [hwe] at hE
          have g1 : ((N : Int) == 1) = true := by simp; omega
          have g2 : ((A : Int) == 0) = true := by simp; omega
          clear h1 h0
          clear hke hX2 hy hKN hmk hn e1 e2 hwe hTI K3
          go_wp2_with fail
          obtain ⟨A1, n1⟩ := hE.out.1 W1 BW
          refine n1.mono ?_
          rintro e w1 ⟨rfl, b1⟩
          have B1 := BW.trans (b1.mono BW.size)
          clear b1 n1
          go_wp2_with fail
          obtain ⟨A2, n2⟩ := hE.out.2.1 w1 B1
          refine n2.mono ?_
          rintro e w2' ⟨rfl, b2⟩
          have B2 := B1.trans (b2.mono B1.size)
          clear b2 n2
          go_wp2_with fail
          obtain ⟨A3, n3⟩ := hE.out.2.2.1 w2' B2
          refine n3.mono ?_
          rintro e w3 ⟨rfl, b3⟩
          have B3 := B2.trans (b3.mono B2.size)
          clear b3 n3
          go_wp2_with fail
          refine (HA.out w3 B3).mono ?_
          rintro e w4 ⟨rfl, b4⟩
          have B4 := B3.trans (b4.mono B3.size)
          clear b4
          go_wp2_with fail
          go_ret
          exact ⟨rfl, B4⟩
        · by_cases h0 : A = 0
          · obtain ⟨W1, hW1⟩ : ∃ W1, wr.setCell ⟨w.heap.size + 1, A, none⟩ (.int .i32 55) = W1 := ⟨_, rfl⟩
            have BW : Below w.heap.size w W1 := by rw [← hW1]; exact bw.setCell (p := ⟨w.heap.size + 1, A, none⟩) (by simp) _
            have K3 : Bk W1 (w.heap.size + 1) 21 (rn ((rowW N N).set A 55)) := by
              have h := K2.out.put A (.int .i32 ((55 : Nat) : Int))
              rw [rn_set] at h
              rw [← hW1]
              exact h
            obtain ⟨X, hX1, hX2⟩ := HCV.out W1 ((rowW N N).set A 55) (by rw [List.length_set]; exact rowW_len N N) K3
            have hE := Lib.hid (HEND.out 2 X W1 (by rw [hX2]; rfl) (by omega) BW)
            have hwe : ((waysE N A 2 : Nat) : Int) = 16 := by
              have : waysE N A 2 = 16 := by
                unfold waysE
                rw [if_neg (by decide), if_pos rfl, if_neg h1, if_pos (.inl h0)]
              rw [this]
              rfl
            rw [hwe] at hE
            have g1 : ((N : Int) == 1) = false := by simp; omega
            have g2 : ((A : Int) == 0) = true := by simp; omega
            clear h1 h0
            clear hke hX2 hy hKN hmk hn e1 e2 hwe hTI K3
            go_wp2_with fail
            obtain ⟨A1, n1⟩ := hE.out.1 W1 BW
            refine n1.mono ?_
            rintro e w1 ⟨rfl, b1⟩
            have B1 := BW.trans (b1.mono BW.size)
            clear b1 n1
            go_wp2_with fail
            obtain ⟨A2, n2⟩ := hE.out.2.1 w1 B1
            refine n2.mono ?_
            rintro e w2' ⟨rfl, b2⟩
            have B2 := B1.trans (b2.mono B1.size)
            clear b2 n2
            go_wp2_with fail
            obtain ⟨A3, n3⟩ := hE.out.2.2.1 w2' B2
            refine n3.mono ?_
            rintro e w3 ⟨rfl, b3⟩
            have B3 := B2.trans (b3.mono B2.size)
            clear b3 n3
            go_wp2_with fail
            refine (HA.out w3 B3).mono ?_
            rintro e w4 ⟨rfl, b4⟩
            have B4 := B3.trans (b4.mono B3.size)
            clear b4
            go_wp2_with fail
            go_ret
            exact ⟨rfl, B4⟩
          · by_cases h2 : A = N - 1
            · obtain ⟨W1, hW1⟩ : ∃ W1, wr.setCell ⟨w.heap.size + 1, A, none⟩ (.int .i32 55) = W1 := ⟨_, rfl⟩
              have BW : Below w.heap.size w W1 := by rw [← hW1]; exact bw.setCell (p := ⟨w.heap.size + 1, A, none⟩) (by simp) _
              have K3 : Bk W1 (w.heap.size + 1) 21 (rn ((rowW N N).set A 55)) := by
                have h := K2.out.put A (.int .i32 ((55 : Nat) : Int))
                rw [rn_set] at h
                rw [← hW1]
                exact h
              obtain ⟨X, hX1, hX2⟩ := HCV.out W1 ((rowW N N).set A 55) (by rw [List.length_set]; exact rowW_len N N) K3
              have hE := Lib.hid (HEND.out 2 X W1 (by rw [hX2]; rfl) (by omega) BW)
              have hwe : ((waysE N A 2 : Nat) : Int) = 16 := by
                have : waysE N A 2 = 16 := by
                  unfold waysE
                  rw [if_neg (by decide), if_pos rfl, if_neg h1, if_pos (.inr h2)]
                rw [this]
                rfl
              rw [hwe] at hE
              have g1 : ((N : Int) == 1) = false := by simp; omega
              have g2 : ((A : Int) == 0) = false := by simp; omega
              have g3 : ((A : Int) == (N : Int) - 1) = true := by simp; omega
              clear h1 h0 h2
              clear hke hX2 hy hKN hmk hn e1 e2 hwe hTI K3
              go_wp2_with fail
              obtain ⟨A1, n1⟩ := hE.out.1 W1 BW
              refine n1.mono ?_
              rintro e w1 ⟨rfl, b1⟩
              have B1 := BW.trans (b1.mono BW.size)
              clear b1 n1
              go_wp2_with fail
              obtain ⟨A2, n2⟩ := hE.out.2.1 w1 B1
              refine n2.mono ?_
              rintro e w2' ⟨rfl, b2⟩
              have B2 := B1.trans (b2.mono B1.size)
              clear b2 n2
              go_wp2_with fail
              obtain ⟨A3, n3⟩ := hE.out.2.2.1 w2' B2
              refine n3.mono ?_
              rintro e w3 ⟨rfl, b3⟩
              have B3 := B2.trans (b3.mono B2.size)
              clear b3 n3
              go_wp2_with fail
              refine (HA.out w3 B3).mono ?_
              rintro e w4 ⟨rfl, b4⟩
              have B4 := B3.trans (b4.mono B3.size)
              clear b4
              go_wp2_with fail
              go_ret
              exact ⟨rfl, B4⟩
            · obtain ⟨W1, hW1⟩ : ∃ W1, wr.setCell ⟨w.heap.size + 1, A, none⟩ (.int .i32 55) = W1 := ⟨_, rfl⟩
              have BW : Below w.heap.size w W1 := by rw [← hW1]; exact bw.setCell (p := ⟨w.heap.size + 1, A, none⟩) (by simp) _
              have K3 : Bk W1 (w.heap.size + 1) 21 (rn ((rowW N N).set A 55)) := by
                have h := K2.out.put A (.int .i32 ((55 : Nat) : Int))
                rw [rn_set] at h
                rw [← hW1]
                exact h
              obtain ⟨X, hX1, hX2⟩ := HCV.out W1 ((rowW N N).set A 55) (by rw [List.length_set]; exact rowW_len N N) K3
              have hE := Lib.hid (HEND.out 2 X W1 (by rw [hX2]; rfl) (by omega) BW)
              have hwe : ((waysE N A 2 : Nat) : Int) = 0 := by
                have : waysE N A 2 = 0 := by
                  unfold waysE
                  rw [if_neg (by decide), if_pos rfl, if_neg h1, if_neg (by omega)]
                rw [this]
                rfl
              rw [hwe] at hE
              have g1 : ((N : Int) == 1) = false := by simp; omega
              have g2 : ((A : Int) == 0) = false := by simp; omega
              have g3 : ((A : Int) == (N : Int) - 1) = false := by simp; omega
              clear h1 h0 h2
              clear hke hX2 hy hKN hmk hn e1 e2 hwe hTI K3
              go_wp2_with fail
              obtain ⟨A1, n1⟩ := hE.out.1 W1 BW
              refine n1.mono ?_
              rintro e w1 ⟨rfl, b1⟩
              have B1 := BW.trans (b1.mono BW.size)
              clear b1 n1
              go_wp2_with fail
              obtain ⟨A2, n2⟩ := hE.out.2.1 w1 B1
              refine n2.mono ?_
              rintro e w2' ⟨rfl, b2⟩
              have B2 := B1.trans (b2.mono B1.size)
              clear b2 n2
              go_wp2_with fail
              obtain ⟨A3, n3⟩ := hE.out.2.2.1 w2' B2
              refine n3.mono ?_
              rintro e w3 ⟨rfl, b3⟩
              have B3 := B2.trans (b3.mono B2.size)
              clear b3 n3
              go_wp2_with fail
              refine (HA.out w3 B3).mono ?_
              rintro e w4 ⟨rfl, b4⟩
              have B4 := B3.trans (b4.mono B3.size)
              clear b4
              go_wp2_with fail
              go_ret
              exact ⟨rfl, B4⟩
end Go.Proofs.YtpelkkokkclclaaDoor
