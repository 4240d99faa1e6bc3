/-
  THE LAW FoldRefuses: it answers true, whatever it is handed.
-/
import Derived.Test.YtjdpdkghfbaddaaDoorFoL1
import Derived.Test.YtjdpdkghfbaddaaDoorUint
namespace Go.Proofs.YtjdpdkghfbaddaaDoor
open Go.RowKit Tx

/-! ### a row of bytes, filled place by place -/
def fil (z : Int) (n k : Nat) : List Value := List.replicate k (.int .u8 z) ++ List.replicate (n - k) (.int .u8 0)
theorem fil_zero (z : Int) (n : Nat) : fil z n 0 = List.replicate n (.int .u8 0) := by simp [fil]
theorem fil_set {z : Int} {n k : Nat} (h : k < n) : (fil z n k).set k (.int .u8 z) = fil z n (k + 1) := by
  unfold fil
  have e : n - k = (n - (k + 1)) + 1 := by omega
  rw [List.set_append_right _ _ (by simp), e, List.replicate_succ, List.length_replicate, Nat.sub_self, List.set_cons_zero, List.replicate_succ' (n := k)]
  simp
theorem fil_full (z : Int) (n : Nat) : fil z n n = List.replicate n (.int .u8 z) := by simp [fil]
theorem fil_get {z : Int} {n k : Nat} (h : k < n) : ∃ y : Int, (fil z n k)[k]? = some (.int .u8 y) := by
  unfold fil
  refine ⟨0, ?_⟩
  rw [List.getElem?_append_right (by simp), List.length_replicate, Nat.sub_self]
  exact List.getElem?_replicate_of_lt (by omega)
theorem infoU8 : (Tryd.prog.info? 5).map (fun i => (i.zero, i.size, i.bytes)) = some (some (.int .u8 0), 1, 1) := by kernel_rfl
/-- bytes that the call has made, whole: read, and written -/
def OwnB (B : Nat) (w : World) (g n : Nat) (xs : List Value) : Prop := w.ownsRow B 5 1 (.slice (some ⟨g, 0, none⟩) n n) n xs
theorem OwnB.at {B : Nat} {w : World} {g n j : Nat} {xs : List Value} {u : Value} (h : OwnB B w g n xs) (hu : xs[j]? = some u) : w.cell? ⟨g, j, none⟩ = some u ∧ w.frozen? ⟨g, j, none⟩ = false ∧ B ≤ g ∧ g < w.heap.size := by
  have h' : w.ownsRow B 5 1 (.slice (some ⟨g, 0, none⟩) n n) n xs := h
  have hl := World.ownsRow.lt h' g rfl
  have hn : xs.length = n := by have := h'.1; omega
  exact ⟨by rw [h'.cellAt j (by have := (List.getElem?_eq_some_iff.1 hu).1; omega)]; exact hu, h'.frozenAt j, hl.1, hl.2⟩
theorem OwnB.put {B : Nat} {w : World} {g n : Nat} {xs : List Value} (h : OwnB B w g n xs) (j : Nat) (u : Value) : OwnB B (w.setCell ⟨g, j, none⟩ u) g n (xs.set j u) := by
  have h' : w.ownsRow B 5 1 (.slice (some ⟨g, 0, none⟩) n n) n xs := h
  exact (h'.stored j u).1
theorem made_list (z : Int) (n : Nat) : (madeCells #[.int .u8 z] (n * 1)).toList = List.replicate n (.int .u8 z) := by rw [Nat.mul_one, toList_madeCells_one]

/-! ### the texts that are refused -/
def badL : List ByteArray := [⟨#[97]⟩, ⟨#[97, 10]⟩, ⟨#[97, 13]⟩, ⟨#[97, 13, 98, 13, 10]⟩, ⟨#[32, 97, 13, 10]⟩, ⟨#[9, 97, 13, 10]⟩, ⟨#[97, 13, 10, 98]⟩, ⟨#[10, 13, 10]⟩, ⟨#[97, 13, 13, 10]⟩]
def badV : List ByteArray := [⟨#[92]⟩, ⟨#[92, 120]⟩, ⟨#[97, 92]⟩, ⟨#[92, 92, 92]⟩, ⟨#[92, 116]⟩]
theorem badL_none (b : ByteArray) (h : b ∈ badL) : unfA b.data.toList = ([], 17) ∧ b.size ≤ 20 := by
  have H : ∀ b ∈ badL, unfA b.data.toList = ([], 17) ∧ b.size ≤ 20 := by decide +kernel
  exact H b h
theorem badV_none (b : ByteArray) (h : b ∈ badV) : plain b.data.toList = none ∧ b.size ≤ 20 := by
  have H : ∀ b ∈ badV, plain b.data.toList = none ∧ b.size ≤ 20 := by decide +kernel
  exact H b h
theorem badL_at (w : World) (k : Nat) (b : ByteArray) (h : badL[k]? = some b) : (w.alloc (.cells #[.string ⟨#[97]⟩, .string ⟨#[97, 10]⟩, .string ⟨#[97, 13]⟩, .string ⟨#[97, 13, 98, 13, 10]⟩, .string ⟨#[32, 97, 13, 10]⟩, .string ⟨#[9, 97, 13, 10]⟩, .string ⟨#[97, 13, 10, 98]⟩, .string ⟨#[10, 13, 10]⟩, .string ⟨#[97, 13, 13, 10]⟩] 9)).cell? ⟨w.heap.size, k, none⟩ = some (.string b) := by
  rw [(Bk.new w _ _).cell]
  match k, h with
  | 0, hb => cases hb; rfl
  | 1, hb => cases hb; rfl
  | 2, hb => cases hb; rfl
  | 3, hb => cases hb; rfl
  | 4, hb => cases hb; rfl
  | 5, hb => cases hb; rfl
  | 6, hb => cases hb; rfl
  | 7, hb => cases hb; rfl
  | 8, hb => cases hb; rfl
  | k + 9, hb => simp [badL] at hb
theorem badV_at (w : World) (k : Nat) (b : ByteArray) (h : badV[k]? = some b) : (w.alloc (.cells #[.string ⟨#[92]⟩, .string ⟨#[92, 120]⟩, .string ⟨#[97, 92]⟩, .string ⟨#[92, 92, 92]⟩, .string ⟨#[92, 116]⟩] 9)).cell? ⟨w.heap.size, k, none⟩ = some (.string b) := by
  rw [(Bk.new w _ _).cell]
  match k, h with
  | 0, hb => cases hb; rfl
  | 1, hb => cases hb; rfl
  | 2, hb => cases hb; rfl
  | 3, hb => cases hb; rfl
  | 4, hb => cases hb; rfl
  | k + 5, hb => simp [badV] at hb
theorem valid_rep (c : UInt8) (h : valid [c] = true) : ∀ n : Nat, valid (List.replicate n c) = true
  | 0 => valid_some ch_nil
  | n + 1 => (valid_append (a := [c]) h (valid_rep c h n)).1
/-- a long line with its end -/
def longT (m : Nat) : List UInt8 := List.replicate m 97 ++ [13, 10]
theorem longT_unf (m : Nat) (hm : 1 ≤ m) : unfA (longT m) = if 20000 < m + 2 then ([], 4) else ([List.replicate m 97], 0) := by
  have hl : (longT m).length = m + 2 := by simp [longT]
  by_cases h : 20000 < m + 2
  · rw [if_pos h]; exact unfA_big (by rw [hl]; exact h)
  · rw [if_neg h]
    refine unfA_ok (by rw [hl]; exact h) ?_ ?_
    · exact (valid_append (valid_rep 97 (by decide +kernel) m) (by decide +kernel)).1
    · have hc : clean (List.replicate m 97) := fun c hc => by
        rw [List.eq_of_mem_replicate hc]
        decide
      unfold Tx.unfold longT
      have : List.replicate m (97 : UInt8) ++ [13, 10] = ends [List.replicate m 97] := by rw [ends_cons, ends_nil]
      rw [this, rowsA_ends _ (fun r hr => by rw [List.mem_singleton] at hr; subst hr; exact hc)]
      obtain ⟨k, rfl⟩ : ∃ k, m = k + 1 := ⟨m - 1, by omega⟩
      exact linesA_new [] [] (by rw [List.replicate_succ]; rfl)
theorem longT_cells (m : Nat) : (((List.replicate (m + 2) (Value.int .u8 97)).set m (.int .u8 13)).set (m + 1) (.int .u8 10)) = (longT m).map fun c : UInt8 => Value.int .u8 (c.toNat : Int) := by
  have e : List.replicate (m + 2) (Value.int .u8 97) = List.replicate m (.int .u8 97) ++ [.int .u8 97, .int .u8 97] := by
    rw [← List.replicate_append_replicate]
    rfl
  rw [e, List.set_append_right _ _ (by simp), List.length_replicate, Nat.sub_self, List.set_append_right _ _ (by simp), List.length_replicate, Nat.add_sub_cancel_left]
  unfold longT
  rw [List.map_append, List.map_replicate]
  rfl

set_option maxHeartbeats 4000000 in
set_option maxRecDepth 100000 in
theorem foldRefuses_any (what n0 : Int) (w : World) (hO : Okw w) : Calls Tryd.prog 6 #[.int .i64 what, .int .i64 n0] w (Holds w) := by
  have HA := Lib.hid (fun (W : World) h => awake_any W h)
  have HOK := Lib.hid (fun (W : World) (h : Below w.heap.size w W) => hO.below h)
  obtain ⟨p, hp, hp2⟩ := uintMod what 9 (by omega) (by omega)
  obtain ⟨q, hq, hq2⟩ := uintMod what 5 (by omega) (by omega)
  obtain ⟨m, hm, hm2⟩ := uintMod n0 6 (by omega) (by omega)
  obtain ⟨L, hL⟩ : ∃ L, badL[p]? = some L := ⟨_, List.getElem?_eq_getElem (by show p < 9; omega)⟩
  obtain ⟨V, hV⟩ : ∃ V, badV[q]? = some V := ⟨_, List.getElem?_eq_getElem (by show q < 5; omega)⟩
  obtain ⟨l1, l2⟩ := badL_none L (List.mem_of_getElem? hL)
  obtain ⟨k1, k2⟩ := badV_none V (List.mem_of_getElem? hV)
  have hcl := fun (W : World) => badL_at W p L hL
  have hcv := fun (W : World) => badV_at W q V hV
  have HU := Lib.hid (fun (W : World) h1 h2 => unfold_any L W h1 h2 (by omega))
  have hP := fun (W : World) h => plain_fold V W h (by omega)
  rw [plainV_none k1] at hP
  have HP := Lib.hid hP
  have HL1 := Lib.hid l1
  have HCL := Lib.hid hcl
  have HCV := Lib.hid hcv
  obtain ⟨M, hM⟩ : ∃ M, 19995 + m = M := ⟨_, rfl⟩
  have hMi : (19997 : Int) + (m : Int) = (M : Int) + 2 := by omega
  have hM2 : M ≤ 20001 := by omega
  have hM1 : 1 ≤ M := by omega
  have HLg := Lib.hid (longT_unf M hM1)
  have HU2 := Lib.hid (fun (W : World) h1 h2 => unfold_any ⟨(longT M).toArray⟩ W h1 h2 (by rw [Lib.size_eq]; show (longT M).length < _; unfold longT; rw [List.length_append, List.length_replicate]; simp; omega))
  obtain ⟨i0, hi, hz0, hz1, hz2⟩ := info_parts infoU8
  have HMk := Lib.hid (fun (W : World) => run_make_full (P := Tryd.prog) W W.heap.size 36 5 i0 _ 1 Tryd.underlying36 hi hz0 hz1 .i64 .i64 (M + 2) (by rw [hz2]; omega) (by unfold maxLen; omega) (Nat.le_refl _))
  have HBs := Lib.hid (fun (W : World) (g o cap n : Nat) (p : List UInt8) h1 h2 => bytesStr (P := Tryd.prog) Tryd.underlying36 Tryd.underlying5 Tryd.underlying9 W g o cap n p h1 h2)
  clear hL hV l1 k1 hP hO hcl hcv hM
  have c0 := HCL.out w
  go_enter Tryd.func6, Tryd.ntmps6
  go_wp2_with fail
  have b0 : Below w.heap.size w (w.alloc (.cells #[.string ⟨#[97]⟩, .string ⟨#[97, 10]⟩, .string ⟨#[97, 13]⟩, .string ⟨#[97, 13, 98, 13, 10]⟩, .string ⟨#[32, 97, 13, 10]⟩, .string ⟨#[9, 97, 13, 10]⟩, .string ⟨#[97, 13, 10, 98]⟩, .string ⟨#[10, 13, 10]⟩, .string ⟨#[97, 13, 13, 10]⟩] 9)) := (Below.refl _ _).alloc (Nat.le_refl _) _
  refine (HU.out _ (HOK.out _ b0).1 (HOK.out _ b0).2).mono ?_
  rintro e w1 ⟨v1, rfl, -, b1⟩
  rw [HL1.out]
  have c1 : Below w.heap.size w w1 := b0.trans (b1.mono b0.size)
  have d0 := HCV.out w1
  clear b0 b1 c0
  go_wp2_with fail
  have b2 : Below w.heap.size w (w1.alloc (.cells #[.string ⟨#[92]⟩, .string ⟨#[92, 120]⟩, .string ⟨#[97, 92]⟩, .string ⟨#[92, 92, 92]⟩, .string ⟨#[92, 116]⟩] 9)) := c1.alloc c1.size _
  refine (HP.out _ (HOK.out _ b2).2).mono ?_
  rintro e w2 ⟨rfl, b2'⟩
  have c2 : Below w.heap.size w w2 := b2.trans (b2'.mono b2.size)
  clear b2 b2' d0
  obtain ⟨w3, hmk, hown0, hgr⟩ := HMk.out w2
  have hz2' := c2.size
  have c3 : Below w2.heap.size w2 w3 := (Below.refl _ _).grown hgr (Nat.le_refl _) (fun k hk => by cases hk)
  obtain ⟨g, hg⟩ : ∃ g, w2.heap.size = g := ⟨_, rfl⟩
  rw [hg] at hmk hown0 c3
  rw [show ((M + 2 : Nat) : Int) = (M : Int) + 2 by omega] at hmk
  have ho0 : Hid (OwnB g w3 g (M + 2) (fil 97 (M + 2) 0)) := by
    unfold Hid OwnB
    rw [fil_zero, ← made_list]
    exact hown0
  clear hown0 hgr
  go_wp2_with fail
  go_loopw [49] (fun at_ wr => ∃ (k : Nat), k ≤ M + 2 ∧ at_ = .int .i64 k ∧ Hid (OwnB g wr g (M + 2) (fil 97 (M + 2) k)) ∧ Below g w2 wr) (fun at_ _ => M + 2 - (intOf at_).toNat)
  case atStart => exact ⟨0, Nat.zero_le _, rfl, ho0, c3⟩
  case round =>
    obtain ⟨k, hk, rfl, hown, hb⟩ := hrel
    by_cases hlt : k < M + 2
    · obtain ⟨y, hy⟩ := fil_get (z := 97) hlt
      obtain ⟨k0, k1, _, k3⟩ := hown.out.at hy
      have hn := Lib.hid (hown.out.put k (.int .u8 97))
      rw [fil_set hlt] at hn
      clear hy
      go_wp2_with fail
      go_roundw
      case rel => exact ⟨k + 1, by omega, by go_num, hn, hb.setCell (p := ⟨g, k, none⟩) (Nat.le_refl _) _⟩
      case measure => simp [intOf]; omega
    · obtain rfl : k = M + 2 := by omega
      have ho := hown.out
      rw [fil_full] at ho
      obtain ⟨k0, k1, _, k3⟩ := ho.at (j := M) (u := .int .u8 97) (by rw [List.getElem?_replicate_of_lt (by omega)])
      obtain ⟨j0, j1, _, _⟩ := ho.at (j := M + 1) (u := .int .u8 97) (by rw [List.getElem?_replicate_of_lt (by omega)])
      have hp2 := Lib.hid ((ho.put M (.int .u8 13)).put (M + 1) (.int .u8 10))
      rw [longT_cells] at hp2
      have hcvx := HBs.out ((wr.setCell ⟨g, M, none⟩ (.int .u8 13)).setCell ⟨g, M + 1, none⟩ (.int .u8 10)) g 0 (M + 2) (M + 2) (longT M) (by simp [longT]) (fun j c hc => by
        rw [Nat.zero_add]
        exact (hp2.out.at (j := j) (by rw [List.getElem?_map, hc]; rfl)).1)
      have hb2 : Hid (Below g w2 ((wr.setCell ⟨g, M, none⟩ (.int .u8 13)).setCell ⟨g, M + 1, none⟩ (.int .u8 10))) := (hb.setCell (p := ⟨g, M, none⟩) (Nat.le_refl _) _).setCell (p := ⟨g, M + 1, none⟩) (Nat.le_refl _) _
      obtain ⟨T, hT⟩ : ∃ T : ByteArray, ⟨(longT M).toArray⟩ = T := ⟨_, rfl⟩
      have hTl : Hid (T.data.toList = longT M) := by unfold Hid; rw [← hT]
      have hU2 := HU2.out
      rw [hT] at hcvx hU2
      have HU3 := Lib.hid hU2
      clear ho hT hU2
      go_wp2_with fail
      have c4 : Below w.heap.size w ((wr.setCell ⟨g, M, none⟩ (.int .u8 13)).setCell ⟨g, M + 1, none⟩ (.int .u8 10)) := c2.trans (hb2.out.mono (by omega))
      refine (HU3.out _ (HOK.out _ c4).1 (HOK.out _ c4).2).mono ?_
      rintro e w5 ⟨v5, rfl, -, b5⟩
      have c5 : Below w.heap.size w w5 := c4.trans (b5.mono c4.size)
      rw [HLg.out]
      clear b5 c4
      by_cases hbig : 20000 < M + 2
      · rw [if_pos hbig]
        go_wp2_with fail
        refine (HA.out w5 (HOK.out w5 c5)).mono ?_
        rintro e w6 ⟨rfl, b6⟩
        go_wp2_with fail
        go_ret
        exact ⟨rfl, c5.trans (b6.mono c5.size)⟩
      · rw [if_neg hbig]
        go_wp2_with fail
        refine (HA.out w5 (HOK.out w5 c5)).mono ?_
        rintro e w6 ⟨rfl, b6⟩
        go_wp2_with fail
        go_ret
        exact ⟨rfl, c5.trans (b6.mono c5.size)⟩
end Go.Proofs.YtjdpdkghfbaddaaDoor
