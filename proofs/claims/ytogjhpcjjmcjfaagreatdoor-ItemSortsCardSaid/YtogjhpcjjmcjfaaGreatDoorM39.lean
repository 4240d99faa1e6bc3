import Derived.Test.YtogjhpcjjmcjfaaGreatDoorM32
/- what is reached of it -/
namespace Go.Proofs.YtogjhpcjjmcjfaaGreatDoor
open Go.RowKit Tx Vc Ct
theorem cloneTZ_any (v : Value) (l : List (List UInt8)) (w : World) (B : Nat) (hR : ReadT B w v (sts l)) (hl : l.length ≤ 8796093022208) :
    Calls Tryz.prog 53 #[v] w fun e w' => ∃ A cap, e = .returned (.slice A l.length cap) ∧ OwnT w.heap.size w' (.slice A l.length cap) (sts l) ∧ Below w.heap.size w w' := by
  have hll : (sts l).length = l.length := List.length_map _
  have own_reads : ∀ (v' : Value) (w2 : World), w2.ownsRow w.heap.size 9 1 v' l.length ((sts l).map Value.string) → v' ≠ .slice none 0 0 → ∃ A cap, v' = .slice A l.length cap ∧ OwnT w.heap.size w2 v' (sts l) := fun v' w2 ho hne => by
    have ho2 : OwnT w.heap.size w2 v' (sts l) := by
      unfold OwnT strs
      rw [hll]
      exact ho
    obtain ⟨A, cap, hA⟩ := ho2.slice
    rw [hll] at hA
    exact ⟨A, cap, hA, ho2⟩
  by_cases h0 : 0 < l.length
  · obtain ⟨b, off, cap, hv, hb, hc⟩ := hR.flat (by omega)
    rw [hv]
    refine (Tryz.slices_Clone_string b off (sts l).length cap (sts l) w (Nat.le_refl _) (by omega) hc).mono ?_
    rintro e w2 ⟨v', rfl, ho, hne, hbl⟩
    rw [List.take_length, hll] at ho
    obtain ⟨A, cap2, rfl, hr⟩ := own_reads v' w2 ho hne
    exact ⟨A, cap2, rfl, hr, hbl⟩
  · have hl0 : l = [] := List.length_eq_zero_iff.1 (by omega)
    subst hl0
    obtain ⟨A, cap, hv, _⟩ := hR
    rw [hv]
    cases A with
    | none =>
      refine (Tryz.slices_Clone_string_nil 0 cap w).mono ?_
      rintro e w2 ⟨rfl, rfl⟩
      exact ⟨none, 0, rfl, OwnT.nil _ _, Below.refl _ _⟩
    | some a =>
      refine (Tryz.slices_Clone_string_zero a cap w).mono ?_
      rintro e w2 ⟨v', rfl, ho, hne, hbl⟩
      obtain ⟨A, cap2, rfl, hr⟩ := own_reads v' w2 ho hne
      exact ⟨A, cap2, rfl, hr, hbl⟩
set_option maxHeartbeats 2000000 in
theorem ownIZ_any (x : Itm) (gv : Value) (w : World) (hR : ReadT w.heap.size w gv (sts x.groups)) (hl : x.groups.length ≤ 8796093022208) :
    Calls Tryz.prog 30 #[agI x gv] w fun e w' => ∃ gv', e = .returned (agI x gv') ∧ OwnT w.heap.size w' gv' (sts x.groups) ∧ Below w.heap.size w w' := by
  obtain ⟨A, cap, hv, _⟩ := id hR
  obtain ⟨n, hnn⟩ : ∃ n, (sts x.groups).length = n := ⟨_, rfl⟩
  rw [hnn] at hv
  subst hv
  have hgl : x.groups.length = n := by rw [← hnn]; exact (List.length_map _).symm
  have hai : ∀ A cap, agI x (.slice A n cap) = .agg #[.string (bts x.jid), .string (bts x.name), .slice A n cap, .int .i64 x.sub, .bool x.ask, .bool x.app] := fun A cap => rfl
  have HAI := Lib.hid hai
  rw [two_cells]
  obtain ⟨J, hJ⟩ : ∃ J, bts x.jid = J := ⟨_, rfl⟩
  obtain ⟨N, hN⟩ : ∃ J, bts x.name = J := ⟨_, rfl⟩
  obtain ⟨s, hs2⟩ : ∃ J, x.sub = J := ⟨_, rfl⟩
  obtain ⟨ask, ha⟩ : ∃ J, x.ask = J := ⟨_, rfl⟩
  obtain ⟨app, hp⟩ : ∃ J, x.app = J := ⟨_, rfl⟩
  rw [hJ, hN, hs2, ha, hp] at HAI ⊢
  obtain ⟨W1, hW1⟩ : ∃ W1, w.alloc (.cells #[.string J, .string N, .slice A n cap, .int .i64 s, .bool ask, .bool app] 24) = W1 := ⟨_, rfl⟩
  obtain ⟨bx, hbx⟩ : ∃ bx, w.heap.size = bx := ⟨_, rfl⟩
  obtain ⟨W2, hW2⟩ : ∃ W2, W1.alloc (.cells #[.string ⟨#[]⟩, .string ⟨#[]⟩, .slice none 0 0, .int .i64 0, .bool false, .bool false] 24) = W2 := ⟨_, rfl⟩
  obtain ⟨rb, hrb1⟩ : ∃ r, bx + 1 = r := ⟨_, rfl⟩
  have hrb : W1.heap.size = rb := by rw [← hW1, World.size_alloc, hbx, hrb1]
  have k1 : Bk W1 bx 24 #[.string J, .string N, .slice A n cap, .int .i64 s, .bool ask, .bool app] := by rw [← hW1, ← hbx]; exact Bk.new _ _ _
  have K2 : Hid (Bk W2 bx 24 #[.string J, .string N, .slice A n cap, .int .i64 s, .bool ask, .bool app]) := by rw [← hW2]; exact k1.alloc _
  have R2 : Hid (Bk W2 rb 24 #[.string ⟨#[]⟩, .string ⟨#[]⟩, .slice none 0 0, .int .i64 0, .bool false, .bool false]) := by rw [← hW2, ← hrb]; exact Bk.new _ _ _
  have B2 : Hid (Below w.heap.size w W2) := by rw [← hW2, ← hW1]; exact ((Below.refl _ _).alloc (Nat.le_refl _) _).alloc (by rw [World.size_alloc]; omega) _
  have HNE : Hid (bx < rb ∧ w.heap.size ≤ bx) := by have := k1.lt; unfold Hid; omega
  have HC := Lib.hid (cloneTZ_any (.slice A n cap) x.groups W2 w.heap.size (hR.below B2.out) hl)
  rw [hgl] at HC
  have HW1 := Lib.hid hW1
  have HW2 := Lib.hid hW2
  have HBX := Lib.hid hbx
  have HRB := Lib.hid hrb1
  have c2 : W2.cell? ⟨bx, 2, none⟩ = some (.slice A n cap) := K2.out.cell 2
  obtain ⟨G, hG⟩ : ∃ G, x.groups = G := ⟨_, rfl⟩
  rw [hG] at HC ⊢
  have HAI2 : Hid (∀ A cap, agI x (.slice A n cap) = .agg #[.string J, .string N, .slice A n cap, .int .i64 s, .bool ask, .bool app]) := HAI
  clear hW1 hW2 hbx hrb hrb1 k1 hR hl hnn hgl hai hJ hN hs2 ha hp hG HAI
  go_enter Tryz.func30, Tryz.ntmps30
  go_upto_region 1 with fail
  (try rw [HW1.out])
  (try rw [HBX.out])
  (try rw [HRB.out])
  (try rw [HW2.out])
  go_wp2_with fail
  refine HC.out.mono ?_
  rintro e w3 ⟨A3, cap3, rfl, hr3, b3⟩
  have K3 := K2.out.below b3 K2.out.lt
  have R3 := R2.out.below b3 R2.out.lt
  have B3 : Hid (Below w.heap.size w w3) := B2.out.trans (b3.mono B2.out.size)
  have f2 : w3.frozen? ⟨bx, 2, none⟩ = false := K3.free 2
  have e2 : w3.cell? ⟨bx, 2, none⟩ = some (.slice A n cap) := K3.cell 2
  have K4 := Lib.hid (K3.put 2 (.slice A3 n cap3))
  have R4 := Lib.hid (R3.far (p := ⟨bx, 2, none⟩) (by have := HNE.out; show rb ≠ bx; omega) (.slice A3 n cap3))
  have B4 : Hid (Below w.heap.size w (w3.setCell ⟨bx, 2, none⟩ (.slice A3 n cap3))) := B3.out.setCell (p := ⟨bx, 2, none⟩) HNE.out.2 _
  have HR3 := Lib.hid hr3
  clear K3 R3 b3 hr3 c2
  go_upto_region 2 with fail
  have O4 : Hid (OwnT W2.heap.size (w3.setCell ⟨bx, 2, none⟩ (.slice A3 n cap3)) (.slice A3 n cap3) (sts G)) := HR3.out.set K2.out.lt
  obtain ⟨w4, hw4⟩ : ∃ z, w3.setCell ⟨bx, 2, none⟩ (.slice A3 n cap3) = z := ⟨_, rfl⟩
  rw [hw4] at K4 R4 B4 O4 ⊢
  have k5 : Bk w4 bx 24 #[.string J, .string N, .slice A3 n cap3, .int .i64 s, .bool ask, .bool app] := by simpa using K4.out
  have i0 : w4.cell? ⟨bx, 0, none⟩ = some (.string J) := k5.cell 0
  have i1 : w4.cell? ⟨bx, 1, none⟩ = some (.string N) := k5.cell 1
  have i2 : w4.cell? ⟨bx, 2, none⟩ = some (.slice A3 n cap3) := k5.cell 2
  have i3 : w4.cell? ⟨bx, 3, none⟩ = some (.int .i64 s) := k5.cell 3
  have i4 : w4.cell? ⟨bx, 4, none⟩ = some (.bool ask) := k5.cell 4
  have i5 : w4.cell? ⟨bx, 5, none⟩ = some (.bool app) := k5.cell 5
  have r0 : w4.cell? ⟨rb, 0, none⟩ = some (.string ⟨#[]⟩) := R4.out.cell 0
  have g0 : w4.frozen? ⟨rb, 0, none⟩ = false := R4.out.free 0
  have r1 : w4.cell? ⟨rb, 1, none⟩ = some (.string ⟨#[]⟩) := R4.out.cell 1
  have g1 : w4.frozen? ⟨rb, 1, none⟩ = false := R4.out.free 1
  have r2 : w4.cell? ⟨rb, 2, none⟩ = some (.slice none 0 0) := R4.out.cell 2
  have g2 : w4.frozen? ⟨rb, 2, none⟩ = false := R4.out.free 2
  have r3 : w4.cell? ⟨rb, 3, none⟩ = some (.int .i64 0) := R4.out.cell 3
  have g3 : w4.frozen? ⟨rb, 3, none⟩ = false := R4.out.free 3
  have r4 : w4.cell? ⟨rb, 4, none⟩ = some (.bool false) := R4.out.cell 4
  have g4 : w4.frozen? ⟨rb, 4, none⟩ = false := R4.out.free 4
  have r5 : w4.cell? ⟨rb, 5, none⟩ = some (.bool false) := R4.out.cell 5
  have g5 : w4.frozen? ⟨rb, 5, none⟩ = false := R4.out.free 5
  have hrb2 : rb < W2.heap.size := R2.out.lt
  have O5 : Hid (OwnT W2.heap.size (laid6 w4 rb (.string J) (.string N) (.slice A3 n cap3) (.int .i64 s) (.bool ask) (.bool app)) (.slice A3 n cap3) (sts G)) := (((((O4.out.set hrb2).set hrb2).set hrb2).set hrb2).set hrb2).set hrb2
  have R5 := Lib.hid (laid6_bk R4.out (.string J) (.string N) (.slice A3 n cap3) (.int .i64 s) (.bool ask) (.bool app))
  have B5 := Lib.hid (laid6_below B4.out (by have := HNE.out; omega : w.heap.size ≤ rb) (.string J) (.string N) (.slice A3 n cap3) (.int .i64 s) (.bool ask) (.bool app))
  obtain ⟨w5, hw5⟩ : ∃ z, laid6 w4 rb (.string J) (.string N) (.slice A3 n cap3) (.int .i64 s) (.bool ask) (.bool app) = z := ⟨_, rfl⟩
  rw [hw5] at O5 R5 B5
  clear hw4 k5 f2 e2 hrb2
  go_wp2_with fail
  have j0 : w5.cell? ⟨rb, 0, none⟩ = some (.string J) := R5.out.cell 0
  have j1 : w5.cell? ⟨rb, 1, none⟩ = some (.string N) := R5.out.cell 1
  have j2 : w5.cell? ⟨rb, 2, none⟩ = some (.slice A3 n cap3) := R5.out.cell 2
  have j3 : w5.cell? ⟨rb, 3, none⟩ = some (.int .i64 s) := R5.out.cell 3
  have j4 : w5.cell? ⟨rb, 4, none⟩ = some (.bool ask) := R5.out.cell 4
  have j5 : w5.cell? ⟨rb, 5, none⟩ = some (.bool app) := R5.out.cell 5
  refine bodyPost_ret (v := .agg #[.string J, .string N, .slice A3 n cap3, .int .i64 s, .bool ask, .bool app]) (by simp [results, Tryz.results30, go_sem, j0, j1, j2, j3, j4, j5]) rfl ?_
  exact ⟨.slice A3 n cap3, by rw [HAI2.out], O5.out.less B2.out.size, B5.out⟩
set_option maxHeartbeats 4000000 in
theorem findIZ_any (v : Value) (l : List (Itm × Slc)) (j : List UInt8) (w : World) (hR : ReadI w.heap.size w v l) (h0 : 0 < l.length) (hl : l.length ≤ 1000000) (hg : ∀ p ∈ l, p.1.groups.length ≤ 8796093022208) :
    Calls Tryz.prog 12 #[v, .string (bts j)] w fun e w' => FindV l j w e w' := by
  obtain ⟨A, cap, rfl, hA, hT⟩ := hR
  obtain ⟨b, off, rfl, hb, hc⟩ := hA h0
  obtain ⟨W1, hW1⟩ : ∃ W1, w.alloc (.cells #[.string (bts j)] 9) = W1 := ⟨_, rfl⟩
  obtain ⟨jb, hjb⟩ : ∃ bx, w.heap.size = bx := ⟨_, rfl⟩
  obtain ⟨W2, hW2⟩ : ∃ W2, W1.alloc (.cells #[.string ⟨#[]⟩, .string ⟨#[]⟩, .slice none 0 0, .int .i64 0, .bool false, .bool false] 24) = W2 := ⟨_, rfl⟩
  obtain ⟨rb, hrb1⟩ : ∃ r, jb + 1 = r := ⟨_, rfl⟩
  have hrb : W1.heap.size = rb := by rw [← hW1, World.size_alloc, hjb, hrb1]
  have k1 : Bk W1 jb 9 #[.string (bts j)] := by rw [← hW1, ← hjb]; exact Bk.new _ _ _
  have k2 : Bk W2 jb 9 #[.string (bts j)] := by rw [← hW2]; exact k1.alloc _
  have R2 : Hid (Bk W2 rb 24 #[.string ⟨#[]⟩, .string ⟨#[]⟩, .slice none 0 0, .int .i64 0, .bool false, .bool false]) := by rw [← hW2, ← hrb]; exact Bk.new _ _ _
  have B2 : Hid (Below w.heap.size w W2) := by rw [← hW2, ← hW1]; exact ((Below.refl _ _).alloc (Nat.le_refl _) _).alloc (by rw [World.size_alloc]; omega) _
  have HRW : Hid (w.heap.size ≤ rb) := by unfold Hid; omega
  have hI := AnyQ.slices_IndexFunc Tryz.idxItem 6 Tryz.isAgg24 Tryz.sizeOf24 (fun p : Itm × Slc => encI p.1 (sl p.2)) (fun _ => rfl) (fun p => decide (p.1.jid = j)) 29 #[.pointer (some ⟨jb, 0, none⟩)] (Go.Proofs.enters_of Tryz.func29 (by kernel_rfl) rfl) b off l.length cap l W2
    (fun W p hb2 => (isJid_any p.1 p.2 j jb W (by rw [hb2.cell (p := ⟨jb, 0, none⟩) k2.lt]; exact k2.cell 0) (Nat.lt_of_lt_of_le k2.lt hb2.size)).mono fun _ _ ⟨he, hw⟩ => ⟨he, hb2.trans (hw.mono hb2.size)⟩) (Nat.le_refl _) (by omega) (Nat.lt_of_lt_of_le hb B2.out.size)
    (fun i hi c u hu => by rw [B2.out.cell (p := ⟨b, off + i * 6 + c, none⟩) hb]; exact hc i _ (by rw [getElem!_pos l i hi]; exact List.getElem?_eq_getElem hi) c u hu)
  rw [List.take_length] at hI
  have hspec := idxByFrom_spec (fun (_ : Itm × Slc) y => decide (y.1.jid = j)) default l 0
  have HB := Lib.hid hb
  have HCC := Lib.hid hc
  have HTT := Lib.hid hT
  have HGG := Lib.hid hg
  have HW1 := Lib.hid hW1
  have HW2 := Lib.hid hW2
  have HJB := Lib.hid hjb
  have HRB := Lib.hid hrb1
  have hidx : Lib.idxBy (fun (_ : Itm × Slc) y => decide (y.1.jid = j)) l default = Lib.idxByFrom (fun (_ : Itm × Slc) y => decide (y.1.jid = j)) default l 0 := rfl
  rw [hidx] at hI
  clear hidx
  obtain ⟨Y, hY⟩ : ∃ J, bts j = J := ⟨_, rfl⟩
  rw [hY] at HW1 ⊢
  obtain ⟨len, hlen⟩ : ∃ n, l.length = n := ⟨_, rfl⟩
  rw [hlen] at hI h0 ⊢
  have HLEN := Lib.hid hlen
  have hlen9 : len ≤ 1000000 := by omega
  clear hb hc hT hg hA hW1 hW2 hjb hrb1 hrb k1 k2 hY hl
  rcases hspec with ⟨hm, hno⟩ | ⟨k, hk, hm, hyes, hbefore⟩
  · rw [hm] at hI
    have HI := Lib.hid hI
    have hnone : Hid (l.find? (fun p => decide (p.1.jid = j)) = none) := by
      unfold Hid
      rw [List.find?_eq_none]
      intro p hp
      obtain ⟨i, hi, rfl⟩ := List.getElem_of_mem hp
      have := hno i hi
      rw [getElem!_pos l i hi] at this
      simpa using this
    clear hm hno hI hlen
    go_enter Tryz.func12, Tryz.ntmps12
    go_upto_region 1 with fail
    (try rw [HW1.out])
    (try rw [HJB.out])
    (try rw [HRB.out])
    (try rw [HW2.out])
    go_wp2_with fail
    refine HI.out.mono ?_
    rintro e w3 ⟨rfl, b3⟩
    have B3 : Hid (Below w.heap.size w w3) := B2.out.trans (b3.mono B2.out.size)
    have R3 := Lib.hid (R2.out.below b3 R2.out.lt)
    clear b3
    have r0 : w3.cell? ⟨rb, 0, none⟩ = some (.string ⟨#[]⟩) := R3.out.cell 0
    have g0 : w3.frozen? ⟨rb, 0, none⟩ = false := R3.out.free 0
    have r1 : w3.cell? ⟨rb, 1, none⟩ = some (.string ⟨#[]⟩) := R3.out.cell 1
    have g1 : w3.frozen? ⟨rb, 1, none⟩ = false := R3.out.free 1
    have r2 : w3.cell? ⟨rb, 2, none⟩ = some (.slice none 0 0) := R3.out.cell 2
    have g2 : w3.frozen? ⟨rb, 2, none⟩ = false := R3.out.free 2
    have r3 : w3.cell? ⟨rb, 3, none⟩ = some (.int .i64 0) := R3.out.cell 3
    have g3 : w3.frozen? ⟨rb, 3, none⟩ = false := R3.out.free 3
    have r4 : w3.cell? ⟨rb, 4, none⟩ = some (.bool false) := R3.out.cell 4
    have g4 : w3.frozen? ⟨rb, 4, none⟩ = false := R3.out.free 4
    have r5 : w3.cell? ⟨rb, 5, none⟩ = some (.bool false) := R3.out.cell 5
    have g5 : w3.frozen? ⟨rb, 5, none⟩ = false := R3.out.free 5
    have R5 := Lib.hid (laid6_bk R3.out (.string ⟨#[]⟩) (.string ⟨#[]⟩) (.slice none 0 0) (.int .i64 0) (.bool false) (.bool false))
    have B5 := Lib.hid (laid6_below B3.out HRW.out (.string ⟨#[]⟩) (.string ⟨#[]⟩) (.slice none 0 0) (.int .i64 0) (.bool false) (.bool false))
    obtain ⟨w5, hw5⟩ : ∃ z, laid6 w3 rb (.string ⟨#[]⟩) (.string ⟨#[]⟩) (.slice none 0 0) (.int .i64 0) (.bool false) (.bool false) = z := ⟨_, rfl⟩
    rw [hw5] at R5 B5
    go_wp2_with fail
    have j0 : w5.cell? ⟨rb, 0, none⟩ = some (.string ⟨#[]⟩) := R5.out.cell 0
    have j1 : w5.cell? ⟨rb, 1, none⟩ = some (.string ⟨#[]⟩) := R5.out.cell 1
    have j2 : w5.cell? ⟨rb, 2, none⟩ = some (.slice none 0 0) := R5.out.cell 2
    have j3 : w5.cell? ⟨rb, 3, none⟩ = some (.int .i64 0) := R5.out.cell 3
    have j4 : w5.cell? ⟨rb, 4, none⟩ = some (.bool false) := R5.out.cell 4
    have j5 : w5.cell? ⟨rb, 5, none⟩ = some (.bool false) := R5.out.cell 5
    refine bodyPost_ret (v := .tuple #[.agg #[.string ⟨#[]⟩, .string ⟨#[]⟩, .slice none 0 0, .int .i64 0, .bool false, .bool false], .bool false]) (by simp [results, Tryz.results12, go_sem, j0, j1, j2, j3, j4, j5]) rfl ?_
    exact ⟨B5.out, .inl ⟨hnone.out, rfl⟩⟩
  · have hfind := Lib.hid (find_of hk hyes hbefore)
    have hget : l[k]? = some l[k]! := by rw [getElem!_pos l k hk]; exact List.getElem?_eq_getElem hk
    have hmem : l[k]! ∈ l := by rw [getElem!_pos l k hk]; exact List.getElem_mem hk
    rw [hm] at hI
    have hkl : k < len := by omega
    obtain ⟨p, hp⟩ : ∃ p, l[k]! = p := ⟨_, rfl⟩
    rw [hp] at hfind hget hmem
    obtain ⟨x, A0, n, cap0⟩ := p
    obtain ⟨P, hP⟩ : ∃ P, off + k * 6 = P := ⟨_, rfl⟩
    have HCL : Hid (∀ W, Below w.heap.size w W → ∀ c u, (encI x (.slice A0 n cap0))[c]? = some u → W.cell? ⟨b, P + c, none⟩ = some u) := fun W hW c u hu => by
      rw [hW.cell (p := ⟨b, P + c, none⟩) HB.out, ← hP]
      exact HCC.out k _ hget c u hu
    have HRT : Hid (ReadT w.heap.size w (.slice A0 n cap0) (sts x.groups)) := HTT.out _ hmem
    have HGL : Hid (x.groups.length ≤ 8796093022208) := HGG.out _ hmem
    rw [Nat.zero_add] at hI
    have HI := Lib.hid hI
    have hnn : n = x.groups.length := by
      obtain ⟨_, _, he, _⟩ := HRT.out
      injection he with _ h2 _
      rw [h2]
      exact List.length_map _
    have HNN := Lib.hid hnn
    have hp0 : (0 : Int) ≤ (k : Int) := by omega
    have hkz : (k : Int) < (len : Int) := by omega
    have hkn : ¬ (k : Int) < 0 := by omega
    clear hyes hbefore hm hI hlen hk hget hmem hp hnn
    go_enter Tryz.func12, Tryz.ntmps12
    go_upto_region 1 with fail
    (try rw [HW1.out])
    (try rw [HJB.out])
    (try rw [HRB.out])
    (try rw [HW2.out])
    go_wp2_with fail
    refine HI.out.mono ?_
    rintro e w3 ⟨rfl, b3⟩
    have B3 : Hid (Below w.heap.size w w3) := B2.out.trans (b3.mono B2.out.size)
    have R3 := Lib.hid (R2.out.below b3 R2.out.lt)
    have HO := Lib.hid (ownIZ_any x (.slice A0 n cap0) w3 ((HRT.out.below B3.out).more B3.out.size) HGL.out)
    rw [two_cells] at HO
    have p0 : w3.cell? ⟨b, P, none⟩ = some (.string (bts x.jid)) := HCL.out w3 B3.out 0 _ rfl
    have p1 : w3.cell? ⟨b, P + 1, none⟩ = some (.string (bts x.name)) := HCL.out w3 B3.out 1 _ rfl
    have p2 : w3.cell? ⟨b, P + 2, none⟩ = some (.slice A0 n cap0) := HCL.out w3 B3.out 2 _ rfl
    have p3 : w3.cell? ⟨b, P + 3, none⟩ = some (.int .i64 x.sub) := HCL.out w3 B3.out 3 _ rfl
    have p4 : w3.cell? ⟨b, P + 4, none⟩ = some (.bool x.ask) := HCL.out w3 B3.out 4 _ rfl
    have p5 : w3.cell? ⟨b, P + 5, none⟩ = some (.bool x.app) := HCL.out w3 B3.out 5 _ rfl
    have HX : Hid (∀ gv, agI x gv = .agg #[.string (bts x.jid), .string (bts x.name), gv, .int .i64 x.sub, .bool x.ask, .bool x.app]) := fun gv => rfl
    have HX2 : Hid (∀ gv, agI (x, A0, n, cap0).1 gv = .agg #[.string (bts x.jid), .string (bts x.name), gv, .int .i64 x.sub, .bool x.ask, .bool x.app]) := fun gv => rfl
    have HGX : Hid ((x, A0, n, cap0).1.groups = x.groups) := rfl
    obtain ⟨J, hJ⟩ : ∃ J, bts x.jid = J := ⟨_, rfl⟩
    obtain ⟨N, hN⟩ : ∃ J, bts x.name = J := ⟨_, rfl⟩
    obtain ⟨s, hs2⟩ : ∃ J, x.sub = J := ⟨_, rfl⟩
    obtain ⟨ask, ha⟩ : ∃ J, x.ask = J := ⟨_, rfl⟩
    obtain ⟨app, hp2⟩ : ∃ J, x.app = J := ⟨_, rfl⟩
    have HO2 : Hid (Calls Tryz.prog 30 #[.agg #[.string J, .string N, .slice A0 n cap0, .int .i64 s, .bool ask, .bool app]] w3 fun e w' => ∃ A3 cap3, e = .returned (.agg #[.string J, .string N, .slice A3 n cap3, .int .i64 s, .bool ask, .bool app]) ∧ OwnT w3.heap.size w' (.slice A3 n cap3) (sts x.groups) ∧ Below w3.heap.size w3 w') := by
      have h1 := HO.out
      rw [hJ, hN, hs2, ha, hp2] at h1
      refine h1.mono ?_
      rintro e w' ⟨gv', rfl, hr, hbw⟩
      obtain ⟨A3, cap3, rfl⟩ := hr.slice
      have e1 : (sts x.groups).length = n := by rw [HNN.out]; exact List.length_map _
      rw [e1] at hr ⊢
      exact ⟨A3, cap3, by rw [HX.out, hJ, hN, hs2, ha, hp2], hr, hbw⟩
    rw [hJ, hN, hs2, ha, hp2] at HX2
    rw [hJ] at p0
    rw [hN] at p1
    rw [hs2] at p3
    rw [ha] at p4
    rw [hp2] at p5
    clear b3 HO hJ hN hs2 ha hp2 HX
    go_wp2_with fail
    refine HO2.out.mono ?_
    rintro e w4 ⟨A3, cap3, rfl, hr4, b4⟩
    have B4 : Hid (Below w.heap.size w w4) := B3.out.trans (b4.mono B3.out.size)
    have R4 := Lib.hid (R3.out.below b4 R3.out.lt)
    have HR4 := Lib.hid hr4
    have hrb4 : rb < w3.heap.size := R3.out.lt
    have O5 : Hid (OwnT w3.heap.size (laid6 w4 rb (.string J) (.string N) (.slice A3 n cap3) (.int .i64 s) (.bool ask) (.bool app)) (.slice A3 n cap3) (sts x.groups)) := (((((HR4.out.set hrb4).set hrb4).set hrb4).set hrb4).set hrb4).set hrb4
    clear hrb4 hr4 b4
    have r0 : w4.cell? ⟨rb, 0, none⟩ = some (.string ⟨#[]⟩) := R4.out.cell 0
    have g0 : w4.frozen? ⟨rb, 0, none⟩ = false := R4.out.free 0
    have r1 : w4.cell? ⟨rb, 1, none⟩ = some (.string ⟨#[]⟩) := R4.out.cell 1
    have g1 : w4.frozen? ⟨rb, 1, none⟩ = false := R4.out.free 1
    have r2 : w4.cell? ⟨rb, 2, none⟩ = some (.slice none 0 0) := R4.out.cell 2
    have g2 : w4.frozen? ⟨rb, 2, none⟩ = false := R4.out.free 2
    have r3 : w4.cell? ⟨rb, 3, none⟩ = some (.int .i64 0) := R4.out.cell 3
    have g3 : w4.frozen? ⟨rb, 3, none⟩ = false := R4.out.free 3
    have r4 : w4.cell? ⟨rb, 4, none⟩ = some (.bool false) := R4.out.cell 4
    have g4 : w4.frozen? ⟨rb, 4, none⟩ = false := R4.out.free 4
    have r5 : w4.cell? ⟨rb, 5, none⟩ = some (.bool false) := R4.out.cell 5
    have g5 : w4.frozen? ⟨rb, 5, none⟩ = false := R4.out.free 5
    have R5 := Lib.hid (laid6_bk R4.out (.string J) (.string N) (.slice A3 n cap3) (.int .i64 s) (.bool ask) (.bool app))
    have B5 := Lib.hid (laid6_below B4.out HRW.out (.string J) (.string N) (.slice A3 n cap3) (.int .i64 s) (.bool ask) (.bool app))
    obtain ⟨w5, hw5⟩ : ∃ z, laid6 w4 rb (.string J) (.string N) (.slice A3 n cap3) (.int .i64 s) (.bool ask) (.bool app) = z := ⟨_, rfl⟩
    rw [hw5] at R5 B5 O5
    go_wp2_with fail
    have j0 : w5.cell? ⟨rb, 0, none⟩ = some (.string J) := R5.out.cell 0
    have j1 : w5.cell? ⟨rb, 1, none⟩ = some (.string N) := R5.out.cell 1
    have j2 : w5.cell? ⟨rb, 2, none⟩ = some (.slice A3 n cap3) := R5.out.cell 2
    have j3 : w5.cell? ⟨rb, 3, none⟩ = some (.int .i64 s) := R5.out.cell 3
    have j4 : w5.cell? ⟨rb, 4, none⟩ = some (.bool ask) := R5.out.cell 4
    have j5 : w5.cell? ⟨rb, 5, none⟩ = some (.bool app) := R5.out.cell 5
    refine bodyPost_ret (v := .tuple #[.agg #[.string J, .string N, .slice A3 n cap3, .int .i64 s, .bool ask, .bool app], .bool true]) (by simp [results, Tryz.results12, go_sem, j0, j1, j2, j3, j4, j5]) rfl ?_
    exact ⟨B5.out, .inr ⟨_, hfind.out, .slice A3 n cap3, by rw [HX2.out], O5.out.reads⟩⟩
end Go.Proofs.YtogjhpcjjmcjfaaGreatDoor
