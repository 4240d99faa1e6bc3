/-
  package token: all attributes that stand here.
-/
import Derived.Test.YtbkfmbkamocllaaGreatDoorTkV
namespace Go.Proofs.YtbkfmbkamocllaaGreatDoor
open Go.RowKit Tk

theorem OwnA.far {B : Nat} {w : World} {v : Value} {l : List Att} (h : OwnA B w v l) {g : Nat} {t : TypeId} {cs : Array Value} (hb : Bk w g t cs) (ht : t ≠ 45) : some g ≠ v.ownBlock := by
  have h' : w.ownsRow B 45 2 v l.length (ats l) := h
  rcases h'.2 with ⟨rfl, h0⟩ | ⟨g', cap, cur, rfl, hg, hh, h1, h2, h3, h4⟩
  · intro e; cases e
  · intro e
    injection e with e
    subst e
    exact hb.type_ne (show Bk w g _ _ from hh) ht rfl
theorem TX.lo {ty : TypeId} {w : World} {T : Nat} {s : ByteArray} {r : List UInt8} (h : TX ty w T s r) : ∃ cs, Bk w T ty cs := by
  obtain ⟨k, _, _, h⟩ := h
  exact ⟨_, h⟩

theorem Bk.one {w : World} {g : Nat} {t : TypeId} {a : Value} (h : Bk w g t #[a]) (u : Value) : Bk (w.setCell ⟨g, 0, none⟩ u) g t #[u] := by
  have := Bk.put h 0 u
  simpa using this
theorem nextA_len {al : List Att} {l r : List UInt8} {a : Att} (h : nextA al l = some (a, r)) : r.length < l.length := shrinksA al l a r h
set_option maxHeartbeats 4000000 in
set_option maxRecDepth 100000 in
theorem throughA_any (T Bt G : Nat) (s : ByteArray) (r : List UInt8) (w : World) (h : TX 58 w T s r) (hs : s.size ≤ 100000000) (hE : Env T w) (hTG : T < G) (hBG : Bt < G)
    (hB : Bk w Bt 56 #[.pointer (some ⟨T, 0, none⟩)]) (hG : Bk w G 143 #[.slice none 0 0]) :
    Calls Tryz.prog 91 #[.pointer (some ⟨G, 0, none⟩), .pointer (some ⟨T, 0, none⟩), .func (.func 92) #[] #[.pointer (some ⟨Bt, 0, none⟩), .pointer (some ⟨G, 0, none⟩)]] w fun e w' =>
      e = .returned (.tuple #[]) ∧ ∃ v, Bk w' G 143 #[v] ∧ OwnA (G + 1) w' v (many nextA [] r).1 ∧ TX 58 w' T s (many nextA [] r).2 ∧ Tn T G w w' := by
  have eg : ∀ args w, (callFunc 92 args).run Tryz.prog w = .ok (.enter 92 args) w := Go.Proofs.enters_of Tryz.func92 (by kernel_rfl) rfl
  have HTX := Lib.hid h
  have HENV := Lib.hid hE
  have HB := Lib.hid hB
  have HG := Lib.hid hG
  have hBT : Bt ≠ T := by obtain ⟨cs, hc⟩ := h.lo; exact hB.type_ne hc (by decide)
  have HPL := Lib.hid (fun (j : Nat) (W : World) (h : Bk W T 58 #[.string s, .int .i64 j]) => place_of h)
  obtain ⟨M, hM⟩ : ∃ M, many nextA [] r = M := ⟨_, rfl⟩
  rw [hM]
  have HM := Lib.hid hM
  clear h hE hB hG hM
  go_enter Tryz.func91, Tryz.ntmps91
  go_wp2_with fail
  go_loopw [] (fun wr => ∃ (al : List Att) (l : List UInt8) (v : Value), Hid (M = many nextA al l) ∧ Hid (Bk wr G 143 #[v]) ∧ Hid (OwnA (G + 1) wr v al) ∧ Hid (TX 58 wr T s l) ∧ Hid (Tn T G w wr) ∧ Hid (Bk wr Bt 56 #[.pointer (some ⟨T, 0, none⟩)]) ∧ Hid (al.length + l.length ≤ s.size)) (fun wr => s.size - placeOf T wr)
  case atStart => exact ⟨[], r, _, HM.out.symm, HG.out, OwnA.nil _ _, HTX.out, Tn.refl _ _ _, HB.out, by unfold Hid; have := HTX.out.len; simpa using this⟩
  case round =>
    obtain ⟨al, l, v, hm, hg, ho, htx, htn, hbt, hlen⟩ := hrel
    obtain ⟨A, cap, rfl⟩ := ho.out.slice
    have hx := htx
    obtain ⟨k, hk, hlk, hbk, hkl⟩ := hx.out.at
    have hpl := Lib.hid (HPL.out k wr hbk)
    have c1 : wr.cell? ⟨T, 1, none⟩ = some (.int .i64 k) := hbk.cell 1
    have hgs : G < wr.heap.size := hg.out.lt
    have HER : Hid (Env T wr) := Base.tn HENV.out htn.out (by omega)
    have HNX := Lib.hid (nextA_any T Bt G s l (.slice A al.length cap) al wr htx.out hs HER.out hbt.out hg.out ho.out.row (by have := hlen.out; omega))
    have HLK := Lib.hid hlk
    have HBK := Lib.hid hbk
    have HKL := Lib.hid hkl
    have ZG := Lib.hid hgs
    clear hlk hbk hkl hgs
    go_wp2_with fail
    refine HNX.out.mono ?_
    rintro e w1 ⟨o1, n1⟩
    have N1 := Lib.hid n1
    have G1 := Lib.hid (n1.bk hg.out hg.out.lt (by omega))
    have hown1 := Lib.hid (ho.out.tn n1 (by omega))
    have K1 := Lib.hid (n1.bk hbt.out hbt.out.lt hBT)
    have z1 : Hid (wr.heap.size ≤ w1.heap.size) := n1.size
    clear n1
    cases ha : nextA al l with
    | none =>
      rw [ha] at o1
      obtain ⟨u, y, r1, rfl, t1⟩ := o1
      have T1 := Lib.hid t1
      have HMS : Hid (M = (al, l)) := by unfold Hid; rw [hm.out]; exact many_stop ha
      obtain ⟨W2, hW2⟩ : ∃ W2, w1.alloc (.cells #[.string u, .string y] 45) = W2 := ⟨_, rfl⟩
      have T2 : Hid (TX 58 W2 T s r1) := by rw [← hW2]; exact t1.alloc _
      have G2 : Hid (Bk W2 G 143 #[.slice A al.length cap]) := by rw [← hW2]; exact G1.out.alloc _
      have O2 : Hid (OwnA (G + 1) W2 (.slice A al.length cap) al) := by rw [← hW2]; exact hown1.out.below ((Below.refl _ _).alloc (Nat.le_refl _) _)
      have N2 : Hid (Tn T G w W2) := by rw [← hW2]; exact (htn.out.then N1.out (by have := ZG.out; omega)).alloc (by have := ZG.out; have := z1.out; omega) _
      obtain ⟨j, _, _, hb2, _⟩ := T2.out.at
      have d1 : W2.cell? ⟨T, 1, none⟩ = some (.int .i64 j) := hb2.cell 1
      have f1 : W2.frozen? ⟨T, 1, none⟩ = false := hb2.free 1
      have TB2 := Lib.hid hb2
      clear t1 ha hb2
      go_wp2_with fail
      refine bodyPost_ret (results_none rfl _ _ _) rfl ?_
      refine ⟨rfl, .slice A al.length cap, ?_, ?_, ?_, ?_⟩
      · exact G2.out.far (p := ⟨T, 1, none⟩) (by show G ≠ T; omega) _
      · rw [HMS.out]
        exact O2.out.stored TB2.out (by decide) 1 _
      · rw [HMS.out]
        show TX _ _ T s l
        rw [HLK.out]
        exact T2.out.back hk
      · exact N2.out.set 1 _
    | some p =>
      obtain ⟨a, r1⟩ := p
      rw [ha] at o1
      obtain ⟨rfl, t1⟩ := o1
      have HMS : Hid (M = many nextA (al ++ [a]) r1) := by unfold Hid; rw [hm.out]; exact many_step shrinksA ha
      have HRL := Lib.hid (nextA_len ha)
      obtain ⟨W2, hW2⟩ : ∃ W2, w1.alloc (.cells #[.string (bts a.1), .string (bts a.2)] 45) = W2 := ⟨_, rfl⟩
      obtain ⟨b, hb⟩ : ∃ b, w1.heap.size = b := ⟨_, rfl⟩
      have T2 : Hid (TX 58 W2 T s r1) := by rw [← hW2]; exact t1.alloc _
      have B2 : Hid (Bk W2 b 45 #[.string (bts a.1), .string (bts a.2)]) := by rw [← hW2, ← hb]; exact Bk.new _ _ _
      have G2 : Hid (Bk W2 G 143 #[.slice A al.length cap]) := by rw [← hW2]; exact G1.out.alloc _
      have K2 : Hid (Bk W2 Bt 56 #[.pointer (some ⟨T, 0, none⟩)]) := by rw [← hW2]; exact K1.out.alloc _
      have O2 : Hid (OwnA (G + 1) W2 (.slice A al.length cap) al) := by rw [← hW2]; exact hown1.out.below ((Below.refl _ _).alloc (Nat.le_refl _) _)
      have N2 : Hid (Tn T G w W2) := by rw [← hW2]; exact (htn.out.then N1.out (by have := ZG.out; omega)).alloc (by have := ZG.out; have := z1.out; omega) _
      have e0 : W2.cell? ⟨b, 0, none⟩ = some (.string (bts a.1)) := B2.out.cell 0
      have e1 : W2.cell? ⟨b, 1, none⟩ = some (.string (bts a.2)) := B2.out.cell 1
      have g0 : W2.cell? ⟨G, 0, none⟩ = some (.slice A al.length cap) := G2.out.cell 0
      have fg : W2.frozen? ⟨G, 0, none⟩ = false := G2.out.free 0
      have ZW : Hid (G + 1 ≤ W2.heap.size) := G2.out.lt
      have O2d : Hid (OwnA (G + 1) W2.drew (.slice A al.length cap) al) := O2.out.below ((Below.refl _ _).drew)
      have hal : al.length ≤ 1000000000 := by have := hlen.out; omega
      have hfar := Lib.hid (O2.out.far G2.out (by decide))
      have ZWd : G + 1 ≤ W2.drew.heap.size := ZW.out
      have e0a : (W2.alloc (.cells #[.string (bts a.1), .string (bts a.2)] 45)).cell? ⟨b, 0, none⟩ = some (.string (bts a.1)) := (B2.out.alloc _).cell 0
      have e1a : (W2.alloc (.cells #[.string (bts a.1), .string (bts a.2)] 45)).cell? ⟨b, 1, none⟩ = some (.string (bts a.2)) := (B2.out.alloc _).cell 1
      have g0a : (W2.alloc (.cells #[.string (bts a.1), .string (bts a.2)] 45)).cell? ⟨G, 0, none⟩ = some (.slice A al.length cap) := (G2.out.alloc _).cell 0
      clear t1 ha
      go_wp2_with fail
      clear hW2 hb
      go_region_law (refine step_att rfl _ _ rfl (G + 1) (.slice A al.length cap) al a W2.drew rfl O2d.out rfl hal ZWd ?_; intro v3 w3 o3 b3 k3; have G3 : Hid (Bk w3 G 143 #[.slice A al.length cap]) := (k3 G ZW.out hfar.out).trans G2.out; have g3 : w3.cell? ⟨G, 0, none⟩ = some (.slice A al.length cap) := G3.out.cell 0; have h3 : w3.frozen? ⟨G, 0, none⟩ = false := G3.out.free 0; obtain ⟨A3, cap3, rfl⟩ := o3.slice; rw [List.length_append, List.length_singleton]; have O3 := Lib.hid o3; have B3 := Lib.hid b3; clear o3 b3 k3)
      all_goals
        go_wp2_with fail
        have O3' : OwnA (G + 1) w3 (.slice A3 (al.length + 1) cap3) (al ++ [a]) := by
          have := O3.out
          rwa [List.length_append, List.length_singleton] at this
        have B3' : Below (G + 1) W2 w3 := ⟨B3.out.os, B3.out.tape, B3.out.output, B3.out.size, B3.out.block⟩
        have X3 : TX 58 w3 T s r1 := T2.out.below B3' (by omega)
        have X4 : TX 58 (w3.setCell ⟨G, 0, none⟩ (.slice A3 (al.length + 1) cap3)) T s r1 := X3.far (p := ⟨G, 0, none⟩) (by show T ≠ G; omega) _
        have N3 : Tn T G w w3 := N2.out.trans (.of (B3'.mono (Nat.le_succ G)))
        have K3 : Bk w3 Bt 56 #[.pointer (some ⟨T, 0, none⟩)] := (B3'.block Bt (by omega)).trans K2.out
        refine ⟨⟨al ++ [a], r1, _, HMS.out, G3.out.one _, O3'.stored G3.out (by decide) 0 _, X4, N3.setHigh (p := ⟨G, 0, none⟩) (Nat.le_refl _) _, K3.far (p := ⟨G, 0, none⟩) (by show Bt ≠ G; omega) _, ?_⟩, ?_⟩
        · have := hlen.out
          have := HRL.out
          unfold Hid
          rw [List.length_append, List.length_singleton]
          omega
        · obtain ⟨j, _, _, hj, hj2⟩ := X4.at
          rw [place_of hj, hpl.out]
          have := HRL.out
          have := HKL.out
          have := X4.len
          have := htx.out.len
          omega
set_option maxHeartbeats 1000000 in
theorem attrs_any (T : Nat) (s : ByteArray) (r : List UInt8) (w : World) (h : TX 58 w T s r) (hs : s.size ≤ 100000000) (hE : Env T w) :
    Calls Tryz.prog 70 #[.pointer (some ⟨T, 0, none⟩)] w fun e w' => (∃ v, e = .returned v ∧ RowA w' v (many nextA [] r).1) ∧ TX 58 w' T s (many nextA [] r).2 ∧ Tn T w.heap.size w w' := by
  obtain ⟨Bt, hBt⟩ : ∃ Bt, w.heap.size = Bt := ⟨_, rfl⟩
  have hT := h.lt
  obtain ⟨W1, hW1⟩ : ∃ W1, w.alloc (.cells #[.pointer (some ⟨T, 0, none⟩)] 56) = W1 := ⟨_, rfl⟩
  obtain ⟨W2, hW2⟩ : ∃ W2, W1.alloc (.cells #[.slice none 0 0] 143) = W2 := ⟨_, rfl⟩
  have hs1 : W1.heap.size = Bt + 1 := by rw [← hW1, World.size_alloc, hBt]
  have B1 : Bk W1 Bt 56 #[.pointer (some ⟨T, 0, none⟩)] := by rw [← hW1, ← hBt]; exact Bk.new _ _ _
  have B2 : Hid (Bk W2 Bt 56 #[.pointer (some ⟨T, 0, none⟩)]) := by rw [← hW2]; exact B1.alloc _
  have G2 : Hid (Bk W2 (Bt + 1) 143 #[.slice none 0 0]) := by rw [← hW2, ← hs1]; exact Bk.new _ _ _
  have N2 : Hid (Tn T w.heap.size w W2) := by rw [← hW2, ← hW1]; exact ((Tn.refl _ _ _).alloc (Nat.le_refl _) _).alloc (by rw [World.size_alloc]; omega) _
  have T2 : Hid (TX 58 W2 T s r) := by rw [← hW2, ← hW1]; exact (h.alloc _).alloc _
  have E2 : Hid (Env T W2) := Base.tn hE N2.out (by omega)
  have HTH := Lib.hid (throughA_any T Bt (Bt + 1) s r W2 T2.out hs E2.out (by omega) (by omega) B2.out G2.out)
  have c2 : W2.cell? ⟨Bt, 0, none⟩ = some (.pointer (some ⟨T, 0, none⟩)) := B2.out.cell 0
  have HBT := Lib.hid hBt
  have HT := Lib.hid hT
  clear h hE hT B1
  go_enter Tryz.func70, Tryz.ntmps70
  go_wp2_with fail
  clear hW1 hW2 hs1
  refine HTH.out.mono ?_
  rintro e w3 ⟨rfl, v, g3, o3, t3, n3⟩
  have c3 : w3.cell? ⟨Bt + 1, 0, none⟩ = some v := g3.cell 0
  have O3 := Lib.hid o3
  have T3 := Lib.hid t3
  have N3 : Hid (Tn T w.heap.size w w3) := N2.out.trans (n3.mono (by have := HBT.out; omega))
  clear g3 o3 t3 n3
  obtain ⟨A, cap, rfl⟩ := O3.out.slice
  go_wp2_with fail
  go_ret
  exact ⟨⟨_, rfl, O3.out.row⟩, T3.out, N3.out⟩
end Go.Proofs.YtbkfmbkamocllaaGreatDoor
