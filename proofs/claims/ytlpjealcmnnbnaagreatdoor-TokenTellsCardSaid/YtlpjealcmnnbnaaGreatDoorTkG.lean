/-
  package token: all tokens of a text.
-/
import Derived.Test.YtlpjealcmnnbnaaGreatDoorTkF
namespace Go.Proofs.YtlpjealcmnnbnaaGreatDoor
open Go.RowKit Tk

theorem OwnK.far {B : Nat} {w : World} {v : Value} {l : List TokA} (h : OwnK B w v l) {g : Nat} {t : TypeId} {cs : Array Value} (hb : Bk w g t cs) (ht : t ≠ 30) : some g ≠ v.ownBlock := by
  obtain ⟨ks, _, h', _⟩ := h
  rcases h'.2 with ⟨rfl, h0⟩ | ⟨g', cap, cur, rfl, hg, hh, h1, h2, h3, h4⟩
  · intro e; cases e
  · intro e
    injection e with e
    subst e
    exact hb.type_ne (show Bk w g _ _ from hh) ht rfl
set_option maxHeartbeats 4000000 in
set_option maxRecDepth 100000 in
theorem throughT_any (T G : Nat) (s : ByteArray) (r : List UInt8) (w : World) (h : TX 35 w T s r) (hs : s.size ≤ 100000000) (hE : Env T w) (hTG : T < G)
    (hG : Bk w G 37 #[.slice none 0 0]) :
    Calls Tryz.prog 11 #[.pointer (some ⟨G, 0, none⟩), .pointer (some ⟨T, 0, none⟩), .func (.func 12) #[.pointer (some ⟨T, 0, none⟩)] #[]] w fun e w' =>
      e = .returned (.tuple #[]) ∧ ∃ v, Bk w' G 37 #[v] ∧ OwnK (G + 1) w' v (many (nextT s.size) [] r).1 ∧ TX 35 w' T s (many (nextT s.size) [] r).2 ∧ Tn T G w w' := by
  have eg : ∀ args w, (callFunc 12 args).run Tryz.prog w = .ok (.enter 12 args) w := Go.Proofs.enters_of Tryz.func12 (by kernel_rfl) rfl
  have HTX := Lib.hid h
  have HENV := Lib.hid hE
  have HG := Lib.hid hG
  have HPL := Lib.hid (fun (j : Nat) (W : World) (h : Bk W T 35 #[.string s, .int .i64 j]) => place_of h)
  obtain ⟨M, hM⟩ : ∃ M, many (nextT s.size) [] r = M := ⟨_, rfl⟩
  rw [hM]
  have HM := Lib.hid hM
  clear h hE hG hM
  go_enter Tryz.func11, Tryz.ntmps11
  go_wp2_with fail
  go_loopw [] (fun wr => ∃ (al : List TokA) (l : List UInt8) (v : Value), Hid (M = many (nextT s.size) al l) ∧ Hid (Bk wr G 37 #[v]) ∧ Hid (OwnK (G + 1) wr v al) ∧ Hid (TX 35 wr T s l) ∧ Hid (Tn T G w wr) ∧ Hid (al.length + l.length ≤ s.size)) (fun wr => s.size - placeOf T wr)
  case atStart => exact ⟨[], r, _, HM.out.symm, HG.out, OwnK.nil _ _, HTX.out, Tn.refl _ _ _, by unfold Hid; have := HTX.out.len; simpa using this⟩
  case round =>
    obtain ⟨al, l, v, hm, hg, ho, htx, htn, hlen⟩ := hrel
    obtain ⟨A, cap, rfl⟩ := ho.out.len
    have hx := htx
    obtain ⟨k, hk, hlk, hbk, hkl⟩ := hx.out.at
    have hpl := Lib.hid (HPL.out k wr hbk)
    have c1 : wr.cell? ⟨T, 1, none⟩ = some (.int .i64 k) := hbk.cell 1
    have hgs : G < wr.heap.size := hg.out.lt
    have HER : Hid (Env T wr) := Base.tn HENV.out htn.out (by omega)
    have HNX := Lib.hid (token_any T k s l wr htx.out hs HER.out hkl)
    have HLK := Lib.hid hlk
    have HBK := Lib.hid hbk
    have HKL := Lib.hid hkl
    have ZG := Lib.hid hgs
    have HKS := Lib.hid hk
    clear hlk hbk hkl hgs
    go_wp2_with fail
    refine HNX.out.mono ?_
    rintro e w1 ⟨⟨kk, x5, y5, A5, n5, cap5, b5, ok5, r1, rfl, t1, i1⟩, n1⟩
    have N1 := Lib.hid n1
    have G1 := Lib.hid (n1.bk hg.out hg.out.lt (by omega))
    have hown1 := Lib.hid (ho.out.tn n1 HBK.out (by decide) (by decide))
    have z1 : Hid (wr.heap.size ≤ w1.heap.size) := n1.size
    clear n1
    obtain ⟨zk, hzk⟩ : ∃ zk : Int, (k : Int) = zk := ⟨_, rfl⟩
    have HZK := Lib.hid hzk
    rw [hzk] at c1
    cases ha : tokL l with
    | none =>
      rw [ha] at i1
      have hok : ok5 = false := i1
      subst hok
      have HMS : Hid (M = (al, l)) := by unfold Hid; rw [hm.out]; exact many_stop (nextT_none ha)
      obtain ⟨W2, hW2⟩ : ∃ W2, w1.alloc (.cells #[.int .i64 kk, .int .i64 zk, .string x5, .string y5, .slice A5 n5 cap5, .bool b5] 30) = W2 := ⟨_, rfl⟩
      have T2 : Hid (TX 35 W2 T s r1) := by rw [← hW2]; exact t1.alloc _
      have G2 : Hid (Bk W2 G 37 #[.slice A al.length cap]) := by rw [← hW2]; exact G1.out.alloc _
      have O2 : Hid (OwnK (G + 1) W2 (.slice A al.length cap) al) := by rw [← hW2]; exact hown1.out.below ((Below.refl _ _).alloc (Nat.le_refl _) _)
      have N2 : Hid (Tn T G w W2) := by rw [← hW2]; exact (htn.out.then N1.out (by have := ZG.out; omega)).alloc (by have := ZG.out; have := z1.out; omega) _
      obtain ⟨j, _, _, hb2, _⟩ := T2.out.at
      obtain ⟨zj, d1⟩ : ∃ v, W2.cell? ⟨T, 1, none⟩ = some v := ⟨_, hb2.cell 1⟩
      have f1 : W2.frozen? ⟨T, 1, none⟩ = false := hb2.free 1
      have TB2 := Lib.hid hb2
      clear t1 ha hb2 i1
      rw [hzk]
      clear hzk
      go_wp2_with fail
      refine bodyPost_ret (results_none rfl _ _ _) rfl ?_
      refine ⟨rfl, .slice A al.length cap, ?_, ?_, ?_, ?_⟩
      · exact G2.out.far (p := ⟨T, 1, none⟩) (by show G ≠ T; omega) _
      · rw [HMS.out]
        exact O2.out.stored TB2.out (by decide) (by decide) 1 _
      · rw [HMS.out]
        show TX _ _ T s l
        rw [HLK.out, ← HZK.out]
        exact T2.out.back HKS.out
      · exact N2.out.set 1 _
    | some p =>
      obtain ⟨t, r2⟩ := p
      rw [ha] at i1
      obtain ⟨h1, h2, h3, h4, h5, h6, h7⟩ := i1
      simp only at h2 h3 h4 h5 h6 h7
      subst h1 h7 h3 h4 h6
      have HMS : Hid (M = many (nextT s.size) (al ++ [(k, t)]) r1) := by unfold Hid; rw [hm.out, many_step (shrinksT s.size) (nextT_some ha), HKL.out]
      have HRL := Lib.hid (tok_len ha)
      obtain ⟨W2, hW2⟩ : ∃ W2, w1.alloc (.cells #[.int .i64 t.1, .int .i64 k, .string (bts t.2.1), .string (bts t.2.2.1), .slice A5 n5 cap5, .bool t.2.2.2.2] 30) = W2 := ⟨_, rfl⟩
      obtain ⟨b, hb⟩ : ∃ b, w1.heap.size = b := ⟨_, rfl⟩
      have T2 : Hid (TX 35 W2 T s r1) := by rw [← hW2]; exact t1.alloc _
      have B2 : Hid (Bk W2 b 30 #[.int .i64 t.1, .int .i64 k, .string (bts t.2.1), .string (bts t.2.2.1), .slice A5 n5 cap5, .bool t.2.2.2.2]) := by rw [← hW2, ← hb]; exact Bk.new _ _ _
      have G2 : Hid (Bk W2 G 37 #[.slice A al.length cap]) := by rw [← hW2]; exact G1.out.alloc _
      have O2 : Hid (OwnK (G + 1) W2 (.slice A al.length cap) al) := by rw [← hW2]; exact hown1.out.below ((Below.refl _ _).alloc (Nat.le_refl _) _)
      have U2 : Hid (RowA W2 (.slice A5 n5 cap5) t.2.2.2.1) := by rw [← hW2]; exact h5.keep (KeepA.below ((Below.refl _ _).alloc (Nat.le_refl _) _))
      have N2 : Hid (Tn T G w W2) := by rw [← hW2]; exact (htn.out.then N1.out (by have := ZG.out; omega)).alloc (by have := ZG.out; have := z1.out; omega) _
      have O2d : Hid (OwnK (G + 1) W2.drew (.slice A al.length cap) al) := O2.out.below ((Below.refl _ _).drew)
      have U2d : Hid (RowA W2.drew (.slice A5 n5 cap5) t.2.2.2.1) := U2.out.keep (KeepA.below ((Below.refl _ _).drew))
      have hal : al.length ≤ 1000000000 := by have := hlen.out; omega
      have hfar := Lib.hid (O2.out.far G2.out (by decide))
      have ZW : Hid (G + 1 ≤ W2.heap.size) := G2.out.lt
      have ZWd : G + 1 ≤ W2.drew.heap.size := ZW.out
      have e0 : W2.cell? ⟨b, 0, none⟩ = some (.int .i64 t.1) := B2.out.cell 0
      have e1 : W2.cell? ⟨b, 1, none⟩ = some (.int .i64 k) := B2.out.cell 1
      have e2 : W2.cell? ⟨b, 2, none⟩ = some (.string (bts t.2.1)) := B2.out.cell 2
      have e3 : W2.cell? ⟨b, 3, none⟩ = some (.string (bts t.2.2.1)) := B2.out.cell 3
      have e4 : W2.cell? ⟨b, 4, none⟩ = some (.slice A5 n5 cap5) := B2.out.cell 4
      have e5 : W2.cell? ⟨b, 5, none⟩ = some (.bool t.2.2.2.2) := B2.out.cell 5
      have e0a : (W2.alloc (.cells #[.int .i64 t.1, .int .i64 k, .string (bts t.2.1), .string (bts t.2.2.1), .slice A5 n5 cap5, .bool t.2.2.2.2] 30)).cell? ⟨b, 0, none⟩ = some (.int .i64 t.1) := (B2.out.alloc _).cell 0
      have e1a : (W2.alloc (.cells #[.int .i64 t.1, .int .i64 k, .string (bts t.2.1), .string (bts t.2.2.1), .slice A5 n5 cap5, .bool t.2.2.2.2] 30)).cell? ⟨b, 1, none⟩ = some (.int .i64 k) := (B2.out.alloc _).cell 1
      have e2a : (W2.alloc (.cells #[.int .i64 t.1, .int .i64 k, .string (bts t.2.1), .string (bts t.2.2.1), .slice A5 n5 cap5, .bool t.2.2.2.2] 30)).cell? ⟨b, 2, none⟩ = some (.string (bts t.2.1)) := (B2.out.alloc _).cell 2
      have e3a : (W2.alloc (.cells #[.int .i64 t.1, .int .i64 k, .string (bts t.2.1), .string (bts t.2.2.1), .slice A5 n5 cap5, .bool t.2.2.2.2] 30)).cell? ⟨b, 3, none⟩ = some (.string (bts t.2.2.1)) := (B2.out.alloc _).cell 3
      have e4a : (W2.alloc (.cells #[.int .i64 t.1, .int .i64 k, .string (bts t.2.1), .string (bts t.2.2.1), .slice A5 n5 cap5, .bool t.2.2.2.2] 30)).cell? ⟨b, 4, none⟩ = some (.slice A5 n5 cap5) := (B2.out.alloc _).cell 4
      have e5a : (W2.alloc (.cells #[.int .i64 t.1, .int .i64 k, .string (bts t.2.1), .string (bts t.2.2.1), .slice A5 n5 cap5, .bool t.2.2.2.2] 30)).cell? ⟨b, 5, none⟩ = some (.bool t.2.2.2.2) := (B2.out.alloc _).cell 5
      have g0 : W2.cell? ⟨G, 0, none⟩ = some (.slice A al.length cap) := G2.out.cell 0
      have fg : W2.frozen? ⟨G, 0, none⟩ = false := G2.out.free 0
      have g0a : (W2.alloc (.cells #[.int .i64 t.1, .int .i64 k, .string (bts t.2.1), .string (bts t.2.2.1), .slice A5 n5 cap5, .bool t.2.2.2.2] 30)).cell? ⟨G, 0, none⟩ = some (.slice A al.length cap) := (G2.out.alloc _).cell 0
      clear t1 ha h5
      rw [← hzk] at c1
      clear hzk
      go_wp2_with fail
      clear hW2 hb
      go_region_law (refine step_tok rfl _ _ rfl (G + 1) (.slice A al.length cap) al (k, t) (.slice A5 n5 cap5) W2.drew rfl O2d.out U2d.out rfl hal ZWd ?_; intro v3 w3 o3 b3 k3; have G3 : Hid (Bk w3 G 37 #[.slice A al.length cap]) := (k3 G ZW.out hfar.out).trans G2.out; have g3 : w3.cell? ⟨G, 0, none⟩ = some (.slice A al.length cap) := G3.out.cell 0; have h3 : w3.frozen? ⟨G, 0, none⟩ = false := G3.out.free 0; obtain ⟨A3, cap3, rfl⟩ := o3.len; rw [List.length_append, List.length_singleton]; have O3 := Lib.hid o3; have B3 := Lib.hid b3; clear o3 b3 k3)
      all_goals
        go_wp2_with fail
        have O3' : OwnK (G + 1) w3 (.slice A3 (al.length + 1) cap3) (al ++ [(k, t)]) := by
          have := O3.out
          rwa [List.length_append, List.length_singleton] at this
        have B3' : Below (G + 1) W2 w3 := ⟨B3.out.os, B3.out.tape, B3.out.output, B3.out.size, B3.out.block⟩
        have X3 : TX 35 w3 T s r1 := T2.out.below B3' (by omega)
        have X4 : TX 35 (w3.setCell ⟨G, 0, none⟩ (.slice A3 (al.length + 1) cap3)) T s r1 := X3.far (p := ⟨G, 0, none⟩) (by show T ≠ G; omega) _
        have N3 : Tn T G w w3 := N2.out.trans (.of (B3'.mono (Nat.le_succ G)))
        refine ⟨⟨al ++ [(k, t)], r1, _, HMS.out, G3.out.one _, O3'.stored G3.out (by decide) (by decide) 0 _, X4, N3.setHigh (p := ⟨G, 0, none⟩) (Nat.le_refl _) _, ?_⟩, ?_⟩
        · have := hlen.out
          have := HRL.out
          unfold Hid
          rw [List.length_append, List.length_singleton]
          omega
        · obtain ⟨j, _, _, hj, hj2⟩ := X4.at
          rw [place_of hj, hpl.out]
          have := HRL.out
          have := HKL.out
          have := X4.len
          have := htx.out.len
          omega
end Go.Proofs.YtlpjealcmnnbnaaGreatDoor
