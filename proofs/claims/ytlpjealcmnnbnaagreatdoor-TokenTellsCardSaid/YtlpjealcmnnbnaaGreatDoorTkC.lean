/-
  package token: the next attribute of a name of its own; all of them.
-/
import Derived.Test.YtlpjealcmnnbnaaGreatDoorTkB
namespace Go.Proofs.YtlpjealcmnnbnaaGreatDoor
open Go.RowKit Tk

theorem own_no {al : List Att} {r : List UInt8} (h : attrL r = none) : nextA al r = none := by unfold nextA; rw [h]; rfl
theorem own_dup {al : List Att} {r r' : List UInt8} {a : Att} (h : attrL r = some (a, r')) : nextA al r = if al.any (fun b => b.1 == a.1) then none else some (a, r') := by unfold nextA; rw [h]; rfl
theorem AttOut.no {T : Nat} {s : ByteArray} {o : Option (Att × List UInt8)} {e : Ending} {w' : World} (h : o = none) (u v : ByteArray) (r : List UInt8) (he : e = .returned (.tuple #[.agg #[.string u, .string v], .bool false])) (ht : TX 35 w' T s r) : AttOut T s o e w' := by
  subst h
  exact ⟨u, v, r, he, ht⟩
theorem AttOut.yes {T : Nat} {s : ByteArray} {o : Option (Att × List UInt8)} {e : Ending} {w' : World} {a : Att} {r : List UInt8} (h : o = some (a, r)) (he : e = .returned (.tuple #[.agg #[.string (bts a.1), .string (bts a.2)], .bool true])) (ht : TX 35 w' T s r) : AttOut T s o e w' := by
  subst h
  exact ⟨he, ht⟩
theorem Sk.two {T D : Nat} {td : TypeId} {a b : Value} {w W : World} (h : Sk T D td #[a, b] w W) (u v : Value) :
    World.cell? ((W.setCell ⟨D, 0, none⟩ u).setCell ⟨D, 1, none⟩ v).drew ⟨D, 0, none⟩ = some u ∧ World.cell? ((W.setCell ⟨D, 0, none⟩ u).setCell ⟨D, 1, none⟩ v).drew ⟨D, 1, none⟩ = some v ∧ Tn T D w ((W.setCell ⟨D, 0, none⟩ u).setCell ⟨D, 1, none⟩ v).drew :=
  ⟨(h.bk.two u v).cell 0, (h.bk.two u v).cell 1, ((h.tn.setHigh (p := ⟨D, 0, none⟩) (Nat.le_refl _) _).setHigh (p := ⟨D, 1, none⟩) (Nat.le_refl _) _).drew⟩
theorem TX.two {ty : TypeId} {w : World} {T D : Nat} {s : ByteArray} {r : List UInt8} (h : TX ty w T s r) (hD : T ≠ D) (u v : Value) : TX ty ((w.setCell ⟨D, 0, none⟩ u).setCell ⟨D, 1, none⟩ v).drew T s r :=
  ((h.far (p := ⟨D, 0, none⟩) hD u).far (p := ⟨D, 1, none⟩) hD v).below ((Below.refl _ _).drew) (Nat.lt_succ_self _)
set_option maxHeartbeats 4000000 in
set_option maxRecDepth 100000 in
theorem nextA_any (T Bt G : Nat) (s : ByteArray) (r : List UInt8) (v : Value) (al : List Att) (w : World) (h : TX 35 w T s r) (hs : s.size ≤ 100000000) (hE : Env T w)
    (hB : Bk w Bt 33 #[.pointer (some ⟨T, 0, none⟩)]) (hG : Bk w G 76 #[v]) (hv : RowA w v al) (hl : al.length ≤ 1000000000) :
    Calls Tryz.prog 52 #[.pointer (some ⟨Bt, 0, none⟩), .pointer (some ⟨G, 0, none⟩)] w fun e w' => AttOut T s (nextA al r) e w' ∧ Tn T w.heap.size w w' := by
  have hTG : G ≠ T := by
    obtain ⟨k, _, _, hb⟩ := h
    exact hG.type_ne hb (by decide)
  have hTB : Bt ≠ T := by
    obtain ⟨k, _, _, hb⟩ := h
    exact hB.type_ne hb (by decide)
  obtain ⟨W0, hW0⟩ : ∃ W0, w.alloc (.cells #[.string ⟨#[]⟩, .string ⟨#[]⟩] 48) = W0 := ⟨_, rfl⟩
  have S0 : Hid (Sk T w.heap.size 48 #[.string ⟨#[]⟩, .string ⟨#[]⟩] w W0) := by rw [← hW0]; exact Sk.start 48 #[.string ⟨#[]⟩, .string ⟨#[]⟩] hE h.lt
  have T0 : Hid (TX 35 W0 T s r) := by rw [← hW0]; exact h.alloc _
  have z0 : W0.heap.size = w.heap.size + 1 := by rw [← hW0, World.size_alloc]
  have b0 : W0.cell? ⟨Bt, 0, none⟩ = some (.pointer (some ⟨T, 0, none⟩)) := by rw [← hW0]; exact (hB.alloc _).cell 0
  have G0 : Hid (Bk W0 G 76 #[v]) := by rw [← hW0]; exact hG.alloc _
  have V0 : Hid (RowA W0 v al) := by rw [← hW0]; exact hv.keep (KeepA.below ((Below.refl _ w).alloc (Nat.le_refl _) _))
  have HAT := Lib.hid (attr_any T s r W0 T0.out hs S0.out.env)
  have Z0 := Lib.hid z0
  have hlt := h.lt
  obtain ⟨Q, hQ⟩ : ∃ Q, w.heap.size = Q := ⟨_, rfl⟩
  have HQ := Lib.hid hQ
  rw [hQ] at S0 hlt Z0
  clear h hE hB hG hv z0
  go_enter Tryz.func52, Tryz.ntmps52
  go_wp2_with fail
  clear hW0
  refine HAT.out.mono ?_
  rintro e w1 ⟨o1, n1⟩
  have S1 := Lib.hid (S0.out.step n1)
  have G1 := Lib.hid (n1.bk G0.out G0.out.lt hTG)
  have V1 : Hid (RowA w1 v al) := V0.out.keep (by obtain ⟨k, _, _, hb⟩ := T0.out; exact KeepA.tn n1 hb (by decide))
  clear n1
  cases ha : attrL r with
  | none =>
    rw [ha] at o1
    obtain ⟨u, y, r1, rfl, t1⟩ := o1
    have T1 := Lib.hid t1
    have HN := Lib.hid (own_no (al := al) ha)
    have hQ1 : Q < w1.heap.size := S1.out.bk.lt
    have Q1 := Lib.hid hQ1
    clear t1 ha
    go_wp2_with fail
    obtain ⟨b, hb⟩ : ∃ b, w1.heap.size = b := ⟨_, rfl⟩
    obtain ⟨W2, hW2⟩ : ∃ W2, w1.alloc (.cells #[.string u, .string y] 48) = W2 := ⟨_, rfl⟩
    have S2 : Hid (Sk T Q 48 #[.string ⟨#[]⟩, .string ⟨#[]⟩] w W2) := by rw [← hW2]; exact S1.out.step ((Tn.refl _ _ _).alloc (Nat.le_refl _) _)
    have T2 : Hid (TX 35 W2 T s r1) := by rw [← hW2]; exact T1.out.alloc _
    have B2 : Hid (Bk W2 b 48 #[.string u, .string y]) := by rw [← hW2, ← hb]; exact Bk.new _ _ _
    have e0 : W2.cell? ⟨b, 0, none⟩ = some (.string u) := B2.out.cell 0
    have e1 : W2.cell? ⟨b, 1, none⟩ = some (.string y) := B2.out.cell 1
    have d0 : W2.cell? ⟨Q, 0, none⟩ = some (.string ⟨#[]⟩) := S2.out.bk.cell 0
    have d1 : W2.cell? ⟨Q, 1, none⟩ = some (.string ⟨#[]⟩) := S2.out.bk.cell 1
    have f0 : W2.frozen? ⟨Q, 0, none⟩ = false := S2.out.bk.free 0
    have f1 : W2.frozen? ⟨Q, 1, none⟩ = false := S2.out.bk.free 1
    have hbQ : b ≠ Q := by omega
    have hQb : Q ≠ b := fun e => hbQ e.symm
    rw [hb, hW2]
    clear hW2 hb hQ1
    go_region
    all_goals
      go_wp2_with fail
      obtain ⟨q0, q1, N2⟩ := S2.out.two (.string u) (.string y)
      refine bodyPost_ret (v := .tuple #[.agg #[.string u, .string y], .bool false]) (by simp [results, Tryz.results52, go_sem, q0, q1]) rfl ⟨AttOut.no HN.out u y r1 rfl (T2.out.two (by have := S2.out.lt; omega) _ _), ?_⟩
      rw [HQ.out]
      exact N2
  | some p =>
    obtain ⟨a, r1⟩ := p
    rw [ha] at o1
    obtain ⟨rfl, t1⟩ := o1
    have HN := Lib.hid (own_dup (al := al) ha)
    have hQ1 : Q < w1.heap.size := S1.out.bk.lt
    obtain ⟨b, hb⟩ : ∃ b, w1.heap.size = b := ⟨_, rfl⟩
    obtain ⟨W2, hW2⟩ : ∃ W2, w1.alloc (.cells #[.string (bts a.1), .string (bts a.2)] 48) = W2 := ⟨_, rfl⟩
    have S2 : Hid (Sk T Q 48 #[.string ⟨#[]⟩, .string ⟨#[]⟩] w W2) := by rw [← hW2]; exact S1.out.step ((Tn.refl _ _ _).alloc (Nat.le_refl _) _)
    have T2 : Hid (TX 35 W2 T s r1) := by rw [← hW2]; exact t1.alloc _
    have B2 : Hid (Bk W2 b 48 #[.string (bts a.1), .string (bts a.2)]) := by rw [← hW2, ← hb]; exact Bk.new _ _ _
    have G2 : Hid (Bk W2 G 76 #[v]) := by rw [← hW2]; exact G1.out.alloc _
    have V2 : Hid (RowA W2 v al) := by rw [← hW2]; exact V1.out.keep (KeepA.below ((Below.refl _ w1).alloc (Nat.le_refl _) _))
    have HCF : Hid (∀ W, Below W2.heap.size W2 W → Calls Tryz.prog 54 #[v, .func (.func 55) #[] #[.pointer (some ⟨b, 0, none⟩)]] W fun e w' => e = .returned (.bool (al.any (fun b => b.1 == a.1))) ∧ Below W2.heap.size W2 w') := fun W hW =>
      (containsA_any v _ al _ W (V2.out.keep (KeepA.below hW)) hl (asks_named a.1 _ b W (B2.out.below hW B2.out.lt))).mono fun e w' h => ⟨h.1, hW.trans (h.2.mono hW.size)⟩
    obtain ⟨d, hd⟩ : ∃ d, al.any (fun b => b.1 == a.1) = d := ⟨_, rfl⟩
    rw [hd] at HN HCF
    obtain ⟨x, hx⟩ : ∃ x, bts a.1 = x := ⟨_, rfl⟩
    obtain ⟨y, hy⟩ : ∃ y, bts a.2 = y := ⟨_, rfl⟩
    rw [hx, hy] at B2
    have HX := Lib.hid hx
    have HY := Lib.hid hy
    have e0 : W2.cell? ⟨b, 0, none⟩ = some (.string x) := B2.out.cell 0
    have e1 : W2.cell? ⟨b, 1, none⟩ = some (.string y) := B2.out.cell 1
    have d0 : W2.cell? ⟨Q, 0, none⟩ = some (.string ⟨#[]⟩) := S2.out.bk.cell 0
    have d1 : W2.cell? ⟨Q, 1, none⟩ = some (.string ⟨#[]⟩) := S2.out.bk.cell 1
    have f0 : W2.frozen? ⟨Q, 0, none⟩ = false := S2.out.bk.free 0
    have f1 : W2.frozen? ⟨Q, 1, none⟩ = false := S2.out.bk.free 1
    have g0 : W2.cell? ⟨G, 0, none⟩ = some v := G2.out.cell 0
    have hbQ : b ≠ Q := by omega
    have hQb : Q ≠ b := fun e => hbQ e.symm
    have L1 := Lib.hid B2.out.lt
    have L2 := Lib.hid S2.out.bk.lt
    have HV : Hid (∃ A cap, v = .slice A al.length cap) := by obtain ⟨A, cap, e, _⟩ := V2.out; exact ⟨A, cap, e⟩
    obtain ⟨A, cap, rfl⟩ := HV.out
    clear t1 ha hd hx hy HV
    rw [HX.out, HY.out] at hW2
    go_wp2_with fail
    rw [HX.out, HY.out]
    try rw [hb]
    try rw [hW2]
    clear hW2 hb hQ1
    go_region_with ((go_at_call 54; refine (HCF.out _ ?_).mono ?_; exact ⟨rfl, rfl, rfl, Nat.le_refl _, fun _ _ => rfl⟩; rintro e w3 ⟨rfl, b3⟩; have e30 : w3.cell? ⟨b, 0, none⟩ = some (.string x) := (B2.out.below b3 L1.out).cell 0; have e31 : w3.cell? ⟨b, 1, none⟩ = some (.string y) := (B2.out.below b3 L1.out).cell 1; have S3 := Lib.hid (S2.out.belo b3); have T3 := Lib.hid (T2.out.below b3 T2.out.lt); have f30 : w3.frozen? ⟨Q, 0, none⟩ = false := S3.out.bk.free 0; have f31 : w3.frozen? ⟨Q, 1, none⟩ = false := S3.out.bk.free 1; have d30 : w3.cell? ⟨Q, 0, none⟩ = some (.string ⟨#[]⟩) := S3.out.bk.cell 0; have d31 : w3.cell? ⟨Q, 1, none⟩ = some (.string ⟨#[]⟩) := S3.out.bk.cell 1; clear b3))
    all_goals
      go_wp2_with fail
      have q0 : World.cell? ((w3.setCell ⟨Q, 0, none⟩ (.string x)).setCell ⟨Q, 1, none⟩ (.string y)) ⟨Q, 0, none⟩ = some (.string x) := (S3.out.two (.string x) (.string y)).1
      have q1 : World.cell? ((w3.setCell ⟨Q, 0, none⟩ (.string x)).setCell ⟨Q, 1, none⟩ (.string y)) ⟨Q, 1, none⟩ = some (.string y) := (S3.out.two (.string x) (.string y)).2.1
      have N3 : Tn T Q w ((w3.setCell ⟨Q, 0, none⟩ (.string x)).setCell ⟨Q, 1, none⟩ (.string y)) := (S3.out.tn.setHigh (p := ⟨Q, 0, none⟩) (Nat.le_refl _) _).setHigh (p := ⟨Q, 1, none⟩) (Nat.le_refl _) _
      have X3 : TX 35 ((w3.setCell ⟨Q, 0, none⟩ (.string x)).setCell ⟨Q, 1, none⟩ (.string y)) T s r1 := T3.out.two (by have := S3.out.lt; omega) _ _
      refine bodyPost_ret (v := .tuple #[.agg #[.string x, .string y], .bool (!d)]) (by simp [results, Tryz.results52, go_sem, Act.put, q0, q1]) rfl ⟨?_, ?_⟩
      · have hn := HN.out
        cases hd : d with
        | true => rw [hd] at hn; exact AttOut.no hn x y r1 rfl X3
        | false => rw [hd] at hn; exact AttOut.yes hn (by rw [HX.out, HY.out]; rfl) X3
      · rw [HQ.out]; exact N3
end Go.Proofs.YtlpjealcmnnbnaaGreatDoor
