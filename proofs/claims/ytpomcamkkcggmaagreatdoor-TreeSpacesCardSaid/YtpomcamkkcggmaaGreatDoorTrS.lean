/-
  package tree: say; take.
-/
import Derived.Test.YtpomcamkkcggmaaGreatDoorTrK
namespace Go.Proofs.YtpomcamkkcggmaaGreatDoor
open Go.RowKit Tk Tr

/-- An append of one text to an element's texts, in a region that draws its order. -/
theorem step_txt {ops : Array Oper} {o : Oper} {a : Act} {K : Act → World → Prop} {Q : Exit → Act → World → Prop} {E : Prop} (hgd : o.guard = none) (s y : Operand) (ho : o.op = .call { callee := .builtin .append, args := #[s, y], argTypes := #[42, 42] })
    (N B g cap : Nat) (els : List Nd) (fl : Nat → Bool) (p : Nat) (x : Nd) (tv : Value) (l : List (List UInt8)) (c : List UInt8) (sc : ByteArray) (hsc : bts c = sc) (w0 W : World) (hE : OwnE N B w0 (.slice (some ⟨g, 0, none⟩) els.length cap) els fl) (hx : els[p]? = some x)
    (htv : w0.cell? ⟨g, p * 8 + 6, none⟩ = some tv) (hown : OwnT B w0 tv l) (hl : l.flatten = x.2.2.2.2.2) (hll : l.length ≤ N) (hN : N ≤ 1000000) (H : Nat) (hH : w0.heap.size = H) (hW : Below w0.heap.size w0 W) (hWb : Bk W H 9 #[.string sc])
    (hs : a.eval s = tv) (hy : a.eval y = .slice (some ⟨H, 0, none⟩) 1 1) (hB : B ≤ w0.heap.size)
    (h : ∀ v' w', OwnE (N + 1) B (w'.setCell ⟨g, p * 8 + 6, none⟩ v') (.slice (some ⟨g, 0, none⟩) els.length cap) (els.modify p (addText c)) fl → Below B w0 w' → (∀ k cs t, Bk w0 k t cs → t ≠ 9 → Bk w' k t cs) → (∃ A n cap, v' = .slice A n cap) → K (a.put o.dst v') w') : if Region.wanted o (yielded ops a.tmps) = true then Oper.wp Tryz.prog o a W K Q else E := by
  subst hsc
  have hw : Region.wanted o (yielded ops a.tmps) = true := by simp [Region.wanted, hgd]
  rw [if_pos hw]
  obtain ⟨i0, hi, hz0, hz1, hz2⟩ := info_parts infoStr
  have hownW : W.ownsRow B 9 1 tv l.length (sts l) := row_keep hown (.below hW)
  have hEW := hE.below hW
  have hbl : ∃ cs, Bk w0 g 53 cs := by
    obtain ⟨ks, _, h2, _⟩ := hE
    exact row_block h2 g rfl
  obtain ⟨cs, hcs⟩ := hbl
  have htvW : W.cell? ⟨g, p * 8 + 6, none⟩ = some tv := (hW.cell (p := ⟨g, p * 8 + 6, none⟩) hcs.lt).trans htv
  refine wp_append_lies _ s y 42 ho B 9 i0 _ 1 16 Tryz.underlying42 hi hz0 hz1 hz2 rfl (by decide) tv l.length (sts l) hs hownW ⟨H, 0, none⟩ 1 1 [.string (bts c)] hy rfl ?_ ?_ (by decide) ?_ (by omega) (by have := hW.size; omega) _ rfl ?_
  · intro j u hj
    rw [add_at, hWb.cell, Nat.zero_add]
    simpa using hj
  · intro u hu
    simp at hu
    subst hu
    rfl
  · unfold maxLen; omega
  · intro g9 cap9 w' hown2 hg hat _
    have hrow : ∀ g, tv.ownBlock = some g → ∃ cs, Bk W g 9 cs := row_block hownW
    have hK : ∀ t, 9 ≠ t → KeepT t w0 w' := fun t ht => (KeepT.below hW).trans (KeepT.grown hg hrow ht)
    have ho9 : OwnT B w' (.slice (some ⟨g9, 0, none⟩) (l.length + 1) cap9) (l ++ [c]) := by
      unfold OwnT
      rw [sts_snoc, List.length_append, List.length_singleton]
      exact hown2
    refine h _ w' (hEW.say hx htvW hl hll ho9 hg ?_) ((hW.mono hB).grown hg (by have := hW.size; omega) (fun j hj => (World.ownsRow.lt hownW j hj).1)) (fun k cs t hk ht => hK t (fun e => ht e.symm) k cs hk) ⟨_, _, _, rfl⟩
    rcases hat with e | e
    · left; rw [e]; rfl
    · right; rw [← e]; rfl
theorem say_some {st : St} {p : Nat} (hp : st.2.getLast? = some p) (s : List UInt8) : sayL st s = (st.1.modify p (addText s), st.2) := by
  unfold sayL
  rw [hp]
theorem say_none {st : St} (hp : st.2.getLast? = none) (s : List UInt8) : sayL st s = st := by
  unfold sayL
  rw [hp]
theorem kid_fun {els : List Nd} {p : Nat} {s : List UInt8} : kidOf (els.modify p (addText s)) = kidOf els := funext fun _ => kid_modify
def badSay (st : St) (s : List UInt8) : Nat := if st.2 = [] ∧ blankL s = false then 6 else 0
set_option maxHeartbeats 4000000 in
set_option maxRecDepth 100000 in
theorem say_any (N B G : Nat) (w : World) (st : St) (s : List UInt8) (h : GS N B G w st) (hok : OkS st) (hs : s.length ≤ 9000000000000000000) (hG : G < B) (hB : B ≤ w.heap.size) (hNN : N ≤ 1000000) :
    Calls Tryz.prog 33 #[.pointer (some ⟨G, 0, none⟩), .string (bts s)] w fun e w' => Stepped (N + 1) B G w (badSay st s) st (sayL st s) e w' := by
  obtain ⟨A, cap, OA, ocap, gb, ge, go⟩ := h.cells
  have c1 : w.cell? ⟨G, 1, none⟩ = some (.slice OA st.2.length ocap) := gb.cell 1
  have c0 : w.cell? ⟨G, 0, none⟩ = some (.slice A st.1.length cap) := gb.cell 0
  have HTOP := Lib.hid (top_any B G w _ st.2 c1 go (by have := hok.deep; omega) (fun p hp => by have := hok.open_ p hp; have := hok.many; omega))
  have HGS := Lib.hid h
  have HGE := Lib.hid ge
  have HGO := Lib.hid go
  have HOK := Lib.hid hok
  have GB := Lib.hid gb
  have HG := Lib.hid hG
  have HB := Lib.hid hB
  have HBS : Hid (badSay st s = if st.2 = [] ∧ blankL s = false then 6 else 0) := rfl
  cases ho : st.2.getLast? with
  | none =>
    have hoe := List.getLast?_eq_none_iff.1 ho
    have hd : decide (st.2 ≠ []) = false := decide_eq_false (fun h => h hoe)
    have HBL := Lib.hid (fun W => blankTr_any s W hs)
    have HSN := Lib.hid (say_none ho s)
    have HB2 : Hid (badSay st s = if blankL s = false then 6 else 0) := by
      unfold Hid
      rw [HBS.out]
      by_cases hb : blankL s = false
      · rw [if_pos ⟨hoe, hb⟩, if_pos hb]
      · rw [if_neg (fun h => hb h.2), if_neg hb]
    obtain ⟨sb, hN⟩ : ∃ sb, bts s = sb := ⟨_, rfl⟩
    rw [hN] at HBL ⊢
    rw [hd, ho] at HTOP
    clear h hok gb ge go c0 c1 ho hd hG hB hoe hN
    cases hq : blankL s with
    | true =>
      rw [hq] at HBL
      have hb : Hid (badSay st s = 0) := by unfold Hid; rw [HB2.out, hq]; rfl
      clear hq
      go_enter Tryz.func33, Tryz.ntmps33
      go_wp2_with (first | (go_at_call 53; refine HTOP.out.mono ?_; rintro e w1 ⟨rfl, b1⟩) | (go_at_call 35; refine (HBL.out _).mono ?_; rintro e w2 ⟨rfl, b2⟩))
      go_ret
      rw [hb.out, HSN.out]
      refine ⟨rfl, ?_, ((Tn.of b1).mono HB.out).trans ((Tn.of b2).mono (Nat.le_trans HB.out b1.size)), (KeepT.below b1).trans (KeepT.below b2)⟩
      rw [if_pos rfl]
      exact ((HGS.out.below b1).below b2).more (Nat.le_succ N)
    | false =>
      rw [hq] at HBL
      have hb : Hid (badSay st s = 6) := by unfold Hid; rw [HB2.out, hq]; rfl
      clear hq
      go_enter Tryz.func33, Tryz.ntmps33
      go_wp2_with (first | (go_at_call 53; refine HTOP.out.mono ?_; rintro e w1 ⟨rfl, b1⟩) | (go_at_call 35; refine (HBL.out _).mono ?_; rintro e w2 ⟨rfl, b2⟩))
      go_ret
      rw [hb.out]
      refine ⟨rfl, ?_, ((Tn.of b1).mono HB.out).trans ((Tn.of b2).mono (Nat.le_trans HB.out b1.size)), (KeepT.below b1).trans (KeepT.below b2)⟩
      rw [if_neg (by decide)]
      exact ((HGS.out.below b1).below b2).more (Nat.le_succ N)
  | some p =>
    have hoe : st.2 ≠ [] := fun e => by rw [e] at ho; cases ho
    have hd : decide (st.2 ≠ []) = true := decide_eq_true hoe
    have hpl : p < st.1.length := hok.open_ p (List.mem_of_getLast? ho)
    have hpb : p < 1000 := by have := hok.many; omega
    have hb : Hid (badSay st s = 0) := by unfold Hid; rw [HBS.out, if_neg (fun h => hoe h.1)]
    have HSS := Lib.hid (say_some ho s)
    obtain ⟨x, hx⟩ : ∃ x, st.1[p]? = some x := ⟨_, List.getElem?_eq_getElem hpl⟩
    have HX := Lib.hid hx
    rw [hd, ho] at HTOP
    obtain ⟨sb, hN⟩ : ∃ sb, bts s = sb := ⟨_, rfl⟩
    have HN := Lib.hid hN
    have HNN := Lib.hid hNN
    have HPL := Lib.hid hpl
    rw [hN]
    clear h hok gb ge go c0 c1 ho hd hG hB hoe hN hx HBS hNN
    go_enter Tryz.func33, Tryz.ntmps33
    go_upto_region 3 with (go_at_call 53; refine HTOP.out.mono ?_; rintro e w1 ⟨rfl, b1⟩)
    have E1 := HGE.out.below b1
    obtain ⟨gE, cE, e1, hBg, hgl, ⟨cs, hcs⟩, hat⟩ := E1.at (by have := HPL.out; omega)
    injection e1 with e1 _ e2
    subst e1 e2
    obtain ⟨av, tv, ⟨_, _, _, _, _, _, k6, _⟩, _, l, hl1, hl2, hll⟩ := hat p x HX.out
    have G1 := GB.out.below b1 GB.out.lt
    have c0 : w1.cell? ⟨G, 0, none⟩ = some (.slice (some ⟨gE, 0, none⟩) st.1.length cap) := G1.cell 0
    obtain ⟨TA, tcap, htv⟩ := hl1.slice
    subst htv
    have E1' := Lib.hid E1
    have HLL := Lib.hid hll
    have HL1 := Lib.hid hl1
    have HL2 := Lib.hid hl2
    have GB1 := Lib.hid G1
    have GO1 := Lib.hid (HGO.out.below b1)
    have N1 : Hid (Tn G B w w1) := (Tn.of b1).mono HB.out
    have KK1 : Hid (KeepT 45 w w1) := KeepT.below b1
    have Z1 : Hid (B ≤ w1.heap.size) := Nat.le_trans HB.out b1.size
    have HCS := Lib.hid hcs
    have HBG := Lib.hid hBg
    have K6 := Lib.hid k6
    have f6 : w1.frozen? ⟨gE, p * 8 + 6, none⟩ = false := hcs.free _
    obtain ⟨m, hm⟩ : ∃ m, st.1.length = m := ⟨_, rfl⟩
    have hpi : (p : Int) < (m : Int) := by omega
    obtain ⟨k, hk⟩ : ∃ k, l.length = k := ⟨_, rfl⟩
    have HM := Lib.hid hm
    have HKL := Lib.hid hk
    rw [hm] at c0 hpl GB1
    rw [hk] at k6 HL1
    have c0a : ∀ o, (w1.alloc o).cell? ⟨G, 0, none⟩ = some (.slice (some ⟨gE, 0, none⟩) m cap) := fun o => (GB1.out.alloc o).cell 0
    have k6a : ∀ o, (w1.alloc o).cell? ⟨gE, p * 8 + 6, none⟩ = some (.slice TA k tcap) := fun o => ((HCS.out.alloc o).cell _).trans ((HCS.out.cell _).symm.trans k6)
    clear b1 E1 hat hcs hBg hgl hl1 hl2 G1 hm hk hll
    go_region_law (refine step_txt rfl _ _ rfl N B gE cap st.1 (kidOf st.1) p x (.slice TA k tcap) l s sb HN.out w1 _ E1'.out HX.out k6 HL1.out HL2.out HLL.out HNN.out _ rfl ?_ ?_ rfl rfl Z1.out ?_; exact ((Below.refl _ _).alloc (Nat.le_refl _) _).drew; exact (Bk.new _ _ _).drew; rintro v9 w9 e9 b9 k9 ⟨A9, n9, c9, rfl⟩; have g09 : w9.cell? ⟨G, 0, none⟩ = some (.slice (some ⟨gE, 0, none⟩) m cap) := (k9 _ _ _ GB1.out (by decide)).cell 0; have q9 := k9 _ _ _ HCS.out (by decide); have f9 : w9.frozen? ⟨gE, p * 8 + 6, none⟩ = false := q9.free _; obtain ⟨v6, d9⟩ : ∃ v, w9.cell? ⟨gE, p * 8 + 6, none⟩ = some v := ⟨_, (q9.cell _).trans ((HCS.out.cell _).symm.trans K6.out)⟩; have E9 := Lib.hid e9; have B9 := Lib.hid b9; have GB9 := Lib.hid (k9 _ _ _ GB1.out (by decide)); have HCS9 := Lib.hid q9; have KK9 : Hid (KeepT 45 w w9) := KK1.out.trans (fun k cs hk => k9 k cs _ hk (by decide)); have GO9 := Lib.hid (row_keep (w' := w9) GO1.out (fun k cs hk => k9 k cs _ hk (by decide))); clear e9 b9 k9 q9)
    all_goals
      have hgG : gE ≠ G := Bk.type_ne HCS9.out GB9.out (by decide)
      have N9 : Hid (Tn G B w w9) := N1.out.trans (Tn.of B9.out)
      go_wp2_with fail
      go_ret
      rw [hb.out, HSS.out]
      refine ⟨rfl, ?_, N9.out.setHigh (p := ⟨gE, p * 8 + 6, none⟩) HBG.out _, KK9.out.trans (KeepT.set HCS9.out (by decide) _ _)⟩
      rw [if_pos rfl]
      refine ⟨_, _, GB9.out.far (p := ⟨gE, p * 8 + 6, none⟩) (fun e => hgG e.symm) _, ?_, row_keep GO9.out (KeepT.set HCS9.out (by decide) _ _)⟩
      have := E9.out
      rw [HM.out] at this
      rw [show kidOf (st.1.modify p (addText s)) = kidOf st.1 from kid_fun]
      exact this
end Go.Proofs.YtpomcamkkcggmaaGreatDoor
