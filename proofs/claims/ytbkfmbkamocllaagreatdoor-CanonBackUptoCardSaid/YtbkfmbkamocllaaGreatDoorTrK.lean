/- Texts laid together: TrK TrS TrT -/
import Derived.Test.YtbkfmbkamocllaaGreatDoorTrB
import Derived.Test.YtbkfmbkamocllaaGreatDoorShelf
import Derived.Shelf.Strings.SlTrimAscii
/-
  package tree: blank; end, say, take.
-/
namespace Go.Proofs.YtbkfmbkamocllaaGreatDoor
open Go.RowKit Tk Tr

theorem drop_all {p : UInt8 → Bool} : ∀ l : List UInt8, l.dropWhile p = [] ↔ l.all p = true
  | [] => by simp
  | c :: l => by
    have := drop_all (p := p) l
    rw [List.dropWhile_cons, List.all_cons]
    cases p c <;> simp [this]
theorem trim_blank (l : List UInt8) : (Lib.trimS l [9, 10, 13, 32]).isEmpty = blankL l := by
  have hp : ∀ c : UInt8, ([9, 10, 13, 32] : List UInt8).contains c = bl c := fun c => by
    simp only [List.contains_cons, List.contains_nil, Bool.or_false, bl, Bool.or_assoc]
  have hd : ∀ (m : List UInt8), m.dropWhile (fun c => ([9, 10, 13, 32] : List UInt8).contains c) = [] ↔ m.all bl = true := fun m => by
    rw [drop_all, show (fun c => ([9, 10, 13, 32] : List UInt8).contains c) = bl from funext hp]
  have e : (Lib.trimS l [9, 10, 13, 32] = []) ↔ blankL l = true := by
    unfold Lib.trimS Lib.trimLeftS
    rw [hd]
    unfold Lib.trimRightS blankL
    rw [List.all_reverse]
    constructor
    · intro h
      have h2 := List.takeWhile_append_dropWhile (p := fun c => ([9, 10, 13, 32] : List UInt8).contains c) (l := l.reverse)
      rw [← List.all_reverse, ← h2, List.all_append, h, Bool.and_true, List.all_eq_true]
      intro x hx
      rw [← hp]
      exact mem_while (p := fun c => ([9, 10, 13, 32] : List UInt8).contains c) hx
    · intro h
      have h2 := (hd l.reverse).2 (by rw [List.all_reverse]; exact h)
      rw [h2]
      rfl
  rw [Bool.eq_iff_iff, List.isEmpty_iff]
  exact e
set_option maxHeartbeats 1000000 in
theorem blankTr_any (s : List UInt8) (w : World) (hs : s.length ≤ 9000000000000000000) :
    Calls Tryz.prog 56 #[.string (bts s)] w fun e w' => e = .returned (.bool (blankL s)) ∧ Below w.heap.size w w' := by
  have h0 : Calls Tryz.prog 59 #[.string (bts s), .string ⟨#[9, 10, 13, 32]⟩] w fun e w' => e = .returned (.string (bts (Lib.trimS s [9, 10, 13, 32]))) ∧ Below w.heap.size w w' :=
    Any.strings_Trim_laid Tryz.lays160 (by kernel_rfl) (bts s) ⟨#[9, 10, 13, 32]⟩ w (by rw [Lib.size_eq]; exact Nat.le_trans hs (by omega)) (by show 4 < 4294967281; omega) (ascii_of_all (by decide))
  have HT := Lib.hid h0
  have hb := trim_blank s
  obtain ⟨r, hr⟩ : ∃ r, Lib.trimS s [9, 10, 13, 32] = r := ⟨_, rfl⟩
  rw [hr] at HT hb
  have he : (bts r).toList.isEmpty = blankL s := by rw [ByteArray.toList_mk]; exact hb
  generalize bts r = R at *
  generalize blankL s = q at *
  generalize bts s = S at *
  clear h0 hb hr hs
  go_enter Tryz.func56, Tryz.ntmps56
  go_wp2_with (go_at_call 59; refine HT.out.mono ?_; rintro e w1 ⟨rfl, b1⟩)
  go_ret
  exact ⟨rfl, b1⟩
theorem same_name {st : St} {p : Nat} {x : Nd} (hp : st.2.getLast? = some p) (hx : st.1[p]? = some x) (n : List UInt8) : sameName st n = decide (x.2.2.1 = n) := by
  unfold sameName
  rw [hp]
  simp only
  rw [hx]
theorem same_none {st : St} (hp : st.2.getLast? = none) (n : List UInt8) : sameName st n = false := by
  unfold sameName
  rw [hp]
set_option maxHeartbeats 4000000 in
set_option maxRecDepth 100000 in
theorem end_any (N B G : Nat) (w : World) (st : St) (n : List UInt8) (h : GS N B G w st) (hok : OkS st) (hG : G < B) (hB : B ≤ w.heap.size) :
    Calls Tryz.prog 53 #[.pointer (some ⟨G, 0, none⟩), .string (bts n)] w fun e w' => Stepped N B G w (if sameName st n = true then 0 else 6) st (st.1, st.2.dropLast) e w' := by
  obtain ⟨A, cap, OA, ocap, gb, ge, go⟩ := h.cells
  have c1 : w.cell? ⟨G, 1, none⟩ = some (.slice OA st.2.length ocap) := gb.cell 1
  have c0 : w.cell? ⟨G, 0, none⟩ = some (.slice A st.1.length cap) := gb.cell 0
  have HTOP := Lib.hid (top_any B G w _ st.2 c1 go (by have := hok.deep; omega) (fun p hp => by have := hok.open_ p hp; have := hok.many; omega))
  have HGS := Lib.hid h
  have HGE := Lib.hid ge
  have HOK := Lib.hid hok
  have GB := Lib.hid gb
  have HG := Lib.hid hG
  have HB := Lib.hid hB
  cases ho : st.2.getLast? with
  | none =>
    have hd : decide (st.2 ≠ []) = false := decide_eq_false (fun h => h (List.getLast?_eq_none_iff.1 ho))
    rw [same_none ho n, if_neg (by decide)]
    rw [hd, ho] at HTOP
    clear h hok gb ge go c0 c1 ho hd hG hB
    go_enter Tryz.func53, Tryz.ntmps53
    go_wp2_with (go_at_call 74; refine HTOP.out.mono ?_; rintro e w1 ⟨rfl, b1⟩)
    go_ret
    exact ⟨rfl, HGS.out.below b1, (Tn.of b1).mono HB.out, KeepT.below b1⟩
  | some p =>
    have hoe : st.2 ≠ [] := fun e => by rw [e] at ho; cases ho
    have hd : decide (st.2 ≠ []) = true := decide_eq_true hoe
    have hpl : p < st.1.length := hok.open_ p (List.mem_of_getLast? ho)
    have hpb : p < 1000 := by have := hok.many; omega
    obtain ⟨x, hx⟩ : ∃ x, st.1[p]? = some x := ⟨_, List.getElem?_eq_getElem hpl⟩
    have hsn := same_name ho hx n
    rw [hd, ho] at HTOP
    have HPL := Lib.hid hpl
    have hpi : (p : Int) < (st.1.length : Int) := by omega
    obtain ⟨m, hm⟩ : ∃ m, st.1.length = m := ⟨_, rfl⟩
    rw [hm] at hpl c0 hpi GB HGE
    have HM := Lib.hid hm
    have HX := Lib.hid hx
    have hne := bts_eqb2 x.2.2.1 n
    rw [← hsn] at hne
    obtain ⟨y, hy⟩ : ∃ y, bts x.2.2.1 = y := ⟨_, rfl⟩
    rw [hy] at hne
    have HY := Lib.hid hy
    have HOE := Lib.hid hoe
    generalize sameName st n = q at *
    generalize bts n = nb at *
    clear h hok gb ge go c0 c1 ho hd hG hB hx hy hm hoe hsn
    go_enter Tryz.func53, Tryz.ntmps53
    go_upto_region 2 with (go_at_call 74; refine HTOP.out.mono ?_; rintro e w1 ⟨rfl, b1⟩)
    have E1 := HGE.out.below b1
    rw [← HM.out] at E1
    obtain ⟨gE, cE, e1, hBg, hgl, ⟨cs, hcs⟩, hat⟩ := E1.at (by have := HPL.out; omega)
    injection e1 with e1 _ e2
    subst e1 e2
    obtain ⟨av, tv, ⟨_, _, k2, _, _, _, _, _⟩, _⟩ := hat p x HX.out
    rw [HY.out] at k2
    have c0 : w1.cell? ⟨G, 0, none⟩ = some (.slice (some ⟨gE, 0, none⟩) m cap) := (GB.out.below b1 GB.out.lt).cell 0
    have G1 := Lib.hid (HGS.out.below b1)
    have B1 : Hid (Tn G B w w1) := (Tn.of b1).mono HB.out
    have KK1 : Hid (KeepT 63 w w1) := KeepT.below b1
    have Z1 : Hid (B ≤ w1.heap.size) := Nat.le_trans HB.out b1.size
    clear b1 E1 hat hcs hBg hgl
    cases q with
    | false =>
      go_wp2_with fail
      go_ret
      exact ⟨rfl, G1.out, B1.out, KK1.out⟩
    | true =>
      have HTK := Lib.hid (take_any N B G w1 st.1 st.2 G1.out (by have := HOK.out.deep; omega) HOE.out)
      go_wp2_with (go_at_call 76; refine HTK.out.mono ?_; rintro e w2 ⟨rfl, g2, n2, k2⟩)
      go_ret
      exact ⟨rfl, g2, B1.out.trans n2, KK1.out.trans k2⟩
end Go.Proofs.YtbkfmbkamocllaaGreatDoor
/-
  package tree: say; take.
-/
namespace Go.Proofs.YtbkfmbkamocllaaGreatDoor
open Go.RowKit Tk Tr

/-- An append of one text to an element's texts, in a region that draws its order. -/
theorem step_txt {ops : Array Oper} {o : Oper} {a : Act} {K : Act → World → Prop} {Q : Exit → Act → World → Prop} {E : Prop} (hgd : o.guard = none) (s y : Operand) (ho : o.op = .call { callee := .builtin .append, args := #[s, y], argTypes := #[73, 73] })
    (N B g cap : Nat) (els : List Nd) (fl : Nat → Bool) (p : Nat) (x : Nd) (tv : Value) (l : List (List UInt8)) (c : List UInt8) (sc : ByteArray) (hsc : bts c = sc) (w0 W : World) (hE : OwnE N B w0 (.slice (some ⟨g, 0, none⟩) els.length cap) els fl) (hx : els[p]? = some x)
    (htv : w0.cell? ⟨g, p * 8 + 6, none⟩ = some tv) (hown : OwnT B w0 tv l) (hl : l.flatten = x.2.2.2.2.2) (hll : l.length ≤ N) (hN : N ≤ 1000000) (H : Nat) (hH : w0.heap.size = H) (hW : Below w0.heap.size w0 W) (hWb : Bk W H 9 #[.string sc])
    (hs : a.eval s = tv) (hy : a.eval y = .slice (some ⟨H, 0, none⟩) 1 1) (hB : B ≤ w0.heap.size)
    (h : ∀ v' w', OwnE (N + 1) B (w'.setCell ⟨g, p * 8 + 6, none⟩ v') (.slice (some ⟨g, 0, none⟩) els.length cap) (els.modify p (addText c)) fl → Below B w0 w' → (∀ k cs t, Bk w0 k t cs → t ≠ 9 → Bk w' k t cs) → (∃ A n cap, v' = .slice A n cap) → K (a.put o.dst v') w') : if Region.wanted o (yielded ops a.tmps) = true then Oper.wp Tryz.prog o a W K Q else E := by
  subst hsc
  have hw : Region.wanted o (yielded ops a.tmps) = true := by simp [Region.wanted, hgd]
  rw [if_pos hw]
  obtain ⟨i0, hi, hz0, hz1, hz2⟩ := info_parts infoStr
  have hownW : W.ownsRow B 9 1 tv l.length (sts l) := row_keep hown (.below hW)
  have hEW := hE.below hW
  have hbl : ∃ cs, Bk w0 g 75 cs := by
    obtain ⟨ks, _, h2, _⟩ := hE
    exact row_block h2 g rfl
  obtain ⟨cs, hcs⟩ := hbl
  have htvW : W.cell? ⟨g, p * 8 + 6, none⟩ = some tv := (hW.cell (p := ⟨g, p * 8 + 6, none⟩) hcs.lt).trans htv
  refine wp_append_lies _ s y 73 ho B 9 i0 _ 1 16 Tryz.underlying73 hi hz0 hz1 hz2 rfl (by decide) tv l.length (sts l) hs hownW ⟨H, 0, none⟩ 1 1 [.string (bts c)] hy rfl ?_ ?_ (by decide) ?_ (by omega) (by have := hW.size; omega) _ rfl ?_
  · intro j u hj
    rw [add_at, hWb.cell, Nat.zero_add]
    simpa using hj
  · intro u hu
    simp at hu
    subst hu
    rfl
  · unfold maxLen; omega
  · intro g9 cap9 w' hown2 hg hat _
    have hrow : ∀ g, tv.ownBlock = some g → ∃ cs, Bk W g 9 cs := row_block hownW
    have hK : ∀ t, 9 ≠ t → KeepT t w0 w' := fun t ht => (KeepT.below hW).trans (KeepT.grown hg hrow ht)
    have ho9 : OwnT B w' (.slice (some ⟨g9, 0, none⟩) (l.length + 1) cap9) (l ++ [c]) := by
      unfold OwnT
      rw [sts_snoc, List.length_append, List.length_singleton]
      exact hown2
    refine h _ w' (hEW.say hx htvW hl hll ho9 hg ?_) ((hW.mono hB).grown hg (by have := hW.size; omega) (fun j hj => (World.ownsRow.lt hownW j hj).1)) (fun k cs t hk ht => hK t (fun e => ht e.symm) k cs hk) ⟨_, _, _, rfl⟩
    rcases hat with e | e
    · left; rw [e]; rfl
    · right; rw [← e]; rfl
theorem say_some {st : St} {p : Nat} (hp : st.2.getLast? = some p) (s : List UInt8) : sayL st s = (st.1.modify p (addText s), st.2) := by
  unfold sayL
  rw [hp]
theorem say_none {st : St} (hp : st.2.getLast? = none) (s : List UInt8) : sayL st s = st := by
  unfold sayL
  rw [hp]
theorem kid_fun {els : List Nd} {p : Nat} {s : List UInt8} : kidOf (els.modify p (addText s)) = kidOf els := funext fun _ => kid_modify
def badSay (st : St) (s : List UInt8) : Nat := if st.2 = [] ∧ blankL s = false then 6 else 0
set_option maxHeartbeats 4000000 in
set_option maxRecDepth 100000 in
theorem say_any (N B G : Nat) (w : World) (st : St) (s : List UInt8) (h : GS N B G w st) (hok : OkS st) (hs : s.length ≤ 9000000000000000000) (hG : G < B) (hB : B ≤ w.heap.size) (hNN : N ≤ 1000000) :
    Calls Tryz.prog 54 #[.pointer (some ⟨G, 0, none⟩), .string (bts s)] w fun e w' => Stepped (N + 1) B G w (badSay st s) st (sayL st s) e w' := by
  obtain ⟨A, cap, OA, ocap, gb, ge, go⟩ := h.cells
  have c1 : w.cell? ⟨G, 1, none⟩ = some (.slice OA st.2.length ocap) := gb.cell 1
  have c0 : w.cell? ⟨G, 0, none⟩ = some (.slice A st.1.length cap) := gb.cell 0
  have HTOP := Lib.hid (top_any B G w _ st.2 c1 go (by have := hok.deep; omega) (fun p hp => by have := hok.open_ p hp; have := hok.many; omega))
  have HGS := Lib.hid h
  have HGE := Lib.hid ge
  have HGO := Lib.hid go
  have HOK := Lib.hid hok
  have GB := Lib.hid gb
  have HG := Lib.hid hG
  have HB := Lib.hid hB
  have HBS : Hid (badSay st s = if st.2 = [] ∧ blankL s = false then 6 else 0) := rfl
  cases ho : st.2.getLast? with
  | none =>
    have hoe := List.getLast?_eq_none_iff.1 ho
    have hd : decide (st.2 ≠ []) = false := decide_eq_false (fun h => h hoe)
    have HBL := Lib.hid (fun W => blankTr_any s W hs)
    have HSN := Lib.hid (say_none ho s)
    have HB2 : Hid (badSay st s = if blankL s = false then 6 else 0) := by
      unfold Hid
      rw [HBS.out]
      by_cases hb : blankL s = false
      · rw [if_pos ⟨hoe, hb⟩, if_pos hb]
      · rw [if_neg (fun h => hb h.2), if_neg hb]
    obtain ⟨sb, hN⟩ : ∃ sb, bts s = sb := ⟨_, rfl⟩
    rw [hN] at HBL ⊢
    rw [hd, ho] at HTOP
    clear h hok gb ge go c0 c1 ho hd hG hB hoe hN
    cases hq : blankL s with
    | true =>
      rw [hq] at HBL
      have hb : Hid (badSay st s = 0) := by unfold Hid; rw [HB2.out, hq]; rfl
      clear hq
      go_enter Tryz.func54, Tryz.ntmps54
      go_wp2_with (first | (go_at_call 74; refine HTOP.out.mono ?_; rintro e w1 ⟨rfl, b1⟩) | (go_at_call 56; refine (HBL.out _).mono ?_; rintro e w2 ⟨rfl, b2⟩))
      go_ret
      rw [hb.out, HSN.out]
      refine ⟨rfl, ?_, ((Tn.of b1).mono HB.out).trans ((Tn.of b2).mono (Nat.le_trans HB.out b1.size)), (KeepT.below b1).trans (KeepT.below b2)⟩
      rw [if_pos rfl]
      exact ((HGS.out.below b1).below b2).more (Nat.le_succ N)
    | false =>
      rw [hq] at HBL
      have hb : Hid (badSay st s = 6) := by unfold Hid; rw [HB2.out, hq]; rfl
      clear hq
      go_enter Tryz.func54, Tryz.ntmps54
      go_wp2_with (first | (go_at_call 74; refine HTOP.out.mono ?_; rintro e w1 ⟨rfl, b1⟩) | (go_at_call 56; refine (HBL.out _).mono ?_; rintro e w2 ⟨rfl, b2⟩))
      go_ret
      rw [hb.out]
      refine ⟨rfl, ?_, ((Tn.of b1).mono HB.out).trans ((Tn.of b2).mono (Nat.le_trans HB.out b1.size)), (KeepT.below b1).trans (KeepT.below b2)⟩
      rw [if_neg (by decide)]
      exact ((HGS.out.below b1).below b2).more (Nat.le_succ N)
  | some p =>
    have hoe : st.2 ≠ [] := fun e => by rw [e] at ho; cases ho
    have hd : decide (st.2 ≠ []) = true := decide_eq_true hoe
    have hpl : p < st.1.length := hok.open_ p (List.mem_of_getLast? ho)
    have hpb : p < 1000 := by have := hok.many; omega
    have hb : Hid (badSay st s = 0) := by unfold Hid; rw [HBS.out, if_neg (fun h => hoe h.1)]
    have HSS := Lib.hid (say_some ho s)
    obtain ⟨x, hx⟩ : ∃ x, st.1[p]? = some x := ⟨_, List.getElem?_eq_getElem hpl⟩
    have HX := Lib.hid hx
    rw [hd, ho] at HTOP
    obtain ⟨sb, hN⟩ : ∃ sb, bts s = sb := ⟨_, rfl⟩
    have HN := Lib.hid hN
    have HNN := Lib.hid hNN
    have HPL := Lib.hid hpl
    rw [hN]
    clear h hok gb ge go c0 c1 ho hd hG hB hoe hN hx HBS hNN
    go_enter Tryz.func54, Tryz.ntmps54
    go_upto_region 3 with (go_at_call 74; refine HTOP.out.mono ?_; rintro e w1 ⟨rfl, b1⟩)
    have E1 := HGE.out.below b1
    obtain ⟨gE, cE, e1, hBg, hgl, ⟨cs, hcs⟩, hat⟩ := E1.at (by have := HPL.out; omega)
    injection e1 with e1 _ e2
    subst e1 e2
    obtain ⟨av, tv, ⟨_, _, _, _, _, _, k6, _⟩, _, l, hl1, hl2, hll⟩ := hat p x HX.out
    have G1 := GB.out.below b1 GB.out.lt
    have c0 : w1.cell? ⟨G, 0, none⟩ = some (.slice (some ⟨gE, 0, none⟩) st.1.length cap) := G1.cell 0
    obtain ⟨TA, tcap, htv⟩ := hl1.slice
    subst htv
    have E1' := Lib.hid E1
    have HLL := Lib.hid hll
    have HL1 := Lib.hid hl1
    have HL2 := Lib.hid hl2
    have GB1 := Lib.hid G1
    have GO1 := Lib.hid (HGO.out.below b1)
    have N1 : Hid (Tn G B w w1) := (Tn.of b1).mono HB.out
    have KK1 : Hid (KeepT 63 w w1) := KeepT.below b1
    have Z1 : Hid (B ≤ w1.heap.size) := Nat.le_trans HB.out b1.size
    have HCS := Lib.hid hcs
    have HBG := Lib.hid hBg
    have K6 := Lib.hid k6
    have f6 : w1.frozen? ⟨gE, p * 8 + 6, none⟩ = false := hcs.free _
    obtain ⟨m, hm⟩ : ∃ m, st.1.length = m := ⟨_, rfl⟩
    have hpi : (p : Int) < (m : Int) := by omega
    obtain ⟨k, hk⟩ : ∃ k, l.length = k := ⟨_, rfl⟩
    have HM := Lib.hid hm
    have HKL := Lib.hid hk
    rw [hm] at c0 hpl GB1
    rw [hk] at k6 HL1
    have c0a : ∀ o, (w1.alloc o).cell? ⟨G, 0, none⟩ = some (.slice (some ⟨gE, 0, none⟩) m cap) := fun o => (GB1.out.alloc o).cell 0
    have k6a : ∀ o, (w1.alloc o).cell? ⟨gE, p * 8 + 6, none⟩ = some (.slice TA k tcap) := fun o => ((HCS.out.alloc o).cell _).trans ((HCS.out.cell _).symm.trans k6)
    clear b1 E1 hat hcs hBg hgl hl1 hl2 G1 hm hk hll
    go_region_law (refine step_txt rfl _ _ rfl N B gE cap st.1 (kidOf st.1) p x (.slice TA k tcap) l s sb HN.out w1 _ E1'.out HX.out k6 HL1.out HL2.out HLL.out HNN.out _ rfl ?_ ?_ rfl rfl Z1.out ?_; exact ((Below.refl _ _).alloc (Nat.le_refl _) _).drew; exact (Bk.new _ _ _).drew; rintro v9 w9 e9 b9 k9 ⟨A9, n9, c9, rfl⟩; have g09 : w9.cell? ⟨G, 0, none⟩ = some (.slice (some ⟨gE, 0, none⟩) m cap) := (k9 _ _ _ GB1.out (by decide)).cell 0; have q9 := k9 _ _ _ HCS.out (by decide); have f9 : w9.frozen? ⟨gE, p * 8 + 6, none⟩ = false := q9.free _; obtain ⟨v6, d9⟩ : ∃ v, w9.cell? ⟨gE, p * 8 + 6, none⟩ = some v := ⟨_, (q9.cell _).trans ((HCS.out.cell _).symm.trans K6.out)⟩; have E9 := Lib.hid e9; have B9 := Lib.hid b9; have GB9 := Lib.hid (k9 _ _ _ GB1.out (by decide)); have HCS9 := Lib.hid q9; have KK9 : Hid (KeepT 63 w w9) := KK1.out.trans (fun k cs hk => k9 k cs _ hk (by decide)); have GO9 := Lib.hid (row_keep (w' := w9) GO1.out (fun k cs hk => k9 k cs _ hk (by decide))); clear e9 b9 k9 q9)
    all_goals
      have hgG : gE ≠ G := Bk.type_ne HCS9.out GB9.out (by decide)
      have N9 : Hid (Tn G B w w9) := N1.out.trans (Tn.of B9.out)
      go_wp2_with fail
      go_ret
      rw [hb.out, HSS.out]
      refine ⟨rfl, ?_, N9.out.setHigh (p := ⟨gE, p * 8 + 6, none⟩) HBG.out _, KK9.out.trans (KeepT.set HCS9.out (by decide) _ _)⟩
      rw [if_pos rfl]
      refine ⟨_, _, GB9.out.far (p := ⟨gE, p * 8 + 6, none⟩) (fun e => hgG e.symm) _, ?_, row_keep GO9.out (KeepT.set HCS9.out (by decide) _ _)⟩
      have := E9.out
      rw [HM.out] at this
      rw [show kidOf (st.1.modify p (addText s)) = kidOf st.1 from kid_fun]
      exact this
end Go.Proofs.YtbkfmbkamocllaaGreatDoor
/-
  package tree: take.
-/
namespace Go.Proofs.YtbkfmbkamocllaaGreatDoor
open Go.RowKit Tk Tr

theorem Stepped.from {N M B G : Nat} {w W1 : World} {bad : Nat} {st st' : St} {e : Ending} {w' : World} (h : Stepped N B G W1 bad st st' e w') (hm : N ≤ M) (hn : Tn G B w W1) (hk : KeepT 63 w W1) : Stepped M B G w bad st st' e w' := by
  obtain ⟨h1, h2, h3, h4⟩ := h
  exact ⟨h1, h2.more hm, hn.trans h3, hk.trans h4⟩
theorem bad_one {st : St} {t : TokI} (h : t.1 = 1) : badL st t = badOpen st ∧ nextL st t = beginL st t := ⟨by unfold badL; rw [if_pos h], by unfold nextL; rw [if_pos h]⟩
theorem bad_two {st : St} {t : TokI} (h : t.1 = 2) : badL st t = (if sameName st t.2.2.1 = true then 0 else 6) ∧ nextL st t = (st.1, st.2.dropLast) := by
  have h1 : ¬ t.1 = 1 := by omega
  exact ⟨by unfold badL; rw [if_neg h1, if_pos h], by unfold nextL; rw [if_neg h1, if_pos h]⟩
theorem bad_three {st : St} {t : TokI} (h : t.1 = 3) : badL st t = badSay st t.2.2.2.1 ∧ nextL st t = sayL st t.2.2.2.1 := by
  have h1 : ¬ t.1 = 1 := by omega
  have h2 : ¬ t.1 = 2 := by omega
  exact ⟨by unfold badL badSay; rw [if_neg h1, if_neg h2, if_pos h], by unfold nextL; rw [if_neg h1, if_neg h2]⟩
theorem bad_other {st : St} {t : TokI} (h1 : t.1 ≠ 1) (h2 : t.1 ≠ 2) (h3 : t.1 ≠ 3) : badL st t = 5 := by unfold badL; rw [if_neg h1, if_neg h2, if_neg h3]
set_option maxHeartbeats 4000000 in
set_option maxRecDepth 100000 in
theorem grow_any (N B G : Nat) (w : World) (st : St) (t : TokI) (u : Value) (h : GS N B G w st) (hok : OkS st) (hu : ReadA w u t.2.2.2.2.1) (hl : t.2.2.2.2.1.length ≤ 1000000000) (hs : t.2.2.2.1.length ≤ 9000000000000000000) (hG : G < B) (hB : B ≤ w.heap.size) (hNN : N ≤ 1000000) :
    Calls Tryz.prog 30 #[.pointer (some ⟨G, 0, none⟩), agT t u] w fun e w' => Stepped (N + 1) B G w (badL st t) st (nextL st t) e w' := by
  obtain ⟨UA, ucap, rfl, -⟩ := id hu
  obtain ⟨un, hun⟩ : ∃ n, t.2.2.2.2.1.length = n := ⟨_, rfl⟩
  obtain ⟨T, hT⟩ : ∃ T, w.heap.size = T := ⟨_, rfl⟩
  obtain ⟨W1, hW1⟩ : ∃ W1, w.alloc (.cells #[.int .i64 t.1, .int .i64 t.2.1, .string (bts t.2.2.1), .string (bts t.2.2.2.1), .slice UA un ucap, .bool t.2.2.2.2.2] 63) = W1 := ⟨_, rfl⟩
  have hw1 : Below w.heap.size w W1 := by rw [← hW1]; exact (Below.refl _ _).alloc (Nat.le_refl _) _
  have G1 := h.below hw1
  have Z1 : B ≤ W1.heap.size := Nat.le_trans hB hw1.size
  have N1 := Lib.hid (Tn.of (T := G) (hw1.mono hB))
  have K1 : Hid (KeepT 63 w W1) := KeepT.below hw1
  have KT : Bk W1 T 63 #[.int .i64 t.1, .int .i64 t.2.1, .string (bts t.2.2.1), .string (bts t.2.2.2.1), .slice UA un ucap, .bool t.2.2.2.2.2] := by rw [← hW1, ← hT]; exact Bk.new _ _ _
  have HBE := Lib.hid (begin_any N B G W1 st t (.slice UA t.2.2.2.2.1.length ucap) G1 hok (hu.below hw1) hl hG Z1)
  have HEN := Lib.hid (end_any N B G W1 st t.2.2.1 G1 hok hG Z1)
  have HSY := Lib.hid (say_any N B G W1 st t.2.2.2.1 G1 hok hs hG Z1 hNN)
  have HG1 := Lib.hid G1
  unfold agT at HBE ⊢
  rw [hun] at HBE ⊢
  have k0 : W1.cell? ⟨T, 0, none⟩ = some (.int .i64 t.1) := KT.cell 0
  have k1 : W1.cell? ⟨T, 1, none⟩ = some (.int .i64 t.2.1) := KT.cell 1
  have k2 : W1.cell? ⟨T, 2, none⟩ = some (.string (bts t.2.2.1)) := KT.cell 2
  have k3 : W1.cell? ⟨T, 3, none⟩ = some (.string (bts t.2.2.2.1)) := KT.cell 3
  have k4 : W1.cell? ⟨T, 4, none⟩ = some (.slice UA un ucap) := KT.cell 4
  have k5 : W1.cell? ⟨T, 5, none⟩ = some (.bool t.2.2.2.2.2) := KT.cell 5
  have HW1 := Lib.hid hW1
  have HTT := Lib.hid hT
  have HC : Hid ((t.1 = 1 → badL st t = badOpen st ∧ nextL st t = beginL st t) ∧ (t.1 = 2 → badL st t = (if sameName st t.2.2.1 = true then 0 else 6) ∧ nextL st t = (st.1, st.2.dropLast)) ∧ (t.1 = 3 → badL st t = badSay st t.2.2.2.1 ∧ nextL st t = sayL st t.2.2.2.1) ∧ (t.1 ≠ 1 → t.1 ≠ 2 → t.1 ≠ 3 → badL st t = 5)) := ⟨bad_one, bad_two, bad_three, bad_other⟩
  obtain ⟨a0, h0⟩ : ∃ a : Int, t.1 = a := ⟨_, rfl⟩
  obtain ⟨a1, h1⟩ : ∃ a : Int, t.2.1 = a := ⟨_, rfl⟩
  obtain ⟨a2, h2⟩ : ∃ a, bts t.2.2.1 = a := ⟨_, rfl⟩
  obtain ⟨a3, h3⟩ : ∃ a, bts t.2.2.2.1 = a := ⟨_, rfl⟩
  obtain ⟨a5, h5⟩ : ∃ a, t.2.2.2.2.2 = a := ⟨_, rfl⟩
  rw [h0, h1, h2, h3, h5] at HBE HW1
  rw [h2] at HEN
  rw [h3] at HSY
  rw [h0] at k0 HC
  rw [h1] at k1
  rw [h2] at k2
  rw [h3] at k3
  rw [h5] at k5
  rw [h0, h1, h2, h3, h5]
  have HBD : Hid (∃ bd nx, badL st t = bd ∧ nextL st t = nx) := ⟨_, _, rfl, rfl⟩
  obtain ⟨bd, nx, hbd, hnx⟩ := HBD.out
  have HB1 := Lib.hid hbd
  have HB2 := Lib.hid hnx
  rw [hbd, hnx] at HC
  rw [hbd, hnx]
  clear h hok hu hl hs hG hB hun hT hW1 hw1 G1 KT h0 h1 h2 h3 h5 hbd hnx HBD Z1 hNN
  by_cases e1 : a0 = 1
  · obtain ⟨q1, q2⟩ := HC.out.1 e1
    have Q1 := Lib.hid q1
    have Q2 := Lib.hid q2
    clear q1 q2
    subst e1
    go_enter Tryz.func30, Tryz.ntmps30
    go_upto_region 1 with fail
    rw [HW1.out, HTT.out]
    go_wp2_with (go_at_call 52; refine HBE.out.mono ?_; rintro e w2 ⟨rfl, s2, s3, s4⟩)
    go_ret
    rw [Q1.out, Q2.out]
    exact Stepped.from ⟨rfl, s2, s3, s4⟩ (Nat.le_succ N) N1.out K1.out
  by_cases e2 : a0 = 2
  · obtain ⟨q1, q2⟩ := HC.out.2.1 e2
    have Q1 := Lib.hid q1
    have Q2 := Lib.hid q2
    have g1 : (a0 == 1) = false := by simpa using e1
    clear q1 q2 e1
    subst e2
    obtain ⟨bs, hbs⟩ : ∃ bs, (if sameName st t.2.2.1 = true then 0 else 6) = bs := ⟨_, rfl⟩
    rw [hbs] at Q1 HEN
    clear hbs
    go_enter Tryz.func30, Tryz.ntmps30
    go_upto_region 1 with fail
    rw [HW1.out, HTT.out]
    go_wp2_with (go_at_call 53; refine HEN.out.mono ?_; rintro e w2 ⟨rfl, s2, s3, s4⟩)
    go_ret
    rw [Q1.out, Q2.out]
    exact Stepped.from ⟨rfl, s2, s3, s4⟩ (Nat.le_succ N) N1.out K1.out
  by_cases e3 : a0 = 3
  · obtain ⟨q1, q2⟩ := HC.out.2.2.1 e3
    have Q1 := Lib.hid q1
    have Q2 := Lib.hid q2
    have g1 : (a0 == 1) = false := by simpa using e1
    have g2 : (a0 == 2) = false := by simpa using e2
    clear q1 q2 e1 e2
    subst e3
    go_enter Tryz.func30, Tryz.ntmps30
    go_upto_region 1 with fail
    rw [HW1.out, HTT.out]
    go_wp2_with (go_at_call 54; refine HSY.out.mono ?_; rintro e w2 ⟨rfl, s2, s3, s4⟩)
    go_ret
    rw [Q1.out, Q2.out]
    exact Stepped.from ⟨rfl, s2, s3, s4⟩ (Nat.le_refl _) N1.out K1.out
  · have Q1 := Lib.hid (HC.out.2.2.2 e1 e2 e3)
    have g1 : (a0 == 1) = false := by simpa using e1
    have g2 : (a0 == 2) = false := by simpa using e2
    have g3 : (a0 == 3) = false := by simpa using e3
    clear e1 e2 e3
    go_enter Tryz.func30, Tryz.ntmps30
    go_upto_region 1 with fail
    rw [HW1.out, HTT.out]
    go_wp2_with fail
    go_ret
    rw [Q1.out]
    refine Stepped.from (W1 := W1) (N := N) ⟨rfl, ?_, Tn.refl _ _ _, fun _ _ hk => hk⟩ (Nat.le_succ N) N1.out K1.out
    rw [if_neg (by decide)]
    exact HG1.out
end Go.Proofs.YtbkfmbkamocllaaGreatDoor
