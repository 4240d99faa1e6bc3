/-
  package tree: blank; end, say, take.
-/
import Derived.Test.YtpomcamkkcggmaaGreatDoorTrB
import Derived.Test.YtpomcamkkcggmaaGreatDoorShelf
import Derived.Shelf.Strings.SlTrimAscii
namespace Go.Proofs.YtpomcamkkcggmaaGreatDoor
open Go.RowKit Tk Tr

theorem drop_all {p : UInt8 → Bool} : ∀ l : List UInt8, l.dropWhile p = [] ↔ l.all p = true
  | [] => by simp
  | c :: l => by
    have := drop_all (p := p) l
    rw [List.dropWhile_cons, List.all_cons]
    cases p c <;> simp [this]
theorem trim_blank (l : List UInt8) : (Lib.trimS l [9, 10, 13, 32]).isEmpty = blankL l := by
  have hp : ∀ c : UInt8, ([9, 10, 13, 32] : List UInt8).contains c = bl c := fun c => by
    simp only [List.contains_cons, List.contains_nil, Bool.or_false, bl, Bool.or_assoc]
  have hd : ∀ (m : List UInt8), m.dropWhile (fun c => ([9, 10, 13, 32] : List UInt8).contains c) = [] ↔ m.all bl = true := fun m => by
    rw [drop_all, show (fun c => ([9, 10, 13, 32] : List UInt8).contains c) = bl from funext hp]
  have e : (Lib.trimS l [9, 10, 13, 32] = []) ↔ blankL l = true := by
    unfold Lib.trimS Lib.trimLeftS
    rw [hd]
    unfold Lib.trimRightS blankL
    rw [List.all_reverse]
    constructor
    · intro h
      have h2 := List.takeWhile_append_dropWhile (p := fun c => ([9, 10, 13, 32] : List UInt8).contains c) (l := l.reverse)
      rw [← List.all_reverse, ← h2, List.all_append, h, Bool.and_true, List.all_eq_true]
      intro x hx
      rw [← hp]
      exact mem_while (p := fun c => ([9, 10, 13, 32] : List UInt8).contains c) hx
    · intro h
      have h2 := (hd l.reverse).2 (by rw [List.all_reverse]; exact h)
      rw [h2]
      rfl
  rw [Bool.eq_iff_iff, List.isEmpty_iff]
  exact e
set_option maxHeartbeats 1000000 in
theorem blankTr_any (s : List UInt8) (w : World) (hs : s.length ≤ 9000000000000000000) :
    Calls Tryz.prog 35 #[.string (bts s)] w fun e w' => e = .returned (.bool (blankL s)) ∧ Below w.heap.size w w' := by
  have h0 : Calls Tryz.prog 56 #[.string (bts s), .string ⟨#[9, 10, 13, 32]⟩] w fun e w' => e = .returned (.string (bts (Lib.trimS s [9, 10, 13, 32]))) ∧ Below w.heap.size w w' :=
    Any.strings_Trim_laid Tryz.lays160 (by kernel_rfl) (bts s) ⟨#[9, 10, 13, 32]⟩ w (by rw [Lib.size_eq]; exact Nat.le_trans hs (by omega)) (by show 4 < 4294967281; omega) (ascii_of_all (by decide))
  have HT := Lib.hid h0
  have hb := trim_blank s
  obtain ⟨r, hr⟩ : ∃ r, Lib.trimS s [9, 10, 13, 32] = r := ⟨_, rfl⟩
  rw [hr] at HT hb
  have he : (bts r).toList.isEmpty = blankL s := by rw [ByteArray.toList_mk]; exact hb
  generalize bts r = R at *
  generalize blankL s = q at *
  generalize bts s = S at *
  clear h0 hb hr hs
  go_enter Tryz.func35, Tryz.ntmps35
  go_wp2_with (go_at_call 56; refine HT.out.mono ?_; rintro e w1 ⟨rfl, b1⟩)
  go_ret
  exact ⟨rfl, b1⟩
theorem same_name {st : St} {p : Nat} {x : Nd} (hp : st.2.getLast? = some p) (hx : st.1[p]? = some x) (n : List UInt8) : sameName st n = decide (x.2.2.1 = n) := by
  unfold sameName
  rw [hp]
  simp only
  rw [hx]
theorem same_none {st : St} (hp : st.2.getLast? = none) (n : List UInt8) : sameName st n = false := by
  unfold sameName
  rw [hp]
set_option maxHeartbeats 4000000 in
set_option maxRecDepth 100000 in
theorem end_any (N B G : Nat) (w : World) (st : St) (n : List UInt8) (h : GS N B G w st) (hok : OkS st) (hG : G < B) (hB : B ≤ w.heap.size) :
    Calls Tryz.prog 32 #[.pointer (some ⟨G, 0, none⟩), .string (bts n)] w fun e w' => Stepped N B G w (if sameName st n = true then 0 else 6) st (st.1, st.2.dropLast) e w' := by
  obtain ⟨A, cap, OA, ocap, gb, ge, go⟩ := h.cells
  have c1 : w.cell? ⟨G, 1, none⟩ = some (.slice OA st.2.length ocap) := gb.cell 1
  have c0 : w.cell? ⟨G, 0, none⟩ = some (.slice A st.1.length cap) := gb.cell 0
  have HTOP := Lib.hid (top_any B G w _ st.2 c1 go (by have := hok.deep; omega) (fun p hp => by have := hok.open_ p hp; have := hok.many; omega))
  have HGS := Lib.hid h
  have HGE := Lib.hid ge
  have HOK := Lib.hid hok
  have GB := Lib.hid gb
  have HG := Lib.hid hG
  have HB := Lib.hid hB
  cases ho : st.2.getLast? with
  | none =>
    have hd : decide (st.2 ≠ []) = false := decide_eq_false (fun h => h (List.getLast?_eq_none_iff.1 ho))
    rw [same_none ho n, if_neg (by decide)]
    rw [hd, ho] at HTOP
    clear h hok gb ge go c0 c1 ho hd hG hB
    go_enter Tryz.func32, Tryz.ntmps32
    go_wp2_with (go_at_call 53; refine HTOP.out.mono ?_; rintro e w1 ⟨rfl, b1⟩)
    go_ret
    exact ⟨rfl, HGS.out.below b1, (Tn.of b1).mono HB.out, KeepT.below b1⟩
  | some p =>
    have hoe : st.2 ≠ [] := fun e => by rw [e] at ho; cases ho
    have hd : decide (st.2 ≠ []) = true := decide_eq_true hoe
    have hpl : p < st.1.length := hok.open_ p (List.mem_of_getLast? ho)
    have hpb : p < 1000 := by have := hok.many; omega
    obtain ⟨x, hx⟩ : ∃ x, st.1[p]? = some x := ⟨_, List.getElem?_eq_getElem hpl⟩
    have hsn := same_name ho hx n
    rw [hd, ho] at HTOP
    have HPL := Lib.hid hpl
    have hpi : (p : Int) < (st.1.length : Int) := by omega
    obtain ⟨m, hm⟩ : ∃ m, st.1.length = m := ⟨_, rfl⟩
    rw [hm] at hpl c0 hpi GB HGE
    have HM := Lib.hid hm
    have HX := Lib.hid hx
    have hne := bts_eqb2 x.2.2.1 n
    rw [← hsn] at hne
    obtain ⟨y, hy⟩ : ∃ y, bts x.2.2.1 = y := ⟨_, rfl⟩
    rw [hy] at hne
    have HY := Lib.hid hy
    have HOE := Lib.hid hoe
    generalize sameName st n = q at *
    generalize bts n = nb at *
    clear h hok gb ge go c0 c1 ho hd hG hB hx hy hm hoe hsn
    go_enter Tryz.func32, Tryz.ntmps32
    go_upto_region 2 with (go_at_call 53; refine HTOP.out.mono ?_; rintro e w1 ⟨rfl, b1⟩)
    have E1 := HGE.out.below b1
    rw [← HM.out] at E1
    obtain ⟨gE, cE, e1, hBg, hgl, ⟨cs, hcs⟩, hat⟩ := E1.at (by have := HPL.out; omega)
    injection e1 with e1 _ e2
    subst e1 e2
    obtain ⟨av, tv, ⟨_, _, k2, _, _, _, _, _⟩, _⟩ := hat p x HX.out
    rw [HY.out] at k2
    have c0 : w1.cell? ⟨G, 0, none⟩ = some (.slice (some ⟨gE, 0, none⟩) m cap) := (GB.out.below b1 GB.out.lt).cell 0
    have G1 := Lib.hid (HGS.out.below b1)
    have B1 : Hid (Tn G B w w1) := (Tn.of b1).mono HB.out
    have KK1 : Hid (KeepT 45 w w1) := KeepT.below b1
    have Z1 : Hid (B ≤ w1.heap.size) := Nat.le_trans HB.out b1.size
    clear b1 E1 hat hcs hBg hgl
    cases q with
    | false =>
      go_wp2_with fail
      go_ret
      exact ⟨rfl, G1.out, B1.out, KK1.out⟩
    | true =>
      have HTK := Lib.hid (take_any N B G w1 st.1 st.2 G1.out (by have := HOK.out.deep; omega) HOE.out)
      go_wp2_with (go_at_call 55; refine HTK.out.mono ?_; rintro e w2 ⟨rfl, g2, n2, k2⟩)
      go_ret
      exact ⟨rfl, g2, B1.out.trans n2, KK1.out.trans k2⟩
end Go.Proofs.YtpomcamkkcggmaaGreatDoor
