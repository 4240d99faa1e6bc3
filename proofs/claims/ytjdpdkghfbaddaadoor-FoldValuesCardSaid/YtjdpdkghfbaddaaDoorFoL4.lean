/-
  THE LAW FoldValues: it answers true, whatever texts it is handed.
-/
import Derived.Test.YtjdpdkghfbaddaaDoorFoL1
namespace Go.Proofs.YtjdpdkghfbaddaaDoor
open Go.RowKit Tx

/-- a text without 13 -/
def no13 (l : List UInt8) : List UInt8 := l.filter (fun c => !(c == 13))
theorem no13_next {l : List UInt8} {k : Nat} {c : UInt8} (h : l[k]? = some c) : no13 (l.take (k + 1)) = no13 (l.take k) ++ (if c = 13 then [] else [c]) := by
  rw [List.take_add_one, h, Option.toList_some]
  unfold no13
  rw [List.filter_append]
  by_cases hc : c = 13
  · subst hc; rfl
  · rw [if_neg hc]
    simp [hc]
theorem no13_len (l : List UInt8) : (no13 l).length ≤ l.length := List.length_filter_le _ _
/-- the values of the first k -/
def vals (xs : List ByteArray) (k : Nat) : List (List UInt8) := (bts (xs.take k)).map val
theorem vals_zero (xs : List ByteArray) : vals xs 0 = [] := rfl
theorem vals_next {xs : List ByteArray} {k : Nat} {p : ByteArray} (h : xs[k]? = some p) : vals xs (k + 1) = vals xs k ++ [val p.data.toList] := by
  unfold vals
  rw [List.take_add_one, h, Option.toList_some]
  simp [bts]
theorem vals_len {xs : List ByteArray} {k : Nat} (h : k ≤ xs.length) : (vals xs k).length = k := by
  unfold vals bts
  rw [List.length_map, List.length_map, List.length_take]
  omega
theorem split_vals {sep : UInt8} (hs : sep = 44 ∨ sep = 59) {xs : List ByteArray} {k : Nat} (h : k ≤ xs.length) (h0 : 0 < k) : split1 sep (sepd sep (vals xs k)) = vals xs k := by
  unfold vals
  cases hb : bts (xs.take k) with
  | nil =>
    have := congrArg List.length hb
    unfold bts at this
    rw [List.length_map, List.length_take, List.length_nil] at this
    omega
  | cons x t =>
    have := spl_sepd hs t x []
    rw [List.nil_append] at this
    exact this

set_option maxHeartbeats 8000000 in
set_option maxRecDepth 100000 in
theorem foldValues_any (l : Value) (xs : List ByteArray) (comma : Bool) (w : World) (hO : Okw w) (hx : ReadT w.heap.size w l xs) (hxl : xs.length ≤ 140737488355328) (hxs : ∀ (k : Nat) (p : ByteArray), xs[k]? = some p → p.size ≤ 9223372036854775807) :
    Calls Tryd.prog 5 #[l, .bool comma] w (Holds w) := by
  obtain ⟨sp, zs, hsp, hzs, hcm⟩ : ∃ (sp : UInt8) (zs : Int), (sp = 44 ∨ sp = 59) ∧ (sp.toNat : Int) = zs ∧ ((comma = true ∧ zs = 44) ∨ (comma = false ∧ zs = 59)) := by
    cases comma
    · exact ⟨59, 59, .inr rfl, rfl, .inr ⟨rfl, rfl⟩⟩
    · exact ⟨44, 44, .inl rfl, rfl, .inl ⟨rfl, rfl⟩⟩
  have HA := Lib.hid (fun (W : World) h => awake_any W h)
  have HOK := Lib.hid (fun (W : World) (h : Below w.heap.size w W) => hO.below h)
  obtain ⟨A, cap, rfl, hx2⟩ := hx
  have HX2 := Lib.hid hx2
  have HXS := Lib.hid hxs
  have HV := Lib.hid (fun (s : ByteArray) (W : World) h => value_any s W h)
  have HP := Lib.hid (fun (s : ByteArray) (W : World) h1 h2 => plain_fold s W h1 h2)
  have HS := Lib.hid (fun (s : ByteArray) (W : World) h => split_any s sp W h)
  rw [hzs] at HS
  have HPl := Lib.hid plainT_any
  have HOne := Lib.hid (fun (W : World) => (show (convert 36 9 (.slice (some ⟨W.heap.size, 0, none⟩) 1 1)).run Tryd.prog (W.alloc (.cells #[.int .u8 zs] 5)) = .ok (.string ⟨#[sp]⟩) (W.alloc (.cells #[.int .u8 zs] 5)) from by
    have := oneByte (P := Tryd.prog) Tryd.underlying36 Tryd.underlying5 Tryd.underlying9 zs W
    rw [this, ← hzs]
    simp))
  have HSP := Lib.hid hsp
  have hO0 : Hid (OwnT w.heap.size w (.slice none 0 0) (sts (vals xs 0))) := OwnT.nil _ _
  clear hx2 hxs hO hsp hzs
  rcases hcm with ⟨rfl, rfl⟩ | ⟨rfl, rfl⟩
  case' inl =>
    go_enter Tryd.func5, Tryd.ntmps5
    go_wp2_with fail
    go_loopw [6, 7, 8] (fun sv wv iv wr => ∃ (k : Nat) (S : ByteArray) (v : Value), k ≤ xs.length ∧ k ≤ 10 ∧ sv = .string S ∧ wv = v ∧ iv = .int .i64 k ∧ S.size ≤ 201 * k ∧ Hid (S.data.toList = sepd sp (vals xs k)) ∧ Hid (OwnT w.heap.size wr v (sts (vals xs k))) ∧ Below w.heap.size w wr) (fun _ _ iv _ => 10 - (intOf iv).toNat)
    case atStart => exact ⟨0, ⟨#[]⟩, _, Nat.zero_le _, Nat.zero_le _, rfl, rfl, rfl, Nat.le_refl _, rfl, hO0, Below.refl _ _⟩
    case round =>
      obtain ⟨k, S, lv, hk, hk10, rfl, hlv, rfl, hSz, hS, hown, hb⟩ := hrel
      have hlv2 := hlv.symm
      subst hlv2
      have hsw := hb.size
      by_cases hlt : k < xs.length ∧ k < 10
      · obtain ⟨hlt1, hlt2⟩ := hlt
        obtain ⟨ad, rfl, hlb, hcl⟩ := HX2.out (by omega)
        obtain ⟨p, hp⟩ : ∃ p, xs[k]? = some p := ⟨_, List.getElem?_eq_getElem hlt1⟩
        have c0 := hcl k p hp
        have hps := HXS.out k p hp
        rw [← hb.cell (p := ad.add k) (by rw [addBlock]; exact hlb)] at c0
        by_cases h100 : 100 < p.size
        · clear hcl hp
          go_wp2_with fail
          refine (HA.out wr (HOK.out wr hb)).mono ?_
          rintro e w1 ⟨rfl, b1⟩
          go_wp2_with fail
          go_ret
          exact ⟨rfl, hb.trans (b1.mono hsw)⟩
        · have hvn := Lib.hid (vals_next hp)
          have HVp := HV.out p wr (by omega)
          have hvl := val_len p.data.toList
          rw [← Lib.size_eq] at hvl
          obtain ⟨V, hV⟩ : ∃ V : ByteArray, ⟨(val p.data.toList).toArray⟩ = V := ⟨_, rfl⟩
          have hVl : Hid (V.data.toList = val p.data.toList) := by unfold Hid; rw [← hV]
          have hVs : V.size ≤ 200 := by rw [Lib.size_eq, hVl.out]; omega
          rw [hV] at HVp
          have HVO := Lib.hid HVp
          have hpz := Lib.hid (Lib.size_eq p)
          have HAL : Hid ((sts (vals xs k)).length ≤ 1000000000000) := by unfold Hid; rw [sts_len, vals_len hk]; omega
          have HPV := fun (W : World) h => HP.out V W h (by omega)
          rw [plainV_some (show plain V.data.toList = some (no13 p.data.toList) by rw [hVl.out]; exact plain_val _)] at HPV
          have HPO := Lib.hid HPV
          have hst2 : Hid (sts (vals xs (k + 1)) = sts (vals xs k) ++ [V]) := by unfold Hid; rw [hvn.out, sts_snoc, hV]
          clear hcl hp hvl hV HVp HPV
          go_wp2_with fail
          refine HVO.out.mono ?_
          rintro e w1 ⟨rfl, b1⟩
          have hb1 : Below w.heap.size w w1 := hb.trans (b1.mono hsw)
          have hs1 := hb1.size
          have c1 := c0
          rw [← b1.cell (p := ad.add k) (by rw [addBlock]; omega)] at c1
          have hown1 := Lib.hid (hown.out.below b1)
          clear c0 b1
          go_wp2_with fail
          go_loop [10, 11] (fun bv jv => ∃ (j : Nat) (B : ByteArray), j ≤ p.size ∧ bv = .string B ∧ jv = .int .i64 j ∧ B.size ≤ j ∧ Hid (B.data.toList = no13 (p.data.toList.take j))) (fun _ jv => p.size - (intOf jv).toNat)
          case atStart => exact ⟨0, ⟨#[]⟩, Nat.zero_le _, rfl, rfl, Nat.le_refl _, rfl⟩
          case round =>
            obtain ⟨j, B, hj, rfl, rfl, hBs, hB⟩ := hrel
            by_cases hlj : j < p.size
            · have hnx := no13_next (Lib.data_getElem? p j hlj)
              have hcut := one_cut hlj
              obtain ⟨y, hy⟩ : ∃ y : Int, ((p[j]'hlj).toNat : Int) = y := ⟨_, rfl⟩
              by_cases h13 : (p[j]'hlj) = 13
              · rw [if_pos h13, List.append_nil] at hnx
                obtain rfl : y = 13 := by rw [← hy, h13]; rfl
                have HNX := Lib.hid hnx
                clear hnx h13 hcut
                go_wp2_with fail
                go_round
                case rel => exact ⟨j + 1, B, by omega, rfl, by go_num, by omega, by unfold Hid; rw [HNX.out]; exact hB.out⟩
                case measure => simp [intOf]; omega
              · rw [if_neg h13, ← hcut] at hnx
                have f0 : (y == 13) = false := byte_ne hy h13
                have f13 : (y != 13) = true := by simp only [bne, f0, Bool.not_false]
                have HNX := Lib.hid hnx
                clear hnx h13 hcut
                go_wp2_with fail
                go_round
                case rel => exact ⟨j + 1, _, by omega, rfl, by go_num, by rw [ByteArray.size_append, ByteArray.size_extract]; omega, by unfold Hid; rw [HNX.out, cat_list, hB.out]⟩
                case measure => simp [intOf]; omega
            · have hBall : (⟨(no13 p.data.toList).toArray⟩ : ByteArray) = B := by
                have := hB.out
                rw [List.take_of_length_le (by rw [← hpz.out]; omega)] at this
                exact (bytes_of this).symm
              have HPB := HPO.out
              rw [hBall] at HPB
              have HPO2 := Lib.hid HPB
              have hne : (B.toList != B.toList) = false := by simp
              clear hBall HPB
              by_cases hk0 : k = 0
              · have hS0 : Hid ((S ++ V).data.toList = sepd sp (vals xs (k + 1))) := by
                  unfold Hid
                  rw [cat_list, hS.out, hvn.out, hVl.out, hk0, vals_zero]
                  rfl
                have hk1 : (k : Int) ≤ 0 := by omega
                clear hk0
                go_wp2_with (at_builtin; refine push_str rfl _ _ rfl w.heap.size lv _ V w1 rfl hown1.out rfl HAL.out hs1 ?_)
                intro v' w4 h1 h2
                have R1 : Hid (OwnT w.heap.size w4 v' (sts (vals xs (k + 1)))) := by unfold Hid; rw [hst2.out]; exact h1
                have c4 : Below w.heap.size w w4 := hb1.trans h2
                clear h1 h2
                go_wp2_with fail
                refine (HPO2.out w4 (HOK.out w4 c4).2).mono ?_
                rintro e w5 ⟨rfl, b5⟩
                have c5 : Below w.heap.size w w5 := c4.trans (b5.mono c4.size)
                have R2 := Lib.hid (R1.out.below b5)
                clear b5
                go_wp2_with fail
                go_roundw
                case rel => exact ⟨k + 1, S ++ V, _, by omega, by omega, rfl, rfl, by go_num, by rw [ByteArray.size_append]; omega, hS0, R2, c5⟩
                case measure => simp [intOf]; omega
              · have hS0 : Hid ((S ++ ⟨#[sp]⟩ ++ V).data.toList = sepd sp (vals xs (k + 1))) := by
                  unfold Hid
                  rw [cat_list, cat_list, hS.out, hvn.out, hVl.out, sepd_snoc _ _ _ (by intro e; have := congrArg List.length e; rw [vals_len hk] at this; exact hk0 this)]
                  simp
                have hcv := HOne.out w1
                have hk1 : (0 : Int) < (k : Int) := by omega
                have hown2 := Lib.hid (hown1.out.below ((Below.refl _ _).alloc (Nat.le_refl _) (.cells #[.int .u8 44] 5)))
                have hs2 : w.heap.size ≤ (w1.alloc (.cells #[.int .u8 44] 5)).heap.size := by rw [World.size_alloc]; omega
                have hb2 : Below w.heap.size w (w1.alloc (.cells #[.int .u8 44] 5)) := hb1.alloc hs1 _
                go_wp2_with (at_builtin; refine push_str rfl _ _ rfl w.heap.size lv _ V (w1.alloc (.cells #[.int .u8 44] 5)) rfl hown2.out (by rw [World.size_alloc]; rfl) HAL.out hs2 ?_)
                intro v' w4 h1 h2
                have R1 : Hid (OwnT w.heap.size w4 v' (sts (vals xs (k + 1)))) := by unfold Hid; rw [hst2.out]; exact h1
                have c4 : Below w.heap.size w w4 := hb2.trans h2
                clear h1 h2
                go_wp2_with fail
                refine (HPO2.out w4 (HOK.out w4 c4).2).mono ?_
                rintro e w5 ⟨rfl, b5⟩
                have c5 : Below w.heap.size w w5 := c4.trans (b5.mono c4.size)
                have R2 := Lib.hid (R1.out.below b5)
                clear b5
                go_wp2_with fail
                go_roundw
                case rel => exact ⟨k + 1, S ++ ⟨#[sp]⟩ ++ V, _, by omega, by omega, rfl, rfl, by go_num, by rw [ByteArray.size_append, ByteArray.size_append]; show S.size + 1 + V.size ≤ _; omega, hS0, R2, c5⟩
                case measure => simp [intOf]; omega
      · obtain ⟨A2, cap2, hlv⟩ := hown.out.slice
        have hvl := vals_len hk
        rw [sts_len, hvl] at hlv
        have hstop : (k : Int) = xs.length ∨ ((k : Int) < xs.length ∧ (k : Int) = 10) := by omega
        have HSS := HS.out S
        by_cases hk0 : k = 0
        · subst hk0
          have hx0 : xs.length = 0 := by omega
          have hSe : S.data.toList = [] := hS.out
          have hSp : sts (split1 sp S.data.toList) = [⟨#[]⟩] := by rw [hSe]; rfl
          rw [hSp] at HSS
          have HSO := Lib.hid (fun (W : World) => HSS W (by omega))
          subst hlv
          clear hvl hSe hSp HSS hstop
          go_wp2_with fail
          have hb2 : Below w.heap.size w (wr.alloc (.cells #[.string ⟨#[]⟩] 9)) := hb.alloc hsw _
          refine (HA.out _ (HOK.out _ hb2)).mono ?_
          rintro e w1 ⟨rfl, b1⟩
          have c1 : Below w.heap.size w w1 := hb2.trans (b1.mono hb2.size)
          have r1 : Hid (ReadT w1.heap.size w1 (.slice (some ⟨wr.heap.size, 0, none⟩) 1 1) [⟨#[]⟩]) := by
            have := ReadT.made (w := wr.alloc (.cells #[.string ⟨#[]⟩] 9)) (g := wr.heap.size) (cap := 1) (n := 1) (o := 0) (x := [⟨#[]⟩]) rfl (by simp) (fun i b hb => by
              match i, hb with
              | 0, hb =>
                cases hb
                exact cell_of_row _ _ 0 _ 9 (0, 0) (heap_alloc_new wr _))
            exact (this.below b1).more b1.size
          clear b1 hb2
          go_wp2_with fail
          refine (HSO.out w1).mono ?_
          rintro e w2 ⟨v2, rfl, hv2, b2⟩
          have c2 : Below w.heap.size w w2 := c1.trans (b2.mono c1.size)
          have HV2 := Lib.hid hv2.reads
          have r2 := Lib.hid ((r1.out.below b2).more b2.size)
          clear hv2 b2
          go_wp2_with fail
          refine (HPl.out w2.heap.size v2 _ [⟨#[]⟩] [⟨#[]⟩] w2 HV2.out r2.out (by simp) (by simp)).mono ?_
          rintro e w3 ⟨rfl, b3⟩
          rw [decide_eq_true (rfl : [(⟨#[]⟩ : ByteArray)] = [⟨#[]⟩])]
          go_wp2_with fail
          go_ret
          exact ⟨rfl, c2.trans (b3.mono c2.size)⟩
        · have hSp : split1 sp S.data.toList = vals xs k := by rw [hS.out]; exact split_vals HSP.out hk (by omega)
          rw [hSp] at HSS
          obtain ⟨LL, hLL⟩ : ∃ LL, sts (vals xs k) = LL := ⟨_, rfl⟩
          have hLl : LL.length ≤ 10 := by rw [← hLL, sts_len, hvl]; exact hk10
          rw [hLL] at HSS hown
          have HSO := Lib.hid (fun (W : World) => HSS W (by omega))
          have HOr := Lib.hid hown.out.reads
          subst hlv
          clear hvl hSp hLL HSS
          rcases hstop with hstop | ⟨hst1, hst2⟩
          all_goals
            go_wp2_with fail
            refine (HA.out _ (HOK.out _ hb)).mono ?_
            rintro e w1 ⟨rfl, b1⟩
            have c1 : Below w.heap.size w w1 := hb.trans (b1.mono hsw)
            have r1 := Lib.hid ((HOr.out.below b1).more b1.size)
            clear b1
            go_wp2_with fail
            refine (HSO.out w1).mono ?_
            rintro e w2 ⟨v2, rfl, hv2, b2⟩
            have c2 : Below w.heap.size w w2 := c1.trans (b2.mono c1.size)
            have HV2 := Lib.hid hv2.reads
            have r2 := Lib.hid ((r1.out.below b2).more b2.size)
            clear hv2 b2
            go_wp2_with fail
            refine (HPl.out w2.heap.size v2 _ LL LL w2 HV2.out r2.out (by omega) (by omega)).mono ?_
            rintro e w3 ⟨rfl, b3⟩
            rw [decide_eq_true (rfl : LL = LL)]
            go_wp2_with fail
            go_ret
            exact ⟨rfl, c2.trans (b3.mono c2.size)⟩
  case' inr =>
    go_enter Tryd.func5, Tryd.ntmps5
    go_wp2_with fail
    go_loopw [6, 7, 8] (fun sv wv iv wr => ∃ (k : Nat) (S : ByteArray) (v : Value), k ≤ xs.length ∧ k ≤ 10 ∧ sv = .string S ∧ wv = v ∧ iv = .int .i64 k ∧ S.size ≤ 201 * k ∧ Hid (S.data.toList = sepd sp (vals xs k)) ∧ Hid (OwnT w.heap.size wr v (sts (vals xs k))) ∧ Below w.heap.size w wr) (fun _ _ iv _ => 10 - (intOf iv).toNat)
    case atStart => exact ⟨0, ⟨#[]⟩, _, Nat.zero_le _, Nat.zero_le _, rfl, rfl, rfl, Nat.le_refl _, rfl, hO0, Below.refl _ _⟩
    case round =>
      obtain ⟨k, S, lv, hk, hk10, rfl, hlv, rfl, hSz, hS, hown, hb⟩ := hrel
      have hlv2 := hlv.symm
      subst hlv2
      have hsw := hb.size
      by_cases hlt : k < xs.length ∧ k < 10
      · obtain ⟨hlt1, hlt2⟩ := hlt
        obtain ⟨ad, rfl, hlb, hcl⟩ := HX2.out (by omega)
        obtain ⟨p, hp⟩ : ∃ p, xs[k]? = some p := ⟨_, List.getElem?_eq_getElem hlt1⟩
        have c0 := hcl k p hp
        have hps := HXS.out k p hp
        rw [← hb.cell (p := ad.add k) (by rw [addBlock]; exact hlb)] at c0
        by_cases h100 : 100 < p.size
        · clear hcl hp
          go_wp2_with fail
          refine (HA.out wr (HOK.out wr hb)).mono ?_
          rintro e w1 ⟨rfl, b1⟩
          go_wp2_with fail
          go_ret
          exact ⟨rfl, hb.trans (b1.mono hsw)⟩
        · have hvn := Lib.hid (vals_next hp)
          have HVp := HV.out p wr (by omega)
          have hvl := val_len p.data.toList
          rw [← Lib.size_eq] at hvl
          obtain ⟨V, hV⟩ : ∃ V : ByteArray, ⟨(val p.data.toList).toArray⟩ = V := ⟨_, rfl⟩
          have hVl : Hid (V.data.toList = val p.data.toList) := by unfold Hid; rw [← hV]
          have hVs : V.size ≤ 200 := by rw [Lib.size_eq, hVl.out]; omega
          rw [hV] at HVp
          have HVO := Lib.hid HVp
          have hpz := Lib.hid (Lib.size_eq p)
          have HAL : Hid ((sts (vals xs k)).length ≤ 1000000000000) := by unfold Hid; rw [sts_len, vals_len hk]; omega
          have HPV := fun (W : World) h => HP.out V W h (by omega)
          rw [plainV_some (show plain V.data.toList = some (no13 p.data.toList) by rw [hVl.out]; exact plain_val _)] at HPV
          have HPO := Lib.hid HPV
          have hst2 : Hid (sts (vals xs (k + 1)) = sts (vals xs k) ++ [V]) := by unfold Hid; rw [hvn.out, sts_snoc, hV]
          clear hcl hp hvl hV HVp HPV
          go_wp2_with fail
          refine HVO.out.mono ?_
          rintro e w1 ⟨rfl, b1⟩
          have hb1 : Below w.heap.size w w1 := hb.trans (b1.mono hsw)
          have hs1 := hb1.size
          have c1 := c0
          rw [← b1.cell (p := ad.add k) (by rw [addBlock]; omega)] at c1
          have hown1 := Lib.hid (hown.out.below b1)
          clear c0 b1
          go_wp2_with fail
          go_loop [10, 11] (fun bv jv => ∃ (j : Nat) (B : ByteArray), j ≤ p.size ∧ bv = .string B ∧ jv = .int .i64 j ∧ B.size ≤ j ∧ Hid (B.data.toList = no13 (p.data.toList.take j))) (fun _ jv => p.size - (intOf jv).toNat)
          case atStart => exact ⟨0, ⟨#[]⟩, Nat.zero_le _, rfl, rfl, Nat.le_refl _, rfl⟩
          case round =>
            obtain ⟨j, B, hj, rfl, rfl, hBs, hB⟩ := hrel
            by_cases hlj : j < p.size
            · have hnx := no13_next (Lib.data_getElem? p j hlj)
              have hcut := one_cut hlj
              obtain ⟨y, hy⟩ : ∃ y : Int, ((p[j]'hlj).toNat : Int) = y := ⟨_, rfl⟩
              by_cases h13 : (p[j]'hlj) = 13
              · rw [if_pos h13, List.append_nil] at hnx
                obtain rfl : y = 13 := by rw [← hy, h13]; rfl
                have HNX := Lib.hid hnx
                clear hnx h13 hcut
                go_wp2_with fail
                go_round
                case rel => exact ⟨j + 1, B, by omega, rfl, by go_num, by omega, by unfold Hid; rw [HNX.out]; exact hB.out⟩
                case measure => simp [intOf]; omega
              · rw [if_neg h13, ← hcut] at hnx
                have f0 : (y == 13) = false := byte_ne hy h13
                have f13 : (y != 13) = true := by simp only [bne, f0, Bool.not_false]
                have HNX := Lib.hid hnx
                clear hnx h13 hcut
                go_wp2_with fail
                go_round
                case rel => exact ⟨j + 1, _, by omega, rfl, by go_num, by rw [ByteArray.size_append, ByteArray.size_extract]; omega, by unfold Hid; rw [HNX.out, cat_list, hB.out]⟩
                case measure => simp [intOf]; omega
            · have hBall : (⟨(no13 p.data.toList).toArray⟩ : ByteArray) = B := by
                have := hB.out
                rw [List.take_of_length_le (by rw [← hpz.out]; omega)] at this
                exact (bytes_of this).symm
              have HPB := HPO.out
              rw [hBall] at HPB
              have HPO2 := Lib.hid HPB
              have hne : (B.toList != B.toList) = false := by simp
              clear hBall HPB
              by_cases hk0 : k = 0
              · have hS0 : Hid ((S ++ V).data.toList = sepd sp (vals xs (k + 1))) := by
                  unfold Hid
                  rw [cat_list, hS.out, hvn.out, hVl.out, hk0, vals_zero]
                  rfl
                have hk1 : (k : Int) ≤ 0 := by omega
                clear hk0
                go_wp2_with (at_builtin; refine push_str rfl _ _ rfl w.heap.size lv _ V w1 rfl hown1.out rfl HAL.out hs1 ?_)
                intro v' w4 h1 h2
                have R1 : Hid (OwnT w.heap.size w4 v' (sts (vals xs (k + 1)))) := by unfold Hid; rw [hst2.out]; exact h1
                have c4 : Below w.heap.size w w4 := hb1.trans h2
                clear h1 h2
                go_wp2_with fail
                refine (HPO2.out w4 (HOK.out w4 c4).2).mono ?_
                rintro e w5 ⟨rfl, b5⟩
                have c5 : Below w.heap.size w w5 := c4.trans (b5.mono c4.size)
                have R2 := Lib.hid (R1.out.below b5)
                clear b5
                go_wp2_with fail
                go_roundw
                case rel => exact ⟨k + 1, S ++ V, _, by omega, by omega, rfl, rfl, by go_num, by rw [ByteArray.size_append]; omega, hS0, R2, c5⟩
                case measure => simp [intOf]; omega
              · have hS0 : Hid ((S ++ ⟨#[sp]⟩ ++ V).data.toList = sepd sp (vals xs (k + 1))) := by
                  unfold Hid
                  rw [cat_list, cat_list, hS.out, hvn.out, hVl.out, sepd_snoc _ _ _ (by intro e; have := congrArg List.length e; rw [vals_len hk] at this; exact hk0 this)]
                  simp
                have hcv := HOne.out w1
                have hk1 : (0 : Int) < (k : Int) := by omega
                have hown2 := Lib.hid (hown1.out.below ((Below.refl _ _).alloc (Nat.le_refl _) (.cells #[.int .u8 59] 5)))
                have hs2 : w.heap.size ≤ (w1.alloc (.cells #[.int .u8 59] 5)).heap.size := by rw [World.size_alloc]; omega
                have hb2 : Below w.heap.size w (w1.alloc (.cells #[.int .u8 59] 5)) := hb1.alloc hs1 _
                go_wp2_with (at_builtin; refine push_str rfl _ _ rfl w.heap.size lv _ V (w1.alloc (.cells #[.int .u8 59] 5)) rfl hown2.out (by rw [World.size_alloc]; rfl) HAL.out hs2 ?_)
                intro v' w4 h1 h2
                have R1 : Hid (OwnT w.heap.size w4 v' (sts (vals xs (k + 1)))) := by unfold Hid; rw [hst2.out]; exact h1
                have c4 : Below w.heap.size w w4 := hb2.trans h2
                clear h1 h2
                go_wp2_with fail
                refine (HPO2.out w4 (HOK.out w4 c4).2).mono ?_
                rintro e w5 ⟨rfl, b5⟩
                have c5 : Below w.heap.size w w5 := c4.trans (b5.mono c4.size)
                have R2 := Lib.hid (R1.out.below b5)
                clear b5
                go_wp2_with fail
                go_roundw
                case rel => exact ⟨k + 1, S ++ ⟨#[sp]⟩ ++ V, _, by omega, by omega, rfl, rfl, by go_num, by rw [ByteArray.size_append, ByteArray.size_append]; show S.size + 1 + V.size ≤ _; omega, hS0, R2, c5⟩
                case measure => simp [intOf]; omega
      · obtain ⟨A2, cap2, hlv⟩ := hown.out.slice
        have hvl := vals_len hk
        rw [sts_len, hvl] at hlv
        have hstop : (k : Int) = xs.length ∨ ((k : Int) < xs.length ∧ (k : Int) = 10) := by omega
        have HSS := HS.out S
        by_cases hk0 : k = 0
        · subst hk0
          have hx0 : xs.length = 0 := by omega
          have hSe : S.data.toList = [] := hS.out
          have hSp : sts (split1 sp S.data.toList) = [⟨#[]⟩] := by rw [hSe]; rfl
          rw [hSp] at HSS
          have HSO := Lib.hid (fun (W : World) => HSS W (by omega))
          subst hlv
          clear hvl hSe hSp HSS hstop
          go_wp2_with fail
          have hb2 : Below w.heap.size w (wr.alloc (.cells #[.string ⟨#[]⟩] 9)) := hb.alloc hsw _
          refine (HA.out _ (HOK.out _ hb2)).mono ?_
          rintro e w1 ⟨rfl, b1⟩
          have c1 : Below w.heap.size w w1 := hb2.trans (b1.mono hb2.size)
          have r1 : Hid (ReadT w1.heap.size w1 (.slice (some ⟨wr.heap.size, 0, none⟩) 1 1) [⟨#[]⟩]) := by
            have := ReadT.made (w := wr.alloc (.cells #[.string ⟨#[]⟩] 9)) (g := wr.heap.size) (cap := 1) (n := 1) (o := 0) (x := [⟨#[]⟩]) rfl (by simp) (fun i b hb => by
              match i, hb with
              | 0, hb =>
                cases hb
                exact cell_of_row _ _ 0 _ 9 (0, 0) (heap_alloc_new wr _))
            exact (this.below b1).more b1.size
          clear b1 hb2
          go_wp2_with fail
          refine (HSO.out w1).mono ?_
          rintro e w2 ⟨v2, rfl, hv2, b2⟩
          have c2 : Below w.heap.size w w2 := c1.trans (b2.mono c1.size)
          have HV2 := Lib.hid hv2.reads
          have r2 := Lib.hid ((r1.out.below b2).more b2.size)
          clear hv2 b2
          go_wp2_with fail
          refine (HPl.out w2.heap.size v2 _ [⟨#[]⟩] [⟨#[]⟩] w2 HV2.out r2.out (by simp) (by simp)).mono ?_
          rintro e w3 ⟨rfl, b3⟩
          rw [decide_eq_true (rfl : [(⟨#[]⟩ : ByteArray)] = [⟨#[]⟩])]
          go_wp2_with fail
          go_ret
          exact ⟨rfl, c2.trans (b3.mono c2.size)⟩
        · have hSp : split1 sp S.data.toList = vals xs k := by rw [hS.out]; exact split_vals HSP.out hk (by omega)
          rw [hSp] at HSS
          obtain ⟨LL, hLL⟩ : ∃ LL, sts (vals xs k) = LL := ⟨_, rfl⟩
          have hLl : LL.length ≤ 10 := by rw [← hLL, sts_len, hvl]; exact hk10
          rw [hLL] at HSS hown
          have HSO := Lib.hid (fun (W : World) => HSS W (by omega))
          have HOr := Lib.hid hown.out.reads
          subst hlv
          clear hvl hSp hLL HSS
          rcases hstop with hstop | ⟨hst1, hst2⟩
          all_goals
            go_wp2_with fail
            refine (HA.out _ (HOK.out _ hb)).mono ?_
            rintro e w1 ⟨rfl, b1⟩
            have c1 : Below w.heap.size w w1 := hb.trans (b1.mono hsw)
            have r1 := Lib.hid ((HOr.out.below b1).more b1.size)
            clear b1
            go_wp2_with fail
            refine (HSO.out w1).mono ?_
            rintro e w2 ⟨v2, rfl, hv2, b2⟩
            have c2 : Below w.heap.size w w2 := c1.trans (b2.mono c1.size)
            have HV2 := Lib.hid hv2.reads
            have r2 := Lib.hid ((r1.out.below b2).more b2.size)
            clear hv2 b2
            go_wp2_with fail
            refine (HPl.out w2.heap.size v2 _ LL LL w2 HV2.out r2.out (by omega) (by omega)).mono ?_
            rintro e w3 ⟨rfl, b3⟩
            rw [decide_eq_true (rfl : LL = LL)]
            go_wp2_with fail
            go_ret
            exact ⟨rfl, c2.trans (b3.mono c2.size)⟩
end Go.Proofs.YtjdpdkghfbaddaaDoor
