/-
  THE LAW FoldTells: it answers true, whatever lines, text and separator it is handed.
-/
import Derived.Test.YtjdpdkghfbaddaaDoorFoAw
namespace Go.Proofs.YtjdpdkghfbaddaaDoor
open Go.RowKit Tx

theorem linesA_len : ∀ (rs acc m : List (List UInt8)), linesA acc rs = some m → m.length ≤ acc.length + rs.length
  | [], acc, m, h => by
    obtain rfl : acc = m := Option.some.inj h
    simp
  | r :: t, acc, m, h => by
    cases hc : cont r with
    | true =>
      by_cases ha : acc = []
      · subst ha; rw [linesA_bad t hc] at h; cases h
      · rw [linesA_more t hc ha] at h
        have := linesA_len t _ m h
        rw [addLast_len ha] at this
        simp; omega
    | false =>
      rw [linesA_new acc t hc] at h
      have := linesA_len t _ m h
      rw [List.length_append, List.length_singleton] at this
      simp; omega
theorem ends_len : ∀ rs : List (List UInt8), 2 * rs.length ≤ (ends rs).length
  | [] => by simp
  | r :: t => by
    have := ends_len t
    rw [ends_cons, List.length_append, List.length_cons, List.length_cons, List.length_cons]
    omega
theorem unfA_len (l : List UInt8) : (unfA l).1.length ≤ l.length := by
  unfold unfA
  split
  · simp
  split
  · split
    · rename_i m h
      unfold Tx.unfold at h
      cases hr : rowsA [] l with
      | none => rw [hr] at h; cases h
      | some rs =>
        rw [hr] at h
        have h1 := linesA_len rs [] m h
        have h2 := ends_len rs
        rw [rowsA_back _ _ _ _ (Nat.le_refl _) hr] at h2
        simp at h1 h2
        simp only
        omega
    · simp
  · simp
theorem plainV_form (l : List UInt8) : ∃ (X : ByteArray) (n : Int), plainV l = .tuple #[.string X, .int .i64 n] := by
  cases h : plain l with
  | none => exact ⟨_, _, plainV_none h⟩
  | some x => exact ⟨_, _, plainV_some h⟩

set_option maxHeartbeats 4000000 in
set_option maxRecDepth 100000 in
theorem foldTells_any (l : Value) (xs : List ByteArray) (s : ByteArray) (sep : Int) (w : World) (hO : Okw w) (hx : ReadT w.heap.size w l xs) (hb : bulk xs ≤ 10000000) (hs : s.size ≤ 10000000) (hs0 : 0 ≤ sep) (hs1 : sep < 256) :
    Calls Tryd.prog 3 #[l, .string s, .int .u8 sep] w (Holds w) := by
  obtain ⟨c, hc⟩ : ∃ c : UInt8, (c.toNat : Int) = sep := ⟨UInt8.ofNat sep.toNat, by rw [UInt8.toNat_ofNat']; omega⟩
  have HA := Lib.hid (fun (W : World) h => awake_any W h)
  have HOK := Lib.hid (fun (W : World) (h : Below w.heap.size w W) => hO.below h)
  have HX := Lib.hid hx
  obtain ⟨A, cap, rfl, hx2⟩ := hx
  have hlen := bulk_len xs
  have HX2 := Lib.hid hx2
  have HBT := Lib.hid (fun (k : Nat) (p : ByteArray) (h : xs[k]? = some p) => (show bulk (xs.take (k + 1)) = bulk (xs.take k) + (p.size + 3) by rw [List.take_add_one, h, Option.toList_some, bulk_snoc]))
  have HBO := Lib.hid (fun (k : Nat) => bulk_take xs k)
  have HU := Lib.hid (fun (W : World) h1 h2 => unfold_any s W h1 h2 (by omega))
  have HRU := Lib.hid (fun (W : World) => runfold_any s W (by omega))
  obtain ⟨X, n, hX⟩ := plainV_form s.data.toList
  have hP := fun (W : World) h => plain_fold s W h (by omega)
  have hRP := fun (W : World) => rplain_any s W (by omega)
  rw [hX] at hP hRP
  have HP := Lib.hid hP
  have HRP := Lib.hid hRP
  have HF := Lib.hid (fun (v : Value) (W : World) h1 h2 h3 => fold_any v xs W h1 h2 h3)
  have HRF := Lib.hid (fun (B : Nat) (v : Value) (W : World) h1 h2 => rfold_any B v xs W h1 h2)
  have HV := Lib.hid (fun (W : World) => value_any s W (by omega))
  have HRV := Lib.hid (fun (W : World) => rvalue_any s W (by omega))
  have hS := fun (W : World) => split_any s c W (by omega)
  have hRS := fun (W : World) => rsplit_any s c W (by omega)
  have hul := unfA_len s.data.toList
  have hsl := (spl_len c s.data.toList false []).2
  rw [← Lib.size_eq] at hul hsl
  obtain ⟨LS, hLS⟩ : ∃ LS, sts (unfA s.data.toList).1 = LS := ⟨_, rfl⟩
  have hLl : LS.length ≤ 10000000 := by rw [← hLS, sts_len]; omega
  have HLS := Lib.hid hLS
  obtain ⟨SS, hSS⟩ : ∃ SS, sts (split1 c s.data.toList) = SS := ⟨_, rfl⟩
  have hSl : SS.length ≤ 10000001 := by rw [← hSS, sts_len]; unfold split1; omega
  rw [hSS, hc] at hS hRS
  have HS := Lib.hid hS
  have HRS := Lib.hid hRS
  have HPl := Lib.hid plainT_any
  clear hX hP hRP hS hRS hul hsl hLS hSS hx2 hO hc
  go_enter Tryd.func3, Tryd.ntmps3
  go_wp2_with fail
  go_loop [7, 8] (fun nv at_ => ∃ (k : Nat), k ≤ xs.length ∧ nv = .int .i64 ((s.size + bulk (xs.take k) : Nat) : Int) ∧ at_ = .int .i64 k) (fun _ at_ => xs.length - (intOf at_).toNat)
  case atStart => exact ⟨0, Nat.zero_le _, rfl, rfl⟩
  case round =>
    obtain ⟨k, hk, rfl, rfl⟩ := hrel
    by_cases hlt : k < xs.length
    · obtain ⟨ad, rfl, hlb, hcl⟩ := HX2.out (by omega)
      obtain ⟨p, hp⟩ : ∃ p, xs[k]? = some p := ⟨_, List.getElem?_eq_getElem hlt⟩
      have c0 := hcl k p hp
      have hst := HBT.out k p hp
      have hbo := HBO.out (k + 1)
      obtain ⟨q, hq⟩ : ∃ q, bulk (xs.take k) = q := ⟨_, rfl⟩
      rw [hq] at hst ⊢
      rw [hst] at hbo
      have HST := Lib.hid hst
      clear hcl hp hst hq
      go_wp2_with fail
      go_round
      case rel => exact ⟨k + 1, by omega, by rw [HST.out]; go_num, by go_num⟩
      case measure => simp [intOf]; omega
    · have hke : k = xs.length := by omega
      have hall : bulk (xs.take k) = bulk xs := by rw [hke, List.take_length]
      rw [hall]
      clear hke hall
      by_cases hbig : 3000 < s.size + bulk xs
      · go_wp2_with fail
        refine (HA.out _ (HOK.out _ (Below.refl _ _))).mono ?_
        rintro e w1 ⟨rfl, b1⟩
        go_wp2_with fail
        go_ret
        exact ⟨rfl, b1⟩
      · go_wp2_with fail
        refine (HU.out w (HOK.out w (Below.refl _ _)).1 (HOK.out w (Below.refl _ _)).2).mono ?_
        rintro e w1 ⟨v1, rfl, hv1, b1⟩
        rw [HLS.out] at hv1
        have HV1 := Lib.hid hv1
        clear hv1
        go_wp2_with fail
        refine (HRU.out w1).mono ?_
        rintro e w2 ⟨v2, rfl, hv2, b2⟩
        rw [HLS.out] at hv2
        have HV2 := Lib.hid hv2
        have HV12 := Lib.hid (HV1.out.below b2)
        have c2 : Below w.heap.size w w2 := b1.trans (b2.mono b1.size)
        have z2 := b2.size
        clear hv2
        go_wp2_with fail
        refine (HP.out _ (HOK.out w2 c2).2).mono ?_
        rintro e w3 ⟨rfl, b3⟩
        have c3 : Below w.heap.size w w3 := c2.trans (b3.mono c2.size)
        go_wp2_with fail
        refine (HRP.out _).mono ?_
        rintro e w4 ⟨rfl, rfl⟩
        go_wp2_with fail
        refine (HA.out w3 (HOK.out w3 c3)).mono ?_
        rintro e w5 ⟨rfl, b5⟩
        have c5 : Below w.heap.size w w5 := c3.trans (b5.mono c3.size)
        have r5 : Hid (Below w2.heap.size w2 w5) := b3.trans (b5.mono b3.size)
        have z5 := c5.size
        go_wp2_with fail
        refine (HF.out _ w5 (HOK.out w5 c5).1 ((HX.out.below c5).more c5.size) (by omega)).mono ?_
        rintro e w6 ⟨rfl, b6⟩
        have c6 : Below w.heap.size w w6 := c5.trans (b6.mono c5.size)
        have r6 : Hid (Below w2.heap.size w2 w6) := r5.out.trans (b6.mono r5.out.size)
        go_wp2_with fail
        refine (HRF.out w.heap.size _ w6 (HX.out.below c6) (by omega)).mono ?_
        rintro e w7 ⟨rfl, rfl⟩
        go_wp2_with fail
        refine (HPl.out w2.heap.size v1 v2 LS LS w6 ((HV12.out.more z2).below r6.out) (HV2.out.below r6.out) (by omega) (by omega)).mono ?_
        rintro e w8 ⟨rfl, b8⟩
        have c8 : Below w.heap.size w w8 := c6.trans (b8.mono c6.size)
        rw [decide_eq_true (rfl : LS = LS)]
        go_wp2_with fail
        refine (HV.out _).mono ?_
        rintro e w9 ⟨rfl, b9⟩
        have c9 : Below w.heap.size w w9 := c8.trans (b9.mono c8.size)
        go_wp2_with fail
        refine (HRV.out _).mono ?_
        rintro e w10 ⟨rfl, rfl⟩
        go_wp2_with fail
        refine (HS.out _).mono ?_
        rintro e w11 ⟨v3, rfl, hv3, b11⟩
        have c11 : Below w.heap.size w w11 := c9.trans (b11.mono c9.size)
        have HV3 := Lib.hid hv3.reads
        clear hv3
        go_wp2_with fail
        refine (HRS.out _).mono ?_
        rintro e w12 ⟨v4, rfl, hv4, b12⟩
        have c12 : Below w.heap.size w w12 := c11.trans (b12.mono c11.size)
        have HV4 := Lib.hid hv4.reads
        have z12 := b12.size
        have HV34 := Lib.hid ((HV3.out.below b12).more z12)
        clear hv4
        go_wp2_with fail
        refine (HPl.out w12.heap.size v3 v4 SS SS w12 HV34.out HV4.out (by omega) (by omega)).mono ?_
        rintro e w13 ⟨rfl, b13⟩
        have c13 : Below w.heap.size w w13 := c12.trans (b13.mono c12.size)
        rw [decide_eq_true (rfl : SS = SS)]
        go_wp2_with fail
        go_ret
        exact ⟨rfl, c13⟩
end Go.Proofs.YtjdpdkghfbaddaaDoor
