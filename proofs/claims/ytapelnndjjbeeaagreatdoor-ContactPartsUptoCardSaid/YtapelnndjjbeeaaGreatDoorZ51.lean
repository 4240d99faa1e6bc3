import Derived.Test.YtapelnndjjbeeaaGreatDoorZ48
import Derived.Test.YtapelnndjjbeeaaGreatDoorZ49
import Derived.Test.YtapelnndjjbeeaaGreatDoorZ50
import Derived.Test.YtapelnndjjbeeaaGreatDoorZ06
import Derived.Test.YtapelnndjjbeeaaGreatDoorZ30
import Derived.Test.YtapelnndjjbeeaaGreatDoorZ29
/- what is reached of it -/
namespace Go.Proofs.YtapelnndjjbeeaaGreatDoor
open Go.RowKit Vc Ct
theorem sepd_rep (x y : List UInt8) : ∀ m : Nat, Tx.sepd 59 (x :: y :: List.replicate m []) = x ++ 59 :: (y ++ List.replicate m 59)
  | 0 => by
    show x ++ 59 :: Tx.sepd 59 [y] = _
    show x ++ 59 :: y = _
    simp
  | m + 1 => by
    have h : ∀ (m : Nat) (y : List UInt8), Tx.sepd 59 (y :: List.replicate m []) = y ++ List.replicate m 59 := by
      intro m
      induction m with
      | zero => intro y; show y = _; simp
      | succ m ih => intro y; rw [List.replicate_succ]; show y ++ 59 :: Tx.sepd 59 ([] :: List.replicate m []) = _; rw [ih, List.replicate_succ]; simp
    show x ++ 59 :: Tx.sepd 59 (y :: List.replicate (m + 1) []) = _
    rw [h]
theorem map_rep (a b : List UInt8) (m : Nat) : (a :: b :: List.replicate m []).map Tx.val = Tx.val a :: Tx.val b :: List.replicate m [] := by simp [Tx.val_nil]
def partsT (a b : List UInt8) (m : Nat) : List UInt8 := Tx.val a ++ 59 :: (Tx.val b ++ List.replicate m 59)
theorem parts_ofT {a b : List UInt8} (ha : Tx.line a 30 = true) (hb : Tx.line b 30 = true) (m : Nat) : ofL (litP [(nFN, [110]), (nN, partsT a b m)]) = if m = 3 then ({ noneC with name := [110], family := a, given := b }, 0) else (noneC, 12) := by
  have h := parts_of ha hb m
  rw [map_rep, sepd_rep] at h
  exact h
theorem parts_len {a b : List UInt8} (ha : Tx.line a 30 = true) (hb : Tx.line b 30 = true) (m : Nat) : (partsT a b m).length ≤ 500 + m := by
  have h1 := Ct.line_len (n := 30) ha
  have h2 := Ct.line_len (n := 30) hb
  have h3 := Tx.val_len a
  have h4 := Tx.val_len b
  unfold partsT
  simp only [List.length_append, List.length_cons, List.length_replicate]
  omega
theorem parts_next (a b : List UInt8) (m : Nat) : partsT a b m ++ [59] = partsT a b (m + 1) := by
  unfold partsT
  rw [List.replicate_succ']
  simp
theorem five_ofT {k : Nat} (hk : k < 5) : ofL (litP [(nFN, [110]), (nN, Tx.sepd 59 (fiveL k))]) = if k < 2 then ({ noneC with name := [110], family := (fiveL k).getD 0 [], given := (fiveL k).getD 1 [] }, 0) else (noneC, 12) := five_of k hk
theorem escape_ofT : ofL (litP [(nFN, [110]), (nN, [92, 120, 59, 59])]) = (noneC, 18) := escape_of
theorem five_get {k : Nat} (hk : k < 5) : fiveL k = [(fiveL k).getD 0 [], (fiveL k).getD 1 [], (fiveL k).getD 2 [], (fiveL k).getD 3 [], (fiveL k).getD 4 []] ∧ ∀ i, i < 5 → ((fiveL k).getD i []).length ≤ 1 := by
  have key : ∀ k < 5, fiveL k = [(fiveL k).getD 0 [], (fiveL k).getD 1 [], (fiveL k).getD 2 [], (fiveL k).getD 3 [], (fiveL k).getD 4 []] ∧ ∀ i, i < 5 → ((fiveL k).getD i []).length ≤ 1 := by decide
  exact key k hk
theorem five_cells {k : Nat} (hk : k < 5) : ∀ i, i < 5 → ((#[.string ⟨#[]⟩, .string ⟨#[]⟩, .string ⟨#[]⟩, .string ⟨#[]⟩, .string ⟨#[]⟩] : Array Value).setIfInBounds k (.string ⟨#[120]⟩))[i]? = some (.string (bts ((fiveL k).getD i []))) := by
  intro i hi
  have hk' : k = 0 ∨ k = 1 ∨ k = 2 ∨ k = 3 ∨ k = 4 := by omega
  have hi' : i = 0 ∨ i = 1 ∨ i = 2 ∨ i = 3 ∨ i = 4 := by omega
  rcases hk' with rfl | rfl | rfl | rfl | rfl <;> rcases hi' with rfl | rfl | rfl | rfl | rfl <;> rfl
/-- Of, at two properties laid out somewhere. -/
theorem of_two {w0 w : World} {P : Nat} {x y : List UInt8 × List UInt8} (hO : OkwV w0) (hW : Below w0.heap.size w0 w) (hP : Bk w P 41 (litC [x, y]).toArray) (hc : costC (litP [x, y]) ≤ 90000) {d : Con} {n : Nat} (hd : ofL (litP [x, y]) = (d, n)) :
    Calls Tryz.prog 17 #[.slice (some ⟨P, 0, none⟩) 2 2] w fun e w' => (∃ g o, e = .returned (.tuple #[agC d g o, .int .i64 n]) ∧ ReadT w'.heap.size w' g (sts d.groups) ∧ SeenP w' o d.other) ∧ Below w.heap.size w w' := by
  have h := of_cany (.slice (some ⟨P, 0, none⟩) 2 2) (litP [x, y]) w (hO.below hW) (seen_lit hP 2) hc
  refine h.mono fun e w' ⟨⟨cv, h1, h2⟩, h3⟩ => ⟨?_, h3⟩
  rw [of_way, hd] at h1 h2
  obtain ⟨g, o, rfl, h4, h5⟩ := h2
  exact ⟨g, o, h1, h4, h5⟩
theorem two_cost {x : List UInt8} (h : x.length ≤ 80000) : costC (litP [(nFN, [110]), (nN, x)]) ≤ 90000 := by
  show costC [([], nFN, [], [110]), ([], nN, [], x)] ≤ 90000
  rw [costC_cons, costC_cons]
  unfold costP
  simp only [nFN, nN, List.length_cons, List.length_nil, parN_nil]
  have : costC [] = 0 := rfl
  omega
set_option linter.unusedSimpArgs false in
set_option maxHeartbeats 16000000 in
set_option maxRecDepth 100000 in
theorem contactParts_any (a b : ByteArray) (nz kz : Int) (w : World) (hO : OkwV w) (ha : a.size ≤ 2000000) (hb : b.size ≤ 2000000) :
    Calls Tryz.prog 8 #[.string a, .string b, .int .i64 nz, .int .i64 kz] w (Holds w) := by
  have HAW := Lib.hid (fun (W : World) (h : Below w.heap.size w W) => cawake_any W (hO.below h))
  have HLA := Lib.hid (fun (W : World) => playLineL_any a 30 W (by omega))
  have HLB := Lib.hid (fun (W : World) => playLineL_any b 30 W (by omega))
  have HVV := Lib.hid (fun (s : ByteArray) (W : World) (h : s.size < 10000000000000) => rvalue_any s W h)
  have HOF := Lib.hid (fun (W : World) (P : Nat) (x y : List UInt8 × List UInt8) (d : Con) (n : Nat) (h : Below w.heap.size w W) (hP : Bk W P 41 (litC [x, y]).toArray) (hc : costC (litP [x, y]) ≤ 90000) (hd : ofL (litP [x, y]) = (d, n)) => of_two hO h hP hc hd)
  obtain ⟨nn, hn, hn8⟩ := uintMod nz 8 (by omega) (by omega)
  obtain ⟨k, hk, hk5⟩ := uintMod kz 5 (by omega) (by omega)
  have hn8' : nn < 8 := by omega
  have hk5' : k < 5 := by omega
  clear hO ha hb
  go_enter Tryz.func8, Tryz.ntmps8
  go_wp2_with fail
  refine (HLA.out _).mono ?_
  rintro e w1 ⟨⟨va, rfl, -, -, -, hla⟩, b1⟩
  have HA1 := Lib.hid (hla (by decide))
  have B1 := Lib.hid b1
  clear hla b1
  go_wp2_with fail
  refine (HLB.out _).mono ?_
  rintro e w2 ⟨⟨vb, rfl, -, -, -, hlb⟩, b2⟩
  have HB1 := Lib.hid (hlb (by decide))
  have B2 : Hid (Below w.heap.size w w2) := B1.out.trans (b2.mono B1.out.size)
  clear hlb b2
  have hza : va.size ≤ 120 := by have := Ct.line_len (n := 30) HA1.out; rw [← Lib.size_eq] at this; omega
  have hzb : vb.size ≤ 120 := by have := Ct.line_len (n := 30) HB1.out; rw [← Lib.size_eq] at this; omega
  obtain ⟨la, hla⟩ : ∃ l, va.data.toList = l := ⟨_, rfl⟩
  obtain ⟨lb, hlb⟩ : ∃ l, vb.data.toList = l := ⟨_, rfl⟩
  have HVA := HVV.out va w2 (by omega)
  have HVB := HVV.out vb w2 (by omega)
  rw [hla] at HA1 HVA
  rw [hlb] at HB1 HVB
  have HVA2 := Lib.hid HVA
  have HVB2 := Lib.hid HVB
  have hbl : bts la = va := by rw [← hla]
  have hbb : bts lb = vb := by rw [← hlb]
  have HBLA := Lib.hid hbl
  have HBLB := Lib.hid hbb
  have hvla : (⟨(Tx.val la).toArray⟩ : ByteArray).size ≤ 240 := by
    have h1 := Tx.val_len la
    have h2 : la.length = va.size := by rw [← hla]; exact (Lib.size_eq va).symm
    have h3 : (⟨(Tx.val la).toArray⟩ : ByteArray).size = (Tx.val la).length := Lib.size_eq _
    omega
  have hvlb : (⟨(Tx.val lb).toArray⟩ : ByteArray).size ≤ 240 := by
    have h1 := Tx.val_len lb
    have h2 : lb.length = vb.size := by rw [← hlb]; exact (Lib.size_eq vb).symm
    have h3 : (⟨(Tx.val lb).toArray⟩ : ByteArray).size = (Tx.val lb).length := Lib.size_eq _
    omega
  obtain ⟨VA, hVA⟩ : ∃ V, (⟨(Tx.val la).toArray⟩ : ByteArray) = V := ⟨_, rfl⟩
  obtain ⟨VB, hVB⟩ : ∃ V, (⟨(Tx.val lb).toArray⟩ : ByteArray) = V := ⟨_, rfl⟩
  rw [hVA] at HVA2 hvla
  rw [hVB] at HVB2 hvlb
  have hs0 : VA ++ (⟨#[59]⟩ : ByteArray) ++ VB = bts (partsT la lb 0) := by
    rw [← hVA, ← hVB]
    show bts (Tx.val la) ++ bts [59] ++ bts (Tx.val lb) = _
    rw [cbtsB_app, cbtsB_app]
    unfold partsT
    congr 1
    simp
  have HS0 := Lib.hid hs0
  have hz1 : (VA ++ (⟨#[59]⟩ : ByteArray)).size = VA.size + 1 := by rw [ByteArray.size_append]; rfl
  have hy1 : ¬ (9223372036854775807 < VA.size + (⟨#[59]⟩ : ByteArray).size) := by
    have : (⟨#[59]⟩ : ByteArray).size = 1 := rfl
    omega
  have hy2 : ¬ (9223372036854775807 < (VA ++ (⟨#[59]⟩ : ByteArray)).size + VB.size) := by omega
  clear HVA HVB hla hlb hbl hbb hVA hVB hs0
  go_wp2_with fail
  refine HVA2.out.mono ?_
  rintro e w3 ⟨rfl, rfl⟩
  go_wp2_with fail
  refine HVB2.out.mono ?_
  rintro e w3 ⟨rfl, rfl⟩
  obtain ⟨Y0, hY0⟩ : ∃ Y, VA ++ (⟨#[59]⟩ : ByteArray) ++ VB = Y := ⟨_, rfl⟩
  have HY0 : Hid (Y0 = bts (partsT la lb 0)) := by unfold Hid; rw [← hY0]; exact HS0.out
  obtain ⟨mx, hmx⟩ : ∃ mx, max nn 2 = mx := ⟨_, rfl⟩
  have HMX := Lib.hid hmx
  have hmx8 : mx ≤ 8 := by omega
  clear hmx
  go_wp2_with fail
  (try rw [hY0])
  clear hY0 hvla hvlb hz1 hy1 hy2 HVA2 HVB2
  go_loopw [9, 10] (fun sv iv wr => ∃ (q : Nat) (Y : ByteArray), sv = .string Y ∧ iv = .int .i64 ((q + 2 : Nat)) ∧ q + 2 ≤ mx ∧ Hid (Y = bts (partsT la lb q)) ∧ wr = w2) (fun _ iv _ => 8 - (intOf iv).toNat)
  case atStart => exact ⟨0, _, rfl, rfl, by have := HMX.out; omega, HY0, rfl⟩
  case round =>
    obtain ⟨q, Y, rfl, rfl, hq, HY, hww⟩ := hrel
    have hw2 := hww.symm
    subst hw2
    obtain ⟨i, hi⟩ : ∃ i, q + 2 = i := ⟨_, rfl⟩
    rw [hi] at hq ⊢
    have HI := Lib.hid hi
    have hyl : Y.size ≤ 600 := by
      have h1 : Y.size = (partsT la lb q).length := by rw [HY.out]; exact Lib.size_eq _
      have h2 := parts_len HA1.out HB1.out q
      omega
    clear hi hww
    by_cases hlt : i < nn
    · have hy1 : ¬ (9223372036854775807 < Y.size + (⟨#[59]⟩ : ByteArray).size) := by
        have : (⟨#[59]⟩ : ByteArray).size = 1 := rfl
        omega
      have HN : Hid (Y ++ (⟨#[59]⟩ : ByteArray) = bts (partsT la lb (q + 1))) := by
        unfold Hid
        rw [HY.out, ← parts_next]
        exact cbtsB_app _ [59]
      have hlm : i + 1 ≤ mx := by have := HMX.out; omega
      go_wp2_with fail
      go_roundw
      case rel => exact ⟨q + 1, _, rfl, by have := HI.out; first | (go_num; done) | (go_num; omega), by have := HI.out; omega, HN, trivial⟩
      case measure => simp [intOf]; omega
    · have him : i = mx := by have := HMX.out; have := HI.out; omega
      obtain ⟨d1, n1, c0, c1, c2, hd1, hag1, hcase1⟩ : ∃ (d1 : Con) (n1 : Nat) (c0 c1 c2 : ByteArray), ofL (litP [(nFN, [110]), (nN, partsT la lb q)]) = (d1, n1) ∧ (∀ g o, agC d1 g o = .agg #[.string c0, .string c1, .string c2, .string ⟨#[]⟩, .string ⟨#[]⟩, .string ⟨#[]⟩, .string ⟨#[]⟩, .string ⟨#[]⟩, .string ⟨#[]⟩, g, o]) ∧ (q = 3 ∧ n1 = 0 ∧ c1 = va ∧ c2 = vb ∨ q ≠ 3 ∧ n1 = 12) := by
        have h := parts_ofT HA1.out HB1.out q
        by_cases h3 : q = 3
        · rw [if_pos h3] at h
          exact ⟨_, _, ⟨#[110]⟩, va, vb, h, fun g o => by rw [← HBLA.out, ← HBLB.out]; rfl, .inl ⟨h3, rfl, rfl, rfl⟩⟩
        · rw [if_neg h3] at h
          exact ⟨_, _, ⟨#[]⟩, ⟨#[]⟩, ⟨#[]⟩, h, fun g o => rfl, .inr ⟨h3, rfl⟩⟩
      have HC1 := Lib.hid hcase1
      have HAG1 := Lib.hid hag1
      obtain ⟨W3, hW3⟩ : ∃ W3, w2.alloc (.cells #[.string ⟨#[]⟩, .string ⟨#[70, 78]⟩, .slice none 0 0, .string ⟨#[110]⟩, .string ⟨#[]⟩, .string ⟨#[78]⟩, .slice none 0 0, .string Y] 41) = W3 := ⟨_, rfl⟩
      have b3 : Below w2.heap.size w2 W3 := by rw [← hW3]; exact (Below.refl _ _).alloc (Nat.le_refl _) _
      have B3 : Hid (Below w.heap.size w W3) := B2.out.trans (b3.mono B2.out.size)
      obtain ⟨P, hP⟩ : ∃ P, w2.heap.size = P := ⟨_, rfl⟩
      have k3 : Bk W3 P 41 (litC [(nFN, [110]), (nN, partsT la lb q)]).toArray := by
        rw [← hW3, ← hP, HY.out]
        exact Bk.new _ _ _
      have HO1 := Lib.hid (HOF.out W3 P (nFN, [110]) (nN, partsT la lb q) d1 n1 B3.out k3 (two_cost (by have := parts_len HA1.out HB1.out q; have := HI.out; omega)) hd1)
      clear hcase1 hag1 hd1 b3 k3 him
      go_wp2_with fail
      refine HO1.out.mono ?_
      rintro e w4 ⟨⟨g1, o1, rfl, hg1, ho1⟩, b4⟩
      rw [HAG1.out]
      obtain ⟨GA, gn, gcap, rfl⟩ : ∃ A n cap, g1 = .slice A n cap := by obtain ⟨A, cap, e, _⟩ := hg1; exact ⟨A, _, cap, e⟩
      obtain ⟨OA, on, ocap, rfl⟩ : ∃ A n cap, o1 = .slice A n cap := by obtain ⟨A, cap, e, _⟩ := ho1; exact ⟨A, _, cap, e⟩
      have B4 : Hid (Below w.heap.size w w4) := B3.out.trans (b4.mono B3.out.size)
      clear hg1 ho1 b4 hW3 hP
      go_upto_region 9 with fail
      obtain ⟨W5, hW5⟩ : ∃ W5, w4.alloc (.cells #[.string c0, .string c1, .string c2, .string ⟨#[]⟩, .string ⟨#[]⟩, .string ⟨#[]⟩, .string ⟨#[]⟩, .string ⟨#[]⟩, .string ⟨#[]⟩, .slice GA gn gcap, .slice OA on ocap] 25) = W5 := ⟨_, rfl⟩
      obtain ⟨C, hC⟩ : ∃ C, w4.heap.size = C := ⟨_, rfl⟩
      have b5 : Below w4.heap.size w4 W5 := by rw [← hW5]; exact (Below.refl _ _).alloc (Nat.le_refl _) _
      have KC5 : Hid (Bk W5 C 25 #[.string c0, .string c1, .string c2, .string ⟨#[]⟩, .string ⟨#[]⟩, .string ⟨#[]⟩, .string ⟨#[]⟩, .string ⟨#[]⟩, .string ⟨#[]⟩, .slice GA gn gcap, .slice OA on ocap]) := by rw [← hW5, ← hC]; exact Bk.new _ _ _
      have B5 : Hid (Below w.heap.size w W5) := B4.out.trans (b5.mono B4.out.size)
      (try rw [hW5])
      (try rw [hC])
      clear hW5 hC b5
      obtain ⟨L, hL⟩ : ∃ L, W5.heap.size = L := ⟨_, rfl⟩
      obtain ⟨W6, hW6⟩ : ∃ W6, W5.alloc (.cells #[.string ⟨#[]⟩, .string ⟨#[]⟩, .string ⟨#[]⟩, .string ⟨#[]⟩, .string ⟨#[]⟩] 9) = W6 := ⟨_, rfl⟩
      have b6 : Below W5.heap.size W5 W6 := by rw [← hW6]; exact (Below.refl _ _).alloc (Nat.le_refl _) _
      have k6 : Bk W6 L 9 #[.string ⟨#[]⟩, .string ⟨#[]⟩, .string ⟨#[]⟩, .string ⟨#[]⟩, .string ⟨#[]⟩] := by rw [← hW6, ← hL]; exact Bk.new _ _ _
      have ck : W6.cell? ⟨L, k, none⟩ = some (.string ⟨#[]⟩) := by
        rw [k6.cell]
        have hk' : k = 0 ∨ k = 1 ∨ k = 2 ∨ k = 3 ∨ k = 4 := by omega
        rcases hk' with rfl | rfl | rfl | rfl | rfl <;> rfl
      have fk : W6.frozen? ⟨L, k, none⟩ = false := by
        have hk' : k = 0 ∨ k = 1 ∨ k = 2 ∨ k = 3 ∨ k = 4 := by omega
        rcases hk' with rfl | rfl | rfl | rfl | rfl
        · exact k6.free 0
        · exact k6.free 1
        · exact k6.free 2
        · exact k6.free 3
        · exact k6.free 4
      obtain ⟨W7, hW7⟩ : ∃ W7, W6.setCell ⟨L, k, none⟩ (.string ⟨#[120]⟩) = W7 := ⟨_, rfl⟩
      have k7 : Bk W7 L 9 ((#[.string ⟨#[]⟩, .string ⟨#[]⟩, .string ⟨#[]⟩, .string ⟨#[]⟩, .string ⟨#[]⟩] : Array Value).setIfInBounds k (.string ⟨#[120]⟩)) := by rw [← hW7]; exact k6.put k _
      have hLw : W5.heap.size ≤ L := by rw [hL]; exact Nat.le_refl _
      have b7 : Below W5.heap.size W5 W7 := by rw [← hW7]; exact b6.setCell (p := ⟨L, k, none⟩) hLw _
      have KC7 := Lib.hid (KC5.out.below b7 KC5.out.lt)
      have B7 : Hid (Below w.heap.size w W7) := B5.out.trans (b7.mono B5.out.size)
      have hfc := five_cells hk5'
      obtain ⟨hfg, hfl⟩ := five_get hk5'
      obtain ⟨d2, n2, e0, e1, e2, hd2, hag2, hcase2⟩ : ∃ (d2 : Con) (n2 : Nat) (e0 e1 e2 : ByteArray), ofL (litP [(nFN, [110]), (nN, Tx.sepd 59 (fiveL k))]) = (d2, n2) ∧ (∀ g o, agC d2 g o = .agg #[.string e0, .string e1, .string e2, .string ⟨#[]⟩, .string ⟨#[]⟩, .string ⟨#[]⟩, .string ⟨#[]⟩, .string ⟨#[]⟩, .string ⟨#[]⟩, g, o]) ∧ (k < 2 ∧ n2 = 0 ∧ e1 = bts ((fiveL k).getD 0 []) ∧ e2 = bts ((fiveL k).getD 1 []) ∨ ¬ k < 2 ∧ n2 = 12) := by
        have h := five_ofT hk5'
        by_cases h3 : k < 2
        · rw [if_pos h3] at h
          exact ⟨_, _, ⟨#[110]⟩, _, _, h, fun g o => rfl, .inl ⟨h3, rfl, rfl, rfl⟩⟩
        · rw [if_neg h3] at h
          exact ⟨_, _, ⟨#[]⟩, ⟨#[]⟩, ⟨#[]⟩, h, fun g o => rfl, .inr ⟨h3, rfl⟩⟩
      obtain ⟨f0, hf0⟩ : ∃ f, (fiveL k).getD 0 [] = f := ⟨_, rfl⟩
      obtain ⟨f1, hf1⟩ : ∃ f, (fiveL k).getD 1 [] = f := ⟨_, rfl⟩
      obtain ⟨f2, hf2⟩ : ∃ f, (fiveL k).getD 2 [] = f := ⟨_, rfl⟩
      obtain ⟨f3, hf3⟩ : ∃ f, (fiveL k).getD 3 [] = f := ⟨_, rfl⟩
      obtain ⟨f4, hf4⟩ : ∃ f, (fiveL k).getD 4 [] = f := ⟨_, rfl⟩
      have x0 := (k7.cell 0).trans (hfc 0 (by decide))
      have x1 := (k7.cell 1).trans (hfc 1 (by decide))
      have x2 := (k7.cell 2).trans (hfc 2 (by decide))
      have x3 := (k7.cell 3).trans (hfc 3 (by decide))
      have x4 := (k7.cell 4).trans (hfc 4 (by decide))
      have l0 := hfl 0 (by decide)
      have l1 := hfl 1 (by decide)
      have l2 := hfl 2 (by decide)
      have l3 := hfl 3 (by decide)
      have l4 := hfl 4 (by decide)
      rw [hf0, hf1, hf2, hf3, hf4] at hfg
      rw [hf0] at x0 l0
      rw [hf1] at x1 l1
      rw [hf2] at x2 l2
      rw [hf3] at x3 l3
      rw [hf4] at x4 l4
      rw [hf0, hf1] at hcase2
      rw [hfg] at hd2
      have l0 : (bts f0).size ≤ 1 := by rw [Lib.size_eq]; exact l0
      have l1 : (bts f1).size ≤ 1 := by rw [Lib.size_eq]; exact l1
      have l2 : (bts f2).size ≤ 1 := by rw [Lib.size_eq]; exact l2
      have l3 : (bts f3).size ≤ 1 := by rw [Lib.size_eq]; exact l3
      have l4 : (bts f4).size ≤ 1 := by rw [Lib.size_eq]; exact l4
      have htx : bts f0 ++ (⟨#[59]⟩ : ByteArray) ++ bts f1 ++ (⟨#[59]⟩ : ByteArray) ++ bts f2 ++ (⟨#[59]⟩ : ByteArray) ++ bts f3 ++ (⟨#[59]⟩ : ByteArray) ++ bts f4 = bts (Tx.sepd 59 [f0, f1, f2, f3, f4]) := by
        show bts f0 ++ bts [59] ++ bts f1 ++ bts [59] ++ bts f2 ++ bts [59] ++ bts f3 ++ bts [59] ++ bts f4 = _
        simp only [cbtsB_app]
        congr 1
        show _ = f0 ++ 59 :: (f1 ++ 59 :: (f2 ++ 59 :: (f3 ++ 59 :: f4)))
        simp
      have hco : costC (litP [(nFN, [110]), (nN, Tx.sepd 59 [f0, f1, f2, f3, f4])]) ≤ 90000 := two_cost (by
        have h0 : f0.length ≤ 1 := by have := l0; rw [Lib.size_eq] at this; exact this
        have h1 : f1.length ≤ 1 := by have := l1; rw [Lib.size_eq] at this; exact this
        have h2 : f2.length ≤ 1 := by have := l2; rw [Lib.size_eq] at this; exact this
        have h3 : f3.length ≤ 1 := by have := l3; rw [Lib.size_eq] at this; exact this
        have h4 : f4.length ≤ 1 := by have := l4; rw [Lib.size_eq] at this; exact this
        show (f0 ++ 59 :: (f1 ++ 59 :: (f2 ++ 59 :: (f3 ++ 59 :: f4)))).length ≤ _
        simp only [List.length_append, List.length_cons]
        omega)
      have HCO := Lib.hid hco
      have HD2 := Lib.hid hd2
      have HTX := Lib.hid htx
      have HC2 := Lib.hid hcase2
      have HAG2 := Lib.hid hag2
      obtain ⟨F0, hF0⟩ : ∃ F, bts f0 = F := ⟨_, rfl⟩
      obtain ⟨F1, hF1⟩ : ∃ F, bts f1 = F := ⟨_, rfl⟩
      obtain ⟨F2, hF2⟩ : ∃ F, bts f2 = F := ⟨_, rfl⟩
      obtain ⟨F3, hF3⟩ : ∃ F, bts f3 = F := ⟨_, rfl⟩
      obtain ⟨F4, hF4⟩ : ∃ F, bts f4 = F := ⟨_, rfl⟩
      rw [hF0] at x0 l0
      rw [hF1] at x1 l1
      rw [hF2] at x2 l2
      rw [hF3] at x3 l3
      rw [hF4] at x4 l4
      rw [hF0, hF1] at HC2
      rw [hF0, hF1, hF2, hF3, hF4] at HTX
      have HX0 : Hid (∀ W, Below W7.heap.size W7 W → W.cell? ⟨L, 0, none⟩ = some (.string F0)) := fun W h => (h.cell (p := ⟨L, 0, none⟩) k7.lt).trans x0
      have HX1 : Hid (∀ W, Below W7.heap.size W7 W → W.cell? ⟨L, 1, none⟩ = some (.string F1)) := fun W h => (h.cell (p := ⟨L, 1, none⟩) k7.lt).trans x1
      have HX2 : Hid (∀ W, Below W7.heap.size W7 W → W.cell? ⟨L, 2, none⟩ = some (.string F2)) := fun W h => (h.cell (p := ⟨L, 2, none⟩) k7.lt).trans x2
      have HX3 : Hid (∀ W, Below W7.heap.size W7 W → W.cell? ⟨L, 3, none⟩ = some (.string F3)) := fun W h => (h.cell (p := ⟨L, 3, none⟩) k7.lt).trans x3
      have HX4 : Hid (∀ W, Below W7.heap.size W7 W → W.cell? ⟨L, 4, none⟩ = some (.string F4)) := fun W h => (h.cell (p := ⟨L, 4, none⟩) k7.lt).trans x4
      clear hfc hfg hfl hd2 hag2 hcase2 hf0 hf1 hf2 hf3 hf4 x0 x1 x2 x3 x4 htx hco hF0 hF1 hF2 hF3 hF4 b6 b7 k6 k7 hLw
      go_upto_region 11 with fail
      (try rw [hW6])
      (try rw [hW7])
      clear hW6 hW7 hL
      have hy0 : ¬ (9223372036854775807 < (F0).size + 1) := by omega
      have hy1 : ¬ (9223372036854775807 < (F0 ++ (⟨#[59]⟩ : ByteArray)).size + F1.size) := by simp only [ByteArray.size_append, show (⟨#[59]⟩ : ByteArray).size = 1 from rfl]; omega
      have hz1 : ¬ (9223372036854775807 < F0.size + 1 + F1.size) := by omega
      have hy2 : ¬ (9223372036854775807 < (F0 ++ (⟨#[59]⟩ : ByteArray) ++ F1).size + 1) := by simp only [ByteArray.size_append, show (⟨#[59]⟩ : ByteArray).size = 1 from rfl]; omega
      have hz2 : ¬ (9223372036854775807 < F0.size + 1 + F1.size + 1) := by omega
      have hy3 : ¬ (9223372036854775807 < (F0 ++ (⟨#[59]⟩ : ByteArray) ++ F1 ++ (⟨#[59]⟩ : ByteArray)).size + F2.size) := by simp only [ByteArray.size_append, show (⟨#[59]⟩ : ByteArray).size = 1 from rfl]; omega
      have hz3 : ¬ (9223372036854775807 < F0.size + 1 + F1.size + 1 + F2.size) := by omega
      have hy4 : ¬ (9223372036854775807 < (F0 ++ (⟨#[59]⟩ : ByteArray) ++ F1 ++ (⟨#[59]⟩ : ByteArray) ++ F2).size + 1) := by simp only [ByteArray.size_append, show (⟨#[59]⟩ : ByteArray).size = 1 from rfl]; omega
      have hz4 : ¬ (9223372036854775807 < F0.size + 1 + F1.size + 1 + F2.size + 1) := by omega
      have hy5 : ¬ (9223372036854775807 < (F0 ++ (⟨#[59]⟩ : ByteArray) ++ F1 ++ (⟨#[59]⟩ : ByteArray) ++ F2 ++ (⟨#[59]⟩ : ByteArray)).size + F3.size) := by simp only [ByteArray.size_append, show (⟨#[59]⟩ : ByteArray).size = 1 from rfl]; omega
      have hz5 : ¬ (9223372036854775807 < F0.size + 1 + F1.size + 1 + F2.size + 1 + F3.size) := by omega
      have hy6 : ¬ (9223372036854775807 < (F0 ++ (⟨#[59]⟩ : ByteArray) ++ F1 ++ (⟨#[59]⟩ : ByteArray) ++ F2 ++ (⟨#[59]⟩ : ByteArray) ++ F3).size + 1) := by simp only [ByteArray.size_append, show (⟨#[59]⟩ : ByteArray).size = 1 from rfl]; omega
      have hz6 : ¬ (9223372036854775807 < F0.size + 1 + F1.size + 1 + F2.size + 1 + F3.size + 1) := by omega
      have hy7 : ¬ (9223372036854775807 < (F0 ++ (⟨#[59]⟩ : ByteArray) ++ F1 ++ (⟨#[59]⟩ : ByteArray) ++ F2 ++ (⟨#[59]⟩ : ByteArray) ++ F3 ++ (⟨#[59]⟩ : ByteArray)).size + F4.size) := by simp only [ByteArray.size_append, show (⟨#[59]⟩ : ByteArray).size = 1 from rfl]; omega
      have hz7 : ¬ (9223372036854775807 < F0.size + 1 + F1.size + 1 + F2.size + 1 + F3.size + 1 + F4.size) := by omega
      go_upto_region 11 with fail
      go_cut [14, 15] from 56 to 84 (fun s s2 wx => ∃ (D : Nat) (GB : Option Addr) (gm gdap : Nat) (OB : Option Addr) (om odap : Nat), s = .pointer (some ⟨D, 0, none⟩) ∧ s2 = .int .i64 n2 ∧ Hid (Bk wx D 25 #[.string e0, .string e1, .string e2, .string ⟨#[]⟩, .string ⟨#[]⟩, .string ⟨#[]⟩, .string ⟨#[]⟩, .string ⟨#[]⟩, .string ⟨#[]⟩, .slice GB gm gdap, .slice OB om odap]) ∧ Hid (Below W7.heap.size W7 wx) ∧ Hid (W7.heap.size ≤ D))
      case first J0 K0 hJ0 hK0 =>
        have bN : Below W7.heap.size W7 W7.drew := (Below.refl _ _).drew
        refine wp_region_held_drew (S := fun w' => Below W7.heap.size W7 w' ∧ w'.cell? ⟨L, 0, none⟩ = some (.string F0) ∧ w'.cell? ⟨L, 1, none⟩ = some (.string F1) ∧ w'.cell? ⟨L, 2, none⟩ = some (.string F2) ∧ w'.cell? ⟨L, 3, none⟩ = some (.string F3) ∧ w'.cell? ⟨L, 4, none⟩ = some (.string F4)) (by kernel_rfl) ?_ (fun hHeld => ?_)
        · exact ⟨bN, HX0.out _ bN, HX1.out _ bN, HX2.out _ bN, HX3.out _ bN, HX4.out _ bN⟩
        obtain ⟨wd, hwd⟩ : ∃ z, W7.drew = z := ⟨_, rfl⟩
        rw [hwd] at bN hHeld ⊢
        clear hwd
        refine take_w 0 (some 56) ?v1 rfl rfl (by kernel_rfl) (by kernel_rfl) (by kernel_rfl) (by rfl) ?y1 (fun _ _ _ h => h) (by assumption) ?n1
        case y1 =>
          intro w hSw
          try dsimp only at hSw
          go_simp
          try with_reducible rfl
        try simp only [Act.put, List.setIfInBounds_toArray, List.set_cons_zero, List.set_cons_succ]
        refine take_w 1 (some 57) ?v2 rfl rfl (by kernel_rfl) (by kernel_rfl) (by kernel_rfl) (by rfl) ?y2 (fun _ _ _ h => h) (by assumption) ?n2
        case y2 =>
          intro w hSw
          try dsimp only at hSw
          go_simp
          try with_reducible rfl
        try simp only [Act.put, List.setIfInBounds_toArray, List.set_cons_zero, List.set_cons_succ]
        refine take_w 2 (some 58) ?v3 rfl rfl (by kernel_rfl) (by kernel_rfl) (by kernel_rfl) (by rfl) ?y3 (fun _ _ _ h => h) (by assumption) ?n3
        case y3 =>
          intro w hSw
          try dsimp only at hSw
          go_simp
          try with_reducible rfl
        try simp only [Act.put, List.setIfInBounds_toArray, List.set_cons_zero, List.set_cons_succ]
        refine take_w 3 (some 59) ?v4 rfl rfl (by kernel_rfl) (by kernel_rfl) (by kernel_rfl) (by rfl) ?y4 (fun _ _ _ h => h) (by assumption) ?n4
        case y4 =>
          intro w hSw
          try dsimp only at hSw
          go_simp
          try with_reducible rfl
        try simp only [Act.put, List.setIfInBounds_toArray, List.set_cons_zero, List.set_cons_succ]
        refine take_w 4 (some 60) ?v5 rfl rfl (by kernel_rfl) (by kernel_rfl) (by kernel_rfl) (by rfl) ?y5 (fun _ _ _ h => h) (by assumption) ?n5
        case y5 =>
          intro w hSw
          try dsimp only at hSw
          go_simp
          try with_reducible rfl
        try simp only [Act.put, List.setIfInBounds_toArray, List.set_cons_zero, List.set_cons_succ]
        refine take_w 5 (some 61) ?v6 rfl rfl (by kernel_rfl) (by kernel_rfl) (by kernel_rfl) (by rfl) ?y6 (fun _ _ _ h => h) (by assumption) ?n6
        case y6 =>
          intro w hSw
          try dsimp only at hSw
          go_simp
          try with_reducible rfl
        try simp only [Act.put, List.setIfInBounds_toArray, List.set_cons_zero, List.set_cons_succ]
        refine take_w 6 (some 62) ?v7 rfl rfl (by kernel_rfl) (by kernel_rfl) (by kernel_rfl) (by rfl) ?y7 (fun _ _ _ h => h) (by assumption) ?n7
        case y7 =>
          intro w hSw
          try dsimp only at hSw
          go_simp
          try with_reducible rfl
        try simp only [Act.put, List.setIfInBounds_toArray, List.set_cons_zero, List.set_cons_succ]
        refine take_w 7 (some 63) ?v8 rfl rfl (by kernel_rfl) (by kernel_rfl) (by kernel_rfl) (by rfl) ?y8 (fun _ _ _ h => h) (by assumption) ?n8
        case y8 =>
          intro w hSw
          try dsimp only at hSw
          go_simp
          try with_reducible rfl
        try simp only [Act.put, List.setIfInBounds_toArray, List.set_cons_zero, List.set_cons_succ]
        refine take_w 8 (some 64) ?v9 rfl rfl (by kernel_rfl) (by kernel_rfl) (by kernel_rfl) (by rfl) ?y9 (fun _ _ _ h => h) (by assumption) ?n9
        case y9 =>
          intro w hSw
          try dsimp only at hSw
          go_simp
          try with_reducible rfl
        try simp only [Act.put, List.setIfInBounds_toArray, List.set_cons_zero, List.set_cons_succ]
        refine take_w 9 (some 65) ?v10 rfl rfl (by kernel_rfl) (by kernel_rfl) (by kernel_rfl) (by rfl) ?y10 (fun _ _ _ h => h) (by assumption) ?n10
        case y10 =>
          intro w hSw
          try dsimp only at hSw
          go_simp
          try with_reducible rfl
        try simp only [Act.put, List.setIfInBounds_toArray, List.set_cons_zero, List.set_cons_succ]
        refine take_w 10 (some 66) ?v11 rfl rfl (by kernel_rfl) (by kernel_rfl) (by kernel_rfl) (by rfl) ?y11 (fun _ _ _ h => h) (by assumption) ?n11
        case y11 =>
          intro w hSw
          try dsimp only at hSw
          go_simp
          try with_reducible rfl
        try simp only [Act.put, List.setIfInBounds_toArray, List.set_cons_zero, List.set_cons_succ]
        refine take_w 11 (some 67) ?v12 rfl rfl (by kernel_rfl) (by kernel_rfl) (by kernel_rfl) (by rfl) ?y12 (fun _ _ _ h => h) (by assumption) ?n12
        case y12 =>
          intro w hSw
          try dsimp only at hSw
          go_simp
          try with_reducible rfl
        try simp only [Act.put, List.setIfInBounds_toArray, List.set_cons_zero, List.set_cons_succ]
        refine take_w 12 (some 68) ?v13 rfl rfl (by kernel_rfl) (by kernel_rfl) (by kernel_rfl) (by rfl) ?y13 (fun _ _ _ h => h) (by assumption) ?n13
        case y13 =>
          intro w hSw
          try dsimp only at hSw
          go_simp
          try with_reducible rfl
        try simp only [Act.put, List.setIfInBounds_toArray, List.set_cons_zero, List.set_cons_succ]
        refine take_w 13 (some 69) ?v14 rfl rfl (by kernel_rfl) (by kernel_rfl) (by kernel_rfl) (by rfl) ?y14 (fun _ _ _ h => h) (by assumption) ?n14
        case y14 =>
          intro w hSw
          try dsimp only at hSw
          go_simp
          try with_reducible rfl
        try simp only [Act.put, List.setIfInBounds_toArray, List.set_cons_zero, List.set_cons_succ]
        refine take_w 14 (some 70) ?v15 rfl rfl (by kernel_rfl) (by kernel_rfl) (by kernel_rfl) (by rfl) ?y15 (fun _ _ _ h => h) (by assumption) ?n15
        case y15 =>
          intro w hSw
          try dsimp only at hSw
          go_simp
          try with_reducible rfl
        try simp only [Act.put, List.setIfInBounds_toArray, List.set_cons_zero, List.set_cons_succ]
        refine take_w 15 (some 71) ?v16 rfl rfl (by kernel_rfl) (by kernel_rfl) (by kernel_rfl) (by rfl) ?y16 (fun _ _ _ h => h) (by assumption) ?n16
        case y16 =>
          intro w hSw
          try dsimp only at hSw
          go_simp
          try with_reducible rfl
        try simp only [Act.put, List.setIfInBounds_toArray, List.set_cons_zero, List.set_cons_succ]
        refine take_w 16 (some 72) ?v17 rfl rfl (by kernel_rfl) (by kernel_rfl) (by kernel_rfl) (by rfl) ?y17 (fun _ _ _ h => h) (by assumption) ?n17
        case y17 =>
          intro w hSw
          try dsimp only at hSw
          go_simp
          try with_reducible rfl
        try simp only [Act.put, List.setIfInBounds_toArray, List.set_cons_zero, List.set_cons_succ]
        refine take_w 17 (some 73) ?v18 rfl rfl (by kernel_rfl) (by kernel_rfl) (by kernel_rfl) (by rfl) ?y18 (fun _ _ _ h => h) (by assumption) ?n18
        case y18 =>
          intro w hSw
          try dsimp only at hSw
          go_simp
          try with_reducible rfl
        try simp only [Act.put, List.setIfInBounds_toArray, List.set_cons_zero, List.set_cons_succ]
        refine take_w 18 (some 74) ?v19 rfl rfl (by kernel_rfl) (by kernel_rfl) (by kernel_rfl) (by rfl) ?y19 (fun _ _ _ h => h) (by assumption) ?n19
        case y19 =>
          intro w hSw
          try dsimp only at hSw
          go_simp
          try with_reducible rfl
        try simp only [Act.put, List.setIfInBounds_toArray, List.set_cons_zero, List.set_cons_succ]
        refine take_w 19 (some 75) ?v20 rfl rfl (by kernel_rfl) (by kernel_rfl) (by kernel_rfl) (by rfl) ?y20 (fun _ _ _ h => h) (by assumption) ?n20
        case y20 =>
          intro w hSw
          try dsimp only at hSw
          go_simp
          try with_reducible rfl
        try simp only [Act.put, List.setIfInBounds_toArray, List.set_cons_zero, List.set_cons_succ]
        refine take_w 20 (some 76) ?v21 rfl rfl (by kernel_rfl) (by kernel_rfl) (by kernel_rfl) (by rfl) ?y21 (fun _ _ _ h => h) (by assumption) ?n21
        case y21 =>
          intro w hSw
          try dsimp only at hSw
          go_simp
          try with_reducible rfl
        try simp only [Act.put, List.setIfInBounds_toArray, List.set_cons_zero, List.set_cons_succ]
        refine take_w 21 (some 77) ?v22 rfl rfl (by kernel_rfl) (by kernel_rfl) (by kernel_rfl) (by rfl) ?y22 (fun _ _ _ h => h) (by assumption) ?n22
        case y22 =>
          intro w hSw
          try dsimp only at hSw
          go_simp
          try with_reducible rfl
        try simp only [Act.put, List.setIfInBounds_toArray, List.set_cons_zero, List.set_cons_succ]
        refine take_w 22 (some 78) ?v23 rfl rfl (by kernel_rfl) (by kernel_rfl) (by kernel_rfl) (by rfl) ?y23 (fun _ _ _ h => h) (by assumption) ?n23
        case y23 =>
          intro w hSw
          try dsimp only at hSw
          go_simp
          try with_reducible rfl
        try simp only [Act.put, List.setIfInBounds_toArray, List.set_cons_zero, List.set_cons_succ]
        refine take_w 23 (some 79) ?v24 rfl rfl (by kernel_rfl) (by kernel_rfl) (by kernel_rfl) (by rfl) ?y24 (fun _ _ _ h => h) (by assumption) ?n24
        case y24 =>
          intro w hSw
          try dsimp only at hSw
          go_simp
          try with_reducible rfl
        try simp only [Act.put, List.setIfInBounds_toArray, List.set_cons_zero, List.set_cons_succ]
        refine take_w 24 (some 80) ?v25 rfl rfl (by kernel_rfl) (by kernel_rfl) (by kernel_rfl) (by rfl) ?y25 (fun _ _ _ h => h) (by assumption) ?n25
        case y25 =>
          intro w hSw
          try dsimp only at hSw
          go_simp
          try with_reducible rfl
        try simp only [Act.put, List.setIfInBounds_toArray, List.set_cons_zero, List.set_cons_succ]
        refine wpAnyH_ready (rs := [25, 30]) (by kernel_rfl) (by simp) ?_
        refine AllReadyH.cons (i := 25) rfl (fun K hK => ?_) (AllReadyH.cons (i := 30) rfl (fun K hK => ?_) AllReadyH.nil)
        · go_simp
          obtain ⟨wv1, hwv1⟩ : ∃ z, World.alloc wd (.cells #[.string ⟨#[]⟩, .string ⟨#[70, 78]⟩, .slice none 0 0, .string ⟨#[110]⟩, .string ⟨#[]⟩, .string ⟨#[78]⟩, .slice none 0 0, .string (F0 ++ ⟨#[59]⟩ ++ F1 ++ ⟨#[59]⟩ ++ F2 ++ ⟨#[59]⟩ ++ F3 ++ ⟨#[59]⟩ ++ F4)] 41) = z := ⟨_, rfl⟩
          obtain ⟨P, hP⟩ : ∃ P, wd.heap.size = P := ⟨_, rfl⟩
          have kP : Bk wv1 P 41 (litC [(nFN, [110]), (nN, Tx.sepd 59 [f0, f1, f2, f3, f4])]).toArray := by rw [← hwv1, ← hP, HTX.out]; exact Bk.new _ _ _
          have bN := bN.alloc bN.size (.cells #[.string ⟨#[]⟩, .string ⟨#[70, 78]⟩, .slice none 0 0, .string ⟨#[110]⟩, .string ⟨#[]⟩, .string ⟨#[78]⟩, .slice none 0 0, .string (F0 ++ ⟨#[59]⟩ ++ F1 ++ ⟨#[59]⟩ ++ F2 ++ ⟨#[59]⟩ ++ F3 ++ ⟨#[59]⟩ ++ F4)] 41)
          rw [hwv1] at bN 
          (try rw [hwv1])
          (try rw [hP])
          clear hwv1 hP
          refine hK.out _ _ ?_ (fun hHeld => ?_)
          · exact ⟨bN, HX0.out _ bN, HX1.out _ bN, HX2.out _ bN, HX3.out _ bN, HX4.out _ bN⟩
          clear hK K
          try simp only [Act.put, List.setIfInBounds_toArray, List.set_cons_zero, List.set_cons_succ]
          refine wpAnyH_ready (rs := [26, 30]) (by kernel_rfl) (by simp) ?_
          refine AllReadyH.cons (i := 26) rfl (fun K hK => ?_) (AllReadyH.cons (i := 30) rfl (fun K hK => ?_) AllReadyH.nil)
          · go_simp
            refine (HOF.out wv1 P (nFN, [110]) (nN, Tx.sepd 59 [f0, f1, f2, f3, f4]) d2 n2 (B7.out.trans (bN.mono B7.out.size)) kP HCO.out HD2.out).mono ?_
            rintro e wv2 ⟨⟨g2, o2, rfl, hg2, ho2⟩, bC⟩
            rw [HAG2.out]
            obtain ⟨GB, gm, gdap, rfl⟩ : ∃ A n cap, g2 = .slice A n cap := by obtain ⟨A, cap, e, _⟩ := hg2; exact ⟨A, _, cap, e⟩
            obtain ⟨OB, om, odap, rfl⟩ : ∃ A n cap, o2 = .slice A n cap := by obtain ⟨A, cap, e, _⟩ := ho2; exact ⟨A, _, cap, e⟩
            clear hg2 ho2
            have kP := kP.below bC kP.lt
            have bN := bN.trans (bC.mono bN.size)
            clear bC
            go_wp2_with fail
            refine hK.out _ _ ?_ (fun hHeld => ?_)
            · exact ⟨bN, HX0.out _ bN, HX1.out _ bN, HX2.out _ bN, HX3.out _ bN, HX4.out _ bN⟩
            clear hK K
            try simp only [Act.put, List.setIfInBounds_toArray, List.set_cons_zero, List.set_cons_succ]
            refine take_w 27 (some 55) ?v26 rfl rfl (by kernel_rfl) (by kernel_rfl) (by kernel_rfl) (by rfl) ?y26 (fun _ _ _ h => h) (by assumption) ?n26
            case y26 =>
              intro w hSw
              try dsimp only at hSw
              go_simp
              try with_reducible rfl
            try simp only [Act.put, List.setIfInBounds_toArray, List.set_cons_zero, List.set_cons_succ]
            refine take_w 28 (some 83) ?v27 rfl rfl (by kernel_rfl) (by kernel_rfl) (by kernel_rfl) (by rfl) ?y27 (fun _ _ _ h => h) (by assumption) ?n27
            case y27 =>
              intro w hSw
              try dsimp only at hSw
              go_simp
              try with_reducible rfl
            try simp only [Act.put, List.setIfInBounds_toArray, List.set_cons_zero, List.set_cons_succ]
            refine take_w 29 (some 84) ?v28 rfl rfl (by kernel_rfl) (by kernel_rfl) (by kernel_rfl) (by rfl) ?y28 (fun _ _ _ h => h) (by assumption) ?n28
            case y28 =>
              intro w hSw
              try dsimp only at hSw
              go_simp
              try with_reducible rfl
            try simp only [Act.put, List.setIfInBounds_toArray, List.set_cons_zero, List.set_cons_succ]
            refine wpAnyH_ready (rs := [30]) (by kernel_rfl) (by simp) ?_
            refine AllReadyH.cons (i := 30) rfl (fun K hK => ?_) AllReadyH.nil
            go_simp
            obtain ⟨wv3, hwv3⟩ : ∃ z, World.alloc wv2 (.cells #[.string ⟨#[]⟩, .string ⟨#[]⟩, .string ⟨#[]⟩, .string ⟨#[]⟩, .string ⟨#[]⟩, .string ⟨#[]⟩, .string ⟨#[]⟩, .string ⟨#[]⟩, .string ⟨#[]⟩, .slice none 0 0, .slice none 0 0] 25) = z := ⟨_, rfl⟩
            obtain ⟨D, hD⟩ : ∃ D, wv2.heap.size = D := ⟨_, rfl⟩
            have kD : Bk wv3 D 25 #[.string ⟨#[]⟩, .string ⟨#[]⟩, .string ⟨#[]⟩, .string ⟨#[]⟩, .string ⟨#[]⟩, .string ⟨#[]⟩, .string ⟨#[]⟩, .string ⟨#[]⟩, .string ⟨#[]⟩, .slice none 0 0, .slice none 0 0] := by rw [← hwv3, ← hD]; exact Bk.new _ _ _
            have hDW : W7.heap.size ≤ D := by rw [← hD]; exact bN.size
            have kP := kP.alloc (.cells #[.string ⟨#[]⟩, .string ⟨#[]⟩, .string ⟨#[]⟩, .string ⟨#[]⟩, .string ⟨#[]⟩, .string ⟨#[]⟩, .string ⟨#[]⟩, .string ⟨#[]⟩, .string ⟨#[]⟩, .slice none 0 0, .slice none 0 0] 25)
            have bN := bN.alloc bN.size (.cells #[.string ⟨#[]⟩, .string ⟨#[]⟩, .string ⟨#[]⟩, .string ⟨#[]⟩, .string ⟨#[]⟩, .string ⟨#[]⟩, .string ⟨#[]⟩, .string ⟨#[]⟩, .string ⟨#[]⟩, .slice none 0 0, .slice none 0 0] 25)
            rw [hwv3] at bN kP
            (try rw [hwv3])
            (try rw [hD])
            clear hwv3 hD
            refine hK.out _ _ ?_ (fun hHeld => ?_)
            · exact ⟨bN, HX0.out _ bN, HX1.out _ bN, HX2.out _ bN, HX3.out _ bN, HX4.out _ bN⟩
            clear hK K
            try simp only [Act.put, List.setIfInBounds_toArray, List.set_cons_zero, List.set_cons_succ]
            refine wpAnyH_ready (rs := [31]) (by kernel_rfl) (by simp) ?_
            refine AllReadyH.cons (i := 31) rfl (fun K hK => ?_) AllReadyH.nil
            go_simp
            have y0 := kD.cell 0
            have z0 := kD.free 0
            have y1 := kD.cell 1
            have z1 := kD.free 1
            have y2 := kD.cell 2
            have z2 := kD.free 2
            have y3 := kD.cell 3
            have z3 := kD.free 3
            have y4 := kD.cell 4
            have z4 := kD.free 4
            have y5 := kD.cell 5
            have z5 := kD.free 5
            have y6 := kD.cell 6
            have z6 := kD.free 6
            have y7 := kD.cell 7
            have z7 := kD.free 7
            have y8 := kD.cell 8
            have z8 := kD.free 8
            have y9 := kD.cell 9
            have z9 := kD.free 9
            have y10 := kD.cell 10
            have z10 := kD.free 10
            go_simp
            obtain ⟨wv4, hwv4⟩ : ∃ z, laid11 wv3 D (.string e0) (.string e1) (.string e2) (.string ⟨#[]⟩) (.string ⟨#[]⟩) (.string ⟨#[]⟩) (.string ⟨#[]⟩) (.string ⟨#[]⟩) (.string ⟨#[]⟩) (.slice GB gm gdap) (.slice OB om odap) = z := ⟨_, rfl⟩
            have kD := laid11_bk kD (.string e0) (.string e1) (.string e2) (.string ⟨#[]⟩) (.string ⟨#[]⟩) (.string ⟨#[]⟩) (.string ⟨#[]⟩) (.string ⟨#[]⟩) (.string ⟨#[]⟩) (.slice GB gm gdap) (.slice OB om odap)
            have bN := laid11_below bN hDW (.string e0) (.string e1) (.string e2) (.string ⟨#[]⟩) (.string ⟨#[]⟩) (.string ⟨#[]⟩) (.string ⟨#[]⟩) (.string ⟨#[]⟩) (.string ⟨#[]⟩) (.slice GB gm gdap) (.slice OB om odap)
            refine hK.out _ _ ?_ (fun hHeld => ?_)
            · exact ⟨bN, HX0.out _ bN, HX1.out _ bN, HX2.out _ bN, HX3.out _ bN, HX4.out _ bN⟩
            clear hK K
            try simp only [Act.put, List.setIfInBounds_toArray, List.set_cons_zero, List.set_cons_succ]
            refine take_w 32 (some 15) ?v29 rfl rfl (by kernel_rfl) (by kernel_rfl) (by kernel_rfl) (by rfl) ?y29 (fun _ _ _ h => h) (by assumption) ?n29
            case y29 =>
              intro w hSw
              try dsimp only at hSw
              go_simp
              try with_reducible rfl
            try simp only [Act.put, List.setIfInBounds_toArray, List.set_cons_zero, List.set_cons_succ]
            refine wpAnyH_done (by kernel_rfl) ?_ _
            refine hK0 _ _ (Met.intro (hJ0 _ _ ?_))
            (repeat apply Exists.intro)
            refine ⟨?_, rfl⟩
            exact ⟨D, GB, gm, gdap, OB, om, odap, rfl, rfl, kD, bN, hDW⟩
          · go_simp
            obtain ⟨wv2, hwv2⟩ : ∃ z, World.alloc wv1 (.cells #[.string ⟨#[]⟩, .string ⟨#[]⟩, .string ⟨#[]⟩, .string ⟨#[]⟩, .string ⟨#[]⟩, .string ⟨#[]⟩, .string ⟨#[]⟩, .string ⟨#[]⟩, .string ⟨#[]⟩, .slice none 0 0, .slice none 0 0] 25) = z := ⟨_, rfl⟩
            obtain ⟨D, hD⟩ : ∃ D, wv1.heap.size = D := ⟨_, rfl⟩
            have kD : Bk wv2 D 25 #[.string ⟨#[]⟩, .string ⟨#[]⟩, .string ⟨#[]⟩, .string ⟨#[]⟩, .string ⟨#[]⟩, .string ⟨#[]⟩, .string ⟨#[]⟩, .string ⟨#[]⟩, .string ⟨#[]⟩, .slice none 0 0, .slice none 0 0] := by rw [← hwv2, ← hD]; exact Bk.new _ _ _
            have hDW : W7.heap.size ≤ D := by rw [← hD]; exact bN.size
            have kP := kP.alloc (.cells #[.string ⟨#[]⟩, .string ⟨#[]⟩, .string ⟨#[]⟩, .string ⟨#[]⟩, .string ⟨#[]⟩, .string ⟨#[]⟩, .string ⟨#[]⟩, .string ⟨#[]⟩, .string ⟨#[]⟩, .slice none 0 0, .slice none 0 0] 25)
            have bN := bN.alloc bN.size (.cells #[.string ⟨#[]⟩, .string ⟨#[]⟩, .string ⟨#[]⟩, .string ⟨#[]⟩, .string ⟨#[]⟩, .string ⟨#[]⟩, .string ⟨#[]⟩, .string ⟨#[]⟩, .string ⟨#[]⟩, .slice none 0 0, .slice none 0 0] 25)
            rw [hwv2] at bN kP
            (try rw [hwv2])
            (try rw [hD])
            clear hwv2 hD
            refine hK.out _ _ ?_ (fun hHeld => ?_)
            · exact ⟨bN, HX0.out _ bN, HX1.out _ bN, HX2.out _ bN, HX3.out _ bN, HX4.out _ bN⟩
            clear hK K
            try simp only [Act.put, List.setIfInBounds_toArray, List.set_cons_zero, List.set_cons_succ]
            refine wpAnyH_ready (rs := [26]) (by kernel_rfl) (by simp) ?_
            refine AllReadyH.cons (i := 26) rfl (fun K hK => ?_) AllReadyH.nil
            go_simp
            refine (HOF.out wv2 P (nFN, [110]) (nN, Tx.sepd 59 [f0, f1, f2, f3, f4]) d2 n2 (B7.out.trans (bN.mono B7.out.size)) kP HCO.out HD2.out).mono ?_
            rintro e wv3 ⟨⟨g2, o2, rfl, hg2, ho2⟩, bC⟩
            rw [HAG2.out]
            obtain ⟨GB, gm, gdap, rfl⟩ : ∃ A n cap, g2 = .slice A n cap := by obtain ⟨A, cap, e, _⟩ := hg2; exact ⟨A, _, cap, e⟩
            obtain ⟨OB, om, odap, rfl⟩ : ∃ A n cap, o2 = .slice A n cap := by obtain ⟨A, cap, e, _⟩ := ho2; exact ⟨A, _, cap, e⟩
            clear hg2 ho2
            have kP := kP.below bC kP.lt
            have kD := kD.below bC kD.lt
            have bN := bN.trans (bC.mono bN.size)
            clear bC
            go_wp2_with fail
            refine hK.out _ _ ?_ (fun hHeld => ?_)
            · exact ⟨bN, HX0.out _ bN, HX1.out _ bN, HX2.out _ bN, HX3.out _ bN, HX4.out _ bN⟩
            clear hK K
            try simp only [Act.put, List.setIfInBounds_toArray, List.set_cons_zero, List.set_cons_succ]
            refine take_w 27 (some 55) ?v30 rfl rfl (by kernel_rfl) (by kernel_rfl) (by kernel_rfl) (by rfl) ?y30 (fun _ _ _ h => h) (by assumption) ?n30
            case y30 =>
              intro w hSw
              try dsimp only at hSw
              go_simp
              try with_reducible rfl
            try simp only [Act.put, List.setIfInBounds_toArray, List.set_cons_zero, List.set_cons_succ]
            refine take_w 28 (some 83) ?v31 rfl rfl (by kernel_rfl) (by kernel_rfl) (by kernel_rfl) (by rfl) ?y31 (fun _ _ _ h => h) (by assumption) ?n31
            case y31 =>
              intro w hSw
              try dsimp only at hSw
              go_simp
              try with_reducible rfl
            try simp only [Act.put, List.setIfInBounds_toArray, List.set_cons_zero, List.set_cons_succ]
            refine take_w 29 (some 84) ?v32 rfl rfl (by kernel_rfl) (by kernel_rfl) (by kernel_rfl) (by rfl) ?y32 (fun _ _ _ h => h) (by assumption) ?n32
            case y32 =>
              intro w hSw
              try dsimp only at hSw
              go_simp
              try with_reducible rfl
            try simp only [Act.put, List.setIfInBounds_toArray, List.set_cons_zero, List.set_cons_succ]
            refine wpAnyH_ready (rs := [31]) (by kernel_rfl) (by simp) ?_
            refine AllReadyH.cons (i := 31) rfl (fun K hK => ?_) AllReadyH.nil
            go_simp
            have y0 := kD.cell 0
            have z0 := kD.free 0
            have y1 := kD.cell 1
            have z1 := kD.free 1
            have y2 := kD.cell 2
            have z2 := kD.free 2
            have y3 := kD.cell 3
            have z3 := kD.free 3
            have y4 := kD.cell 4
            have z4 := kD.free 4
            have y5 := kD.cell 5
            have z5 := kD.free 5
            have y6 := kD.cell 6
            have z6 := kD.free 6
            have y7 := kD.cell 7
            have z7 := kD.free 7
            have y8 := kD.cell 8
            have z8 := kD.free 8
            have y9 := kD.cell 9
            have z9 := kD.free 9
            have y10 := kD.cell 10
            have z10 := kD.free 10
            go_simp
            obtain ⟨wv4, hwv4⟩ : ∃ z, laid11 wv3 D (.string e0) (.string e1) (.string e2) (.string ⟨#[]⟩) (.string ⟨#[]⟩) (.string ⟨#[]⟩) (.string ⟨#[]⟩) (.string ⟨#[]⟩) (.string ⟨#[]⟩) (.slice GB gm gdap) (.slice OB om odap) = z := ⟨_, rfl⟩
            have kD := laid11_bk kD (.string e0) (.string e1) (.string e2) (.string ⟨#[]⟩) (.string ⟨#[]⟩) (.string ⟨#[]⟩) (.string ⟨#[]⟩) (.string ⟨#[]⟩) (.string ⟨#[]⟩) (.slice GB gm gdap) (.slice OB om odap)
            have bN := laid11_below bN hDW (.string e0) (.string e1) (.string e2) (.string ⟨#[]⟩) (.string ⟨#[]⟩) (.string ⟨#[]⟩) (.string ⟨#[]⟩) (.string ⟨#[]⟩) (.string ⟨#[]⟩) (.slice GB gm gdap) (.slice OB om odap)
            refine hK.out _ _ ?_ (fun hHeld => ?_)
            · exact ⟨bN, HX0.out _ bN, HX1.out _ bN, HX2.out _ bN, HX3.out _ bN, HX4.out _ bN⟩
            clear hK K
            try simp only [Act.put, List.setIfInBounds_toArray, List.set_cons_zero, List.set_cons_succ]
            refine take_w 32 (some 15) ?v33 rfl rfl (by kernel_rfl) (by kernel_rfl) (by kernel_rfl) (by rfl) ?y33 (fun _ _ _ h => h) (by assumption) ?n33
            case y33 =>
              intro w hSw
              try dsimp only at hSw
              go_simp
              try with_reducible rfl
            try simp only [Act.put, List.setIfInBounds_toArray, List.set_cons_zero, List.set_cons_succ]
            refine wpAnyH_done (by kernel_rfl) ?_ _
            refine hK0 _ _ (Met.intro (hJ0 _ _ ?_))
            (repeat apply Exists.intro)
            refine ⟨?_, rfl⟩
            exact ⟨D, GB, gm, gdap, OB, om, odap, rfl, rfl, kD, bN, hDW⟩
        · go_simp
          obtain ⟨wv1, hwv1⟩ : ∃ z, World.alloc wd (.cells #[.string ⟨#[]⟩, .string ⟨#[]⟩, .string ⟨#[]⟩, .string ⟨#[]⟩, .string ⟨#[]⟩, .string ⟨#[]⟩, .string ⟨#[]⟩, .string ⟨#[]⟩, .string ⟨#[]⟩, .slice none 0 0, .slice none 0 0] 25) = z := ⟨_, rfl⟩
          obtain ⟨D, hD⟩ : ∃ D, wd.heap.size = D := ⟨_, rfl⟩
          have kD : Bk wv1 D 25 #[.string ⟨#[]⟩, .string ⟨#[]⟩, .string ⟨#[]⟩, .string ⟨#[]⟩, .string ⟨#[]⟩, .string ⟨#[]⟩, .string ⟨#[]⟩, .string ⟨#[]⟩, .string ⟨#[]⟩, .slice none 0 0, .slice none 0 0] := by rw [← hwv1, ← hD]; exact Bk.new _ _ _
          have hDW : W7.heap.size ≤ D := by rw [← hD]; exact bN.size
          have bN := bN.alloc bN.size (.cells #[.string ⟨#[]⟩, .string ⟨#[]⟩, .string ⟨#[]⟩, .string ⟨#[]⟩, .string ⟨#[]⟩, .string ⟨#[]⟩, .string ⟨#[]⟩, .string ⟨#[]⟩, .string ⟨#[]⟩, .slice none 0 0, .slice none 0 0] 25)
          rw [hwv1] at bN 
          (try rw [hwv1])
          (try rw [hD])
          clear hwv1 hD
          refine hK.out _ _ ?_ (fun hHeld => ?_)
          · exact ⟨bN, HX0.out _ bN, HX1.out _ bN, HX2.out _ bN, HX3.out _ bN, HX4.out _ bN⟩
          clear hK K
          try simp only [Act.put, List.setIfInBounds_toArray, List.set_cons_zero, List.set_cons_succ]
          refine wpAnyH_ready (rs := [25]) (by kernel_rfl) (by simp) ?_
          refine AllReadyH.cons (i := 25) rfl (fun K hK => ?_) AllReadyH.nil
          go_simp
          obtain ⟨wv2, hwv2⟩ : ∃ z, World.alloc wv1 (.cells #[.string ⟨#[]⟩, .string ⟨#[70, 78]⟩, .slice none 0 0, .string ⟨#[110]⟩, .string ⟨#[]⟩, .string ⟨#[78]⟩, .slice none 0 0, .string (F0 ++ ⟨#[59]⟩ ++ F1 ++ ⟨#[59]⟩ ++ F2 ++ ⟨#[59]⟩ ++ F3 ++ ⟨#[59]⟩ ++ F4)] 41) = z := ⟨_, rfl⟩
          obtain ⟨P, hP⟩ : ∃ P, wv1.heap.size = P := ⟨_, rfl⟩
          have kP : Bk wv2 P 41 (litC [(nFN, [110]), (nN, Tx.sepd 59 [f0, f1, f2, f3, f4])]).toArray := by rw [← hwv2, ← hP, HTX.out]; exact Bk.new _ _ _
          have kD := kD.alloc (.cells #[.string ⟨#[]⟩, .string ⟨#[70, 78]⟩, .slice none 0 0, .string ⟨#[110]⟩, .string ⟨#[]⟩, .string ⟨#[78]⟩, .slice none 0 0, .string (F0 ++ ⟨#[59]⟩ ++ F1 ++ ⟨#[59]⟩ ++ F2 ++ ⟨#[59]⟩ ++ F3 ++ ⟨#[59]⟩ ++ F4)] 41)
          have bN := bN.alloc bN.size (.cells #[.string ⟨#[]⟩, .string ⟨#[70, 78]⟩, .slice none 0 0, .string ⟨#[110]⟩, .string ⟨#[]⟩, .string ⟨#[78]⟩, .slice none 0 0, .string (F0 ++ ⟨#[59]⟩ ++ F1 ++ ⟨#[59]⟩ ++ F2 ++ ⟨#[59]⟩ ++ F3 ++ ⟨#[59]⟩ ++ F4)] 41)
          rw [hwv2] at bN kD
          (try rw [hwv2])
          (try rw [hP])
          clear hwv2 hP
          refine hK.out _ _ ?_ (fun hHeld => ?_)
          · exact ⟨bN, HX0.out _ bN, HX1.out _ bN, HX2.out _ bN, HX3.out _ bN, HX4.out _ bN⟩
          clear hK K
          try simp only [Act.put, List.setIfInBounds_toArray, List.set_cons_zero, List.set_cons_succ]
          refine wpAnyH_ready (rs := [26]) (by kernel_rfl) (by simp) ?_
          refine AllReadyH.cons (i := 26) rfl (fun K hK => ?_) AllReadyH.nil
          go_simp
          refine (HOF.out wv2 P (nFN, [110]) (nN, Tx.sepd 59 [f0, f1, f2, f3, f4]) d2 n2 (B7.out.trans (bN.mono B7.out.size)) kP HCO.out HD2.out).mono ?_
          rintro e wv3 ⟨⟨g2, o2, rfl, hg2, ho2⟩, bC⟩
          rw [HAG2.out]
          obtain ⟨GB, gm, gdap, rfl⟩ : ∃ A n cap, g2 = .slice A n cap := by obtain ⟨A, cap, e, _⟩ := hg2; exact ⟨A, _, cap, e⟩
          obtain ⟨OB, om, odap, rfl⟩ : ∃ A n cap, o2 = .slice A n cap := by obtain ⟨A, cap, e, _⟩ := ho2; exact ⟨A, _, cap, e⟩
          clear hg2 ho2
          have kD := kD.below bC kD.lt
          have kP := kP.below bC kP.lt
          have bN := bN.trans (bC.mono bN.size)
          clear bC
          go_wp2_with fail
          refine hK.out _ _ ?_ (fun hHeld => ?_)
          · exact ⟨bN, HX0.out _ bN, HX1.out _ bN, HX2.out _ bN, HX3.out _ bN, HX4.out _ bN⟩
          clear hK K
          try simp only [Act.put, List.setIfInBounds_toArray, List.set_cons_zero, List.set_cons_succ]
          refine take_w 27 (some 55) ?v34 rfl rfl (by kernel_rfl) (by kernel_rfl) (by kernel_rfl) (by rfl) ?y34 (fun _ _ _ h => h) (by assumption) ?n34
          case y34 =>
            intro w hSw
            try dsimp only at hSw
            go_simp
            try with_reducible rfl
          try simp only [Act.put, List.setIfInBounds_toArray, List.set_cons_zero, List.set_cons_succ]
          refine take_w 28 (some 83) ?v35 rfl rfl (by kernel_rfl) (by kernel_rfl) (by kernel_rfl) (by rfl) ?y35 (fun _ _ _ h => h) (by assumption) ?n35
          case y35 =>
            intro w hSw
            try dsimp only at hSw
            go_simp
            try with_reducible rfl
          try simp only [Act.put, List.setIfInBounds_toArray, List.set_cons_zero, List.set_cons_succ]
          refine take_w 29 (some 84) ?v36 rfl rfl (by kernel_rfl) (by kernel_rfl) (by kernel_rfl) (by rfl) ?y36 (fun _ _ _ h => h) (by assumption) ?n36
          case y36 =>
            intro w hSw
            try dsimp only at hSw
            go_simp
            try with_reducible rfl
          try simp only [Act.put, List.setIfInBounds_toArray, List.set_cons_zero, List.set_cons_succ]
          refine wpAnyH_ready (rs := [31]) (by kernel_rfl) (by simp) ?_
          refine AllReadyH.cons (i := 31) rfl (fun K hK => ?_) AllReadyH.nil
          go_simp
          have y0 := kD.cell 0
          have z0 := kD.free 0
          have y1 := kD.cell 1
          have z1 := kD.free 1
          have y2 := kD.cell 2
          have z2 := kD.free 2
          have y3 := kD.cell 3
          have z3 := kD.free 3
          have y4 := kD.cell 4
          have z4 := kD.free 4
          have y5 := kD.cell 5
          have z5 := kD.free 5
          have y6 := kD.cell 6
          have z6 := kD.free 6
          have y7 := kD.cell 7
          have z7 := kD.free 7
          have y8 := kD.cell 8
          have z8 := kD.free 8
          have y9 := kD.cell 9
          have z9 := kD.free 9
          have y10 := kD.cell 10
          have z10 := kD.free 10
          go_simp
          obtain ⟨wv4, hwv4⟩ : ∃ z, laid11 wv3 D (.string e0) (.string e1) (.string e2) (.string ⟨#[]⟩) (.string ⟨#[]⟩) (.string ⟨#[]⟩) (.string ⟨#[]⟩) (.string ⟨#[]⟩) (.string ⟨#[]⟩) (.slice GB gm gdap) (.slice OB om odap) = z := ⟨_, rfl⟩
          have kD := laid11_bk kD (.string e0) (.string e1) (.string e2) (.string ⟨#[]⟩) (.string ⟨#[]⟩) (.string ⟨#[]⟩) (.string ⟨#[]⟩) (.string ⟨#[]⟩) (.string ⟨#[]⟩) (.slice GB gm gdap) (.slice OB om odap)
          have bN := laid11_below bN hDW (.string e0) (.string e1) (.string e2) (.string ⟨#[]⟩) (.string ⟨#[]⟩) (.string ⟨#[]⟩) (.string ⟨#[]⟩) (.string ⟨#[]⟩) (.string ⟨#[]⟩) (.slice GB gm gdap) (.slice OB om odap)
          refine hK.out _ _ ?_ (fun hHeld => ?_)
          · exact ⟨bN, HX0.out _ bN, HX1.out _ bN, HX2.out _ bN, HX3.out _ bN, HX4.out _ bN⟩
          clear hK K
          try simp only [Act.put, List.setIfInBounds_toArray, List.set_cons_zero, List.set_cons_succ]
          refine take_w 32 (some 15) ?v37 rfl rfl (by kernel_rfl) (by kernel_rfl) (by kernel_rfl) (by rfl) ?y37 (fun _ _ _ h => h) (by assumption) ?n37
          case y37 =>
            intro w hSw
            try dsimp only at hSw
            go_simp
            try with_reducible rfl
          try simp only [Act.put, List.setIfInBounds_toArray, List.set_cons_zero, List.set_cons_succ]
          refine wpAnyH_done (by kernel_rfl) ?_ _
          refine hK0 _ _ (Met.intro (hJ0 _ _ ?_))
          (repeat apply Exists.intro)
          refine ⟨?_, rfl⟩
          exact ⟨D, GB, gm, gdap, OB, om, odap, rfl, rfl, kD, bN, hDW⟩
      case rest =>
        obtain ⟨D, GB, gm, gdap, OB, om, odap, rfl, rfl, KD, BW, hDW⟩ := hcut
        have BX : Hid (Below w.heap.size w wc) := B7.out.trans (BW.out.mono B7.out.size)
        have KCX := Lib.hid (KC7.out.below BW.out KC7.out.lt)
        obtain ⟨W8, hW8⟩ : ∃ W8, wc.alloc (.cells #[.string ⟨#[]⟩, .string ⟨#[70, 78]⟩, .slice none 0 0, .string ⟨#[110]⟩, .string ⟨#[]⟩, .string ⟨#[78]⟩, .slice none 0 0, .string ⟨#[92, 120, 59, 59]⟩] 41) = W8 := ⟨_, rfl⟩
        obtain ⟨P3, hP3⟩ : ∃ P3, wc.heap.size = P3 := ⟨_, rfl⟩
        have b8 : Below wc.heap.size wc W8 := by rw [← hW8]; exact (Below.refl _ _).alloc (Nat.le_refl _) _
        have B8 : Hid (Below w.heap.size w W8) := BX.out.trans (b8.mono BX.out.size)
        have k8 : Bk W8 P3 41 (litC [(nFN, [110]), (nN, [92, 120, 59, 59])]).toArray := by rw [← hW8, ← hP3]; exact Bk.new _ _ _
        have HO3 := Lib.hid (HOF.out W8 P3 (nFN, [110]) (nN, [92, 120, 59, 59]) noneC 18 B8.out k8 (two_cost (by decide)) escape_ofT)
        have KC8 := Lib.hid (KCX.out.below b8 KCX.out.lt)
        have KD8 := Lib.hid (KD.out.below b8 KD.out.lt)
        have BW8 : Hid (Below W7.heap.size W7 W8) := BW.out.trans (b8.mono BW.out.size)
        clear b8 k8
        go_wp2_with fail
        refine HO3.out.mono ?_
        rintro e w9 ⟨⟨g3, o3, rfl, hg3, ho3⟩, b9⟩
        have hag3 : agC noneC g3 o3 = .agg #[.string ⟨#[]⟩, .string ⟨#[]⟩, .string ⟨#[]⟩, .string ⟨#[]⟩, .string ⟨#[]⟩, .string ⟨#[]⟩, .string ⟨#[]⟩, .string ⟨#[]⟩, .string ⟨#[]⟩, g3, o3] := rfl
        rw [hag3]
        obtain ⟨GE, ge, geap, rfl⟩ : ∃ A n cap, g3 = .slice A n cap := by obtain ⟨A, cap, e, _⟩ := hg3; exact ⟨A, _, cap, e⟩
        obtain ⟨OE, oe, oeap, rfl⟩ : ∃ A n cap, o3 = .slice A n cap := by obtain ⟨A, cap, e, _⟩ := ho3; exact ⟨A, _, cap, e⟩
        have bA : Below w9.heap.size w9 (w9.alloc (.cells #[.string ⟨#[]⟩, .string ⟨#[]⟩, .string ⟨#[]⟩, .string ⟨#[]⟩, .string ⟨#[]⟩, .string ⟨#[]⟩, .string ⟨#[]⟩, .string ⟨#[]⟩, .string ⟨#[]⟩, .slice GE ge geap, .slice OE oe oeap] 25)) := (Below.refl _ _).alloc (Nat.le_refl _) _
        have B9 : Hid (Below w.heap.size w w9) := B8.out.trans (b9.mono B8.out.size)
        have BA : Hid (Below w.heap.size w (w9.alloc (.cells #[.string ⟨#[]⟩, .string ⟨#[]⟩, .string ⟨#[]⟩, .string ⟨#[]⟩, .string ⟨#[]⟩, .string ⟨#[]⟩, .string ⟨#[]⟩, .string ⟨#[]⟩, .string ⟨#[]⟩, .slice GE ge geap, .slice OE oe oeap] 25))) := B9.out.trans (bA.mono B9.out.size)
        have b9a := b9.trans (bA.mono b9.size)
        have KCA := Lib.hid (KC8.out.below b9a KC8.out.lt)
        have KDA := Lib.hid (KD8.out.below b9a KD8.out.lt)
        have BWA := Lib.hid (BW8.out.trans (b9a.mono BW8.out.size))
        clear hg3 ho3 hag3 b9 b9a bA hW8 hP3
        go_upto_region 13 with fail
        obtain ⟨WA, hWA⟩ : ∃ WA, w9.alloc (.cells #[.string ⟨#[]⟩, .string ⟨#[]⟩, .string ⟨#[]⟩, .string ⟨#[]⟩, .string ⟨#[]⟩, .string ⟨#[]⟩, .string ⟨#[]⟩, .string ⟨#[]⟩, .string ⟨#[]⟩, .slice GE ge geap, .slice OE oe oeap] 25) = WA := ⟨_, rfl⟩
        rw [hWA] at KCA KDA BWA BA
        (try rw [hWA])
        clear hWA
        have HAW1 : Hid (∀ W', Below WA.heap.size WA W' → Calls Tryz.prog 16 #[] W' fun e w' => e = .returned (.bool true) ∧ Below W'.heap.size W' w') := fun W' h => HAW.out W' (BA.out.trans (h.mono BA.out.size))
        have HC01 : Hid (∀ W', Below WA.heap.size WA W' → W'.cell? ⟨C, 1, none⟩ = some (.string c1)) := fun W' h => (KCA.out.below h KCA.out.lt).cell 1
        have HC02 : Hid (∀ W', Below WA.heap.size WA W' → W'.cell? ⟨C, 2, none⟩ = some (.string c2)) := fun W' h => (KCA.out.below h KCA.out.lt).cell 2
        have HD01 : Hid (∀ W', Below WA.heap.size WA W' → W'.cell? ⟨D, 1, none⟩ = some (.string e1)) := fun W' h => (KDA.out.below h KDA.out.lt).cell 1
        have HD02 : Hid (∀ W', Below WA.heap.size WA W' → W'.cell? ⟨D, 2, none⟩ = some (.string e2)) := fun W' h => (KDA.out.below h KDA.out.lt).cell 2
        have HF00 : Hid (∀ W', Below WA.heap.size WA W' → W'.cell? ⟨L, 0, none⟩ = some (.string F0)) := fun W' h => HX0.out W' (BWA.out.trans (h.mono BWA.out.size))
        have HF01 : Hid (∀ W', Below WA.heap.size WA W' → W'.cell? ⟨L, 1, none⟩ = some (.string F1)) := fun W' h => HX1.out W' (BWA.out.trans (h.mono BWA.out.size))
        have bN : Below WA.heap.size WA WA.drew := (Below.refl _ _).drew
        have hq3 : (q = 3 ↔ nn = 5) := by have := HMX.out; have := HI.out; omega
        rcases HC1.out with ⟨h3, rfl, rfl, rfl⟩ | ⟨h3, rfl⟩
        · have h5 : nn = 5 := hq3.1 h3
          have hm1 : (max (nn : Int) 2 == 5) = true := by rw [h5]; rfl
          have hm2 : max (nn : Int) 2 = 5 := by omega
          clear h3 h5 hq3 hlt hq
          rcases HC2.out with ⟨h4, rfl, rfl, rfl⟩ | ⟨h4, rfl⟩
          · have h4d : decide (k < 2) = true := decide_eq_true h4
            have h4i : decide ((k : Int) < 2) = true := decide_eq_true (by omega)
            refine wp_region_held_drew (S := fun w' => Below WA.heap.size WA w' ∧ w'.cell? ⟨C, 1, none⟩ = some (.string c1) ∧ w'.cell? ⟨C, 2, none⟩ = some (.string c2) ∧ w'.cell? ⟨D, 1, none⟩ = some (.string e1) ∧ w'.cell? ⟨D, 2, none⟩ = some (.string e2) ∧ w'.cell? ⟨L, 0, none⟩ = some (.string e1) ∧ w'.cell? ⟨L, 1, none⟩ = some (.string e2)) (by kernel_rfl) ?_ (fun hHeld => ?_)
            · exact ⟨bN, HC01.out _ bN, HC02.out _ bN, HD01.out _ bN, HD02.out _ bN, HF00.out _ bN, HF01.out _ bN⟩
            refine wpAnyH_ready (rs := [0]) (by kernel_rfl) (by simp) ?_
            refine AllReadyH.cons (i := 0) rfl (fun K hK => ?_) AllReadyH.nil
            go_simp
            refine (HAW1.out _ bN).mono ?_
            rintro e wN ⟨rfl, b11⟩
            have bN := bN.trans (b11.mono bN.size)
            clear b11
            go_wp2_with fail
            go_wp2_with fail
            refine hK.out _ _ ?_ (fun hHeld => ?_)
            · exact ⟨bN, HC01.out _ bN, HC02.out _ bN, HD01.out _ bN, HD02.out _ bN, HF00.out _ bN, HF01.out _ bN⟩
            clear hK K
            try simp only [Act.put, List.setIfInBounds_toArray, List.set_cons_zero, List.set_cons_succ]
            refine take_w 1 (some 93) ?v39 rfl rfl (by kernel_rfl) (by kernel_rfl) (by kernel_rfl) (by rfl) ?y39 (fun _ _ _ h => h) (by assumption) ?n39
            case y39 =>
              intro w hSw
              try dsimp only at hSw
              go_simp
              try with_reducible rfl
            try simp only [Act.put, List.setIfInBounds_toArray, List.set_cons_zero, List.set_cons_succ]
            refine take_w 2 (some 94) ?v40 rfl rfl (by kernel_rfl) (by kernel_rfl) (by kernel_rfl) (by rfl) ?y40 (fun _ _ _ h => h) (by assumption) ?n40
            case y40 =>
              intro w hSw
              try dsimp only at hSw
              go_simp
              try with_reducible rfl
            try simp only [Act.put, List.setIfInBounds_toArray, List.set_cons_zero, List.set_cons_succ]
            refine take_w 3 (some 95) ?v41 rfl rfl (by kernel_rfl) (by kernel_rfl) (by kernel_rfl) (by rfl) ?y41 (fun _ _ _ h => h) (by assumption) ?n41
            case y41 =>
              intro w hSw
              try dsimp only at hSw
              go_simp
              try with_reducible rfl
            try simp only [Act.put, List.setIfInBounds_toArray, List.set_cons_zero, List.set_cons_succ]
            refine take_w 4 (some 96) ?v42 rfl rfl (by kernel_rfl) (by kernel_rfl) (by kernel_rfl) (by rfl) ?y42 (fun _ _ _ h => h) (by assumption) ?n42
            case y42 =>
              intro w hSw
              try dsimp only at hSw
              go_simp
              try with_reducible rfl
            try simp only [Act.put, List.setIfInBounds_toArray, List.set_cons_zero, List.set_cons_succ]
            refine take_w 5 (some 97) ?v43 rfl rfl (by kernel_rfl) (by kernel_rfl) (by kernel_rfl) (by rfl) ?y43 (fun _ _ _ h => h) (by assumption) ?n43
            case y43 =>
              intro w hSw
              try dsimp only at hSw
              go_simp
              try with_reducible rfl
            try simp only [Act.put, List.setIfInBounds_toArray, List.set_cons_zero, List.set_cons_succ]
            refine take_w 6 (some 98) ?v44 rfl rfl (by kernel_rfl) (by kernel_rfl) (by kernel_rfl) (by rfl) ?y44 (fun _ _ _ h => h) (by assumption) ?n44
            case y44 =>
              intro w hSw
              try dsimp only at hSw
              go_simp
              try with_reducible rfl
            try simp only [Act.put, List.setIfInBounds_toArray, List.set_cons_zero, List.set_cons_succ]
            refine take_w 7 (some 99) ?v45 rfl rfl (by kernel_rfl) (by kernel_rfl) (by kernel_rfl) (by rfl) ?y45 (fun _ _ _ h => h) (by assumption) ?n45
            case y45 =>
              intro w hSw
              try dsimp only at hSw
              go_simp
              try with_reducible rfl
            try simp only [Act.put, List.setIfInBounds_toArray, List.set_cons_zero, List.set_cons_succ]
            refine take_w 8 (some 100) ?v46 rfl rfl (by kernel_rfl) (by kernel_rfl) (by kernel_rfl) (by rfl) ?y46 (fun _ _ _ h => h) (by assumption) ?n46
            case y46 =>
              intro w hSw
              try dsimp only at hSw
              go_simp
              try with_reducible rfl
            try simp only [Act.put, List.setIfInBounds_toArray, List.set_cons_zero, List.set_cons_succ]
            refine take_w 9 (some 101) ?v47 rfl rfl (by kernel_rfl) (by kernel_rfl) (by kernel_rfl) (by rfl) ?y47 (fun _ _ _ h => h) (by assumption) ?n47
            case y47 =>
              intro w hSw
              try dsimp only at hSw
              go_simp
              try with_reducible rfl
            try simp only [Act.put, List.setIfInBounds_toArray, List.set_cons_zero, List.set_cons_succ]
            refine take_w 10 (some 102) ?v48 rfl rfl (by kernel_rfl) (by kernel_rfl) (by kernel_rfl) (by rfl) ?y48 (fun _ _ _ h => h) (by assumption) ?n48
            case y48 =>
              intro w hSw
              try dsimp only at hSw
              go_simp
              try with_reducible rfl
            try simp only [Act.put, List.setIfInBounds_toArray, List.set_cons_zero, List.set_cons_succ]
            refine take_w 11 (some 103) ?v49 rfl rfl (by kernel_rfl) (by kernel_rfl) (by kernel_rfl) (by rfl) ?y49 (fun _ _ _ h => h) (by assumption) ?n49
            case y49 =>
              intro w hSw
              try dsimp only at hSw
              go_simp
              try with_reducible rfl
            try simp only [Act.put, List.setIfInBounds_toArray, List.set_cons_zero, List.set_cons_succ]
            refine take_w 12 (some 104) ?v50 rfl rfl (by kernel_rfl) (by kernel_rfl) (by kernel_rfl) (by rfl) ?y50 (fun _ _ _ h => h) (by assumption) ?n50
            case y50 =>
              intro w hSw
              try dsimp only at hSw
              go_simp
              try with_reducible rfl
            try simp only [Act.put, List.setIfInBounds_toArray, List.set_cons_zero, List.set_cons_succ]
            refine take_w 13 (some 105) ?v51 rfl rfl (by kernel_rfl) (by kernel_rfl) (by kernel_rfl) (by rfl) ?y51 (fun _ _ _ h => h) (by assumption) ?n51
            case y51 =>
              intro w hSw
              try dsimp only at hSw
              go_simp
              try with_reducible rfl
            try simp only [Act.put, List.setIfInBounds_toArray, List.set_cons_zero, List.set_cons_succ]
            refine take_w 14 (some 106) ?v52 rfl rfl (by kernel_rfl) (by kernel_rfl) (by kernel_rfl) (by rfl) ?y52 (fun _ _ _ h => h) (by assumption) ?n52
            case y52 =>
              intro w hSw
              try dsimp only at hSw
              go_simp
              try with_reducible rfl
            try simp only [Act.put, List.setIfInBounds_toArray, List.set_cons_zero, List.set_cons_succ]
            refine take_w 15 (some 107) ?v53 rfl rfl (by kernel_rfl) (by kernel_rfl) (by kernel_rfl) (by rfl) ?y53 (fun _ _ _ h => h) (by assumption) ?n53
            case y53 =>
              intro w hSw
              try dsimp only at hSw
              go_simp
              try with_reducible rfl
            try simp only [Act.put, List.setIfInBounds_toArray, List.set_cons_zero, List.set_cons_succ]
            refine take_w 16 (some 108) ?v54 rfl rfl (by kernel_rfl) (by kernel_rfl) (by kernel_rfl) (by rfl) ?y54 (fun _ _ _ h => h) (by assumption) ?n54
            case y54 =>
              intro w hSw
              try dsimp only at hSw
              go_simp
              try with_reducible rfl
            try simp only [Act.put, List.setIfInBounds_toArray, List.set_cons_zero, List.set_cons_succ]
            refine take_w 17 (some 109) ?v55 rfl rfl (by kernel_rfl) (by kernel_rfl) (by kernel_rfl) (by rfl) ?y55 (fun _ _ _ h => h) (by assumption) ?n55
            case y55 =>
              intro w hSw
              try dsimp only at hSw
              go_simp
              try with_reducible rfl
            try simp only [Act.put, List.setIfInBounds_toArray, List.set_cons_zero, List.set_cons_succ]
            refine take_w 18 (some 110) ?v56 rfl rfl (by kernel_rfl) (by kernel_rfl) (by kernel_rfl) (by rfl) ?y56 (fun _ _ _ h => h) (by assumption) ?n56
            case y56 =>
              intro w hSw
              try dsimp only at hSw
              go_simp
              try with_reducible rfl
            try simp only [Act.put, List.setIfInBounds_toArray, List.set_cons_zero, List.set_cons_succ]
            refine take_w 19 (some 111) ?v57 rfl rfl (by kernel_rfl) (by kernel_rfl) (by kernel_rfl) (by rfl) ?y57 (fun _ _ _ h => h) (by assumption) ?n57
            case y57 =>
              intro w hSw
              try dsimp only at hSw
              go_simp
              try with_reducible rfl
            try simp only [Act.put, List.setIfInBounds_toArray, List.set_cons_zero, List.set_cons_succ]
            refine take_w 20 (some 112) ?v58 rfl rfl (by kernel_rfl) (by kernel_rfl) (by kernel_rfl) (by rfl) ?y58 (fun _ _ _ h => h) (by assumption) ?n58
            case y58 =>
              intro w hSw
              try dsimp only at hSw
              go_simp
              try with_reducible rfl
            try simp only [Act.put, List.setIfInBounds_toArray, List.set_cons_zero, List.set_cons_succ]
            refine take_w 21 (some 113) ?v59 rfl rfl (by kernel_rfl) (by kernel_rfl) (by kernel_rfl) (by rfl) ?y59 (fun _ _ _ h => h) (by assumption) ?n59
            case y59 =>
              intro w hSw
              try dsimp only at hSw
              go_simp
              try with_reducible rfl
            try simp only [Act.put, List.setIfInBounds_toArray, List.set_cons_zero, List.set_cons_succ]
            refine take_u 22 (some 114) rfl rfl (by kernel_rfl) (by kernel_rfl) (by kernel_rfl) (by rfl) (fun _ _ _ h => h) (by assumption) ?n60
            try simp only [Act.put, List.setIfInBounds_toArray, List.set_cons_zero, List.set_cons_succ]
            refine take_u 23 (some 115) rfl rfl (by kernel_rfl) (by kernel_rfl) (by kernel_rfl) (by rfl) (fun _ _ _ h => h) (by assumption) ?n61
            try simp only [Act.put, List.setIfInBounds_toArray, List.set_cons_zero, List.set_cons_succ]
            refine take_u 24 (some 116) rfl rfl (by kernel_rfl) (by kernel_rfl) (by kernel_rfl) (by rfl) (fun _ _ _ h => h) (by assumption) ?n62
            try simp only [Act.put, List.setIfInBounds_toArray, List.set_cons_zero, List.set_cons_succ]
            refine take_u 25 (some 117) rfl rfl (by kernel_rfl) (by kernel_rfl) (by kernel_rfl) (by rfl) (fun _ _ _ h => h) (by assumption) ?n63
            try simp only [Act.put, List.setIfInBounds_toArray, List.set_cons_zero, List.set_cons_succ]
            refine take_u 26 (some 118) rfl rfl (by kernel_rfl) (by kernel_rfl) (by kernel_rfl) (by rfl) (fun _ _ _ h => h) (by assumption) ?n64
            try simp only [Act.put, List.setIfInBounds_toArray, List.set_cons_zero, List.set_cons_succ]
            refine take_u 27 (some 119) rfl rfl (by kernel_rfl) (by kernel_rfl) (by kernel_rfl) (by rfl) (fun _ _ _ h => h) (by assumption) ?n65
            try simp only [Act.put, List.setIfInBounds_toArray, List.set_cons_zero, List.set_cons_succ]
            refine take_u 28 (some 120) rfl rfl (by kernel_rfl) (by kernel_rfl) (by kernel_rfl) (by rfl) (fun _ _ _ h => h) (by assumption) ?n66
            try simp only [Act.put, List.setIfInBounds_toArray, List.set_cons_zero, List.set_cons_succ]
            refine take_w 29 (some 121) ?v67 rfl rfl (by kernel_rfl) (by kernel_rfl) (by kernel_rfl) (by rfl) ?y67 (fun _ _ _ h => h) (by assumption) ?n67
            case y67 =>
              intro w hSw
              try dsimp only at hSw
              go_simp
              try with_reducible rfl
            try simp only [Act.put, List.setIfInBounds_toArray, List.set_cons_zero, List.set_cons_succ]
            refine take_w 30 (some 122) ?v68 rfl rfl (by kernel_rfl) (by kernel_rfl) (by kernel_rfl) (by rfl) ?y68 (fun _ _ _ h => h) (by assumption) ?n68
            case y68 =>
              intro w hSw
              try dsimp only at hSw
              go_simp
              try with_reducible rfl
            try simp only [Act.put, List.setIfInBounds_toArray, List.set_cons_zero, List.set_cons_succ]
            refine take_w 31 (some 123) ?v69 rfl rfl (by kernel_rfl) (by kernel_rfl) (by kernel_rfl) (by rfl) ?y69 (fun _ _ _ h => h) (by assumption) ?n69
            case y69 =>
              intro w hSw
              try dsimp only at hSw
              go_simp
              try with_reducible rfl
            try simp only [Act.put, List.setIfInBounds_toArray, List.set_cons_zero, List.set_cons_succ]
            refine take_w 32 (some 124) ?v70 rfl rfl (by kernel_rfl) (by kernel_rfl) (by kernel_rfl) (by rfl) ?y70 (fun _ _ _ h => h) (by assumption) ?n70
            case y70 =>
              intro w hSw
              try dsimp only at hSw
              go_simp
              try with_reducible rfl
            try simp only [Act.put, List.setIfInBounds_toArray, List.set_cons_zero, List.set_cons_succ]
            refine take_w 33 (some 125) ?v71 rfl rfl (by kernel_rfl) (by kernel_rfl) (by kernel_rfl) (by rfl) ?y71 (fun _ _ _ h => h) (by assumption) ?n71
            case y71 =>
              intro w hSw
              try dsimp only at hSw
              go_simp
              try with_reducible rfl
            try simp only [Act.put, List.setIfInBounds_toArray, List.set_cons_zero, List.set_cons_succ]
            refine take_w 34 (some 126) ?v72 rfl rfl (by kernel_rfl) (by kernel_rfl) (by kernel_rfl) (by rfl) ?y72 (fun _ _ _ h => h) (by assumption) ?n72
            case y72 =>
              intro w hSw
              try dsimp only at hSw
              go_simp
              try with_reducible rfl
            try simp only [Act.put, List.setIfInBounds_toArray, List.set_cons_zero, List.set_cons_succ]
            refine take_w 35 (some 127) ?v73 rfl rfl (by kernel_rfl) (by kernel_rfl) (by kernel_rfl) (by rfl) ?y73 (fun _ _ _ h => h) (by assumption) ?n73
            case y73 =>
              intro w hSw
              try dsimp only at hSw
              go_simp
              try with_reducible rfl
            try simp only [Act.put, List.setIfInBounds_toArray, List.set_cons_zero, List.set_cons_succ]
            refine take_w 36 (some 128) ?v74 rfl rfl (by kernel_rfl) (by kernel_rfl) (by kernel_rfl) (by rfl) ?y74 (fun _ _ _ h => h) (by assumption) ?n74
            case y74 =>
              intro w hSw
              try dsimp only at hSw
              go_simp
              try with_reducible rfl
            try simp only [Act.put, List.setIfInBounds_toArray, List.set_cons_zero, List.set_cons_succ]
            refine take_w 37 (some 129) ?v75 rfl rfl (by kernel_rfl) (by kernel_rfl) (by kernel_rfl) (by rfl) ?y75 (fun _ _ _ h => h) (by assumption) ?n75
            case y75 =>
              intro w hSw
              try dsimp only at hSw
              go_simp
              try with_reducible rfl
            try simp only [Act.put, List.setIfInBounds_toArray, List.set_cons_zero, List.set_cons_succ]
            refine take_w 38 (some 130) ?v76 rfl rfl (by kernel_rfl) (by kernel_rfl) (by kernel_rfl) (by rfl) ?y76 (fun _ _ _ h => h) (by assumption) ?n76
            case y76 =>
              intro w hSw
              try dsimp only at hSw
              go_simp
              try with_reducible rfl
            try simp only [Act.put, List.setIfInBounds_toArray, List.set_cons_zero, List.set_cons_succ]
            refine take_w 39 (some 131) ?v77 rfl rfl (by kernel_rfl) (by kernel_rfl) (by kernel_rfl) (by rfl) ?y77 (fun _ _ _ h => h) (by assumption) ?n77
            case y77 =>
              intro w hSw
              try dsimp only at hSw
              go_simp
              try with_reducible rfl
            try simp only [Act.put, List.setIfInBounds_toArray, List.set_cons_zero, List.set_cons_succ]
            refine take_w 40 (some 132) ?v78 rfl rfl (by kernel_rfl) (by kernel_rfl) (by kernel_rfl) (by rfl) ?y78 (fun _ _ _ h => h) (by assumption) ?n78
            case y78 =>
              intro w hSw
              try dsimp only at hSw
              go_simp
              try with_reducible rfl
            try simp only [Act.put, List.setIfInBounds_toArray, List.set_cons_zero, List.set_cons_succ]
            refine take_w 41 (some 133) ?v79 rfl rfl (by kernel_rfl) (by kernel_rfl) (by kernel_rfl) (by rfl) ?y79 (fun _ _ _ h => h) (by assumption) ?n79
            case y79 =>
              intro w hSw
              try dsimp only at hSw
              go_simp
              try with_reducible rfl
            try simp only [Act.put, List.setIfInBounds_toArray, List.set_cons_zero, List.set_cons_succ]
            refine take_w 42 (some 134) ?v80 rfl rfl (by kernel_rfl) (by kernel_rfl) (by kernel_rfl) (by rfl) ?y80 (fun _ _ _ h => h) (by assumption) ?n80
            case y80 =>
              intro w hSw
              try dsimp only at hSw
              go_simp
              try with_reducible rfl
            try simp only [Act.put, List.setIfInBounds_toArray, List.set_cons_zero, List.set_cons_succ]
            refine take_w 43 (some 135) ?v81 rfl rfl (by kernel_rfl) (by kernel_rfl) (by kernel_rfl) (by rfl) ?y81 (fun _ _ _ h => h) (by assumption) ?n81
            case y81 =>
              intro w hSw
              try dsimp only at hSw
              go_simp
              try with_reducible rfl
            try simp only [Act.put, List.setIfInBounds_toArray, List.set_cons_zero, List.set_cons_succ]
            refine take_w 44 (some 136) ?v82 rfl rfl (by kernel_rfl) (by kernel_rfl) (by kernel_rfl) (by rfl) ?y82 (fun _ _ _ h => h) (by assumption) ?n82
            case y82 =>
              intro w hSw
              try dsimp only at hSw
              go_simp
              try with_reducible rfl
            try simp only [Act.put, List.setIfInBounds_toArray, List.set_cons_zero, List.set_cons_succ]
            refine take_w 45 (some 137) ?v83 rfl rfl (by kernel_rfl) (by kernel_rfl) (by kernel_rfl) (by rfl) ?y83 (fun _ _ _ h => h) (by assumption) ?n83
            case y83 =>
              intro w hSw
              try dsimp only at hSw
              go_simp
              try with_reducible rfl
            try simp only [Act.put, List.setIfInBounds_toArray, List.set_cons_zero, List.set_cons_succ]
            refine take_w 46 (some 138) ?v84 rfl rfl (by kernel_rfl) (by kernel_rfl) (by kernel_rfl) (by rfl) ?y84 (fun _ _ _ h => h) (by assumption) ?n84
            case y84 =>
              intro w hSw
              try dsimp only at hSw
              go_simp
              try with_reducible rfl
            try simp only [Act.put, List.setIfInBounds_toArray, List.set_cons_zero, List.set_cons_succ]
            refine take_w 47 (some 139) ?v85 rfl rfl (by kernel_rfl) (by kernel_rfl) (by kernel_rfl) (by rfl) ?y85 (fun _ _ _ h => h) (by assumption) ?n85
            case y85 =>
              intro w hSw
              try dsimp only at hSw
              go_simp
              try with_reducible rfl
            try simp only [Act.put, List.setIfInBounds_toArray, List.set_cons_zero, List.set_cons_succ]
            refine take_w 48 (some 140) ?v86 rfl rfl (by kernel_rfl) (by kernel_rfl) (by kernel_rfl) (by rfl) ?y86 (fun _ _ _ h => h) (by assumption) ?n86
            case y86 =>
              intro w hSw
              try dsimp only at hSw
              go_simp
              try with_reducible rfl
            try simp only [Act.put, List.setIfInBounds_toArray, List.set_cons_zero, List.set_cons_succ]
            refine take_w 49 (some 141) ?v87 rfl rfl (by kernel_rfl) (by kernel_rfl) (by kernel_rfl) (by rfl) ?y87 (fun _ _ _ h => h) (by assumption) ?n87
            case y87 =>
              intro w hSw
              try dsimp only at hSw
              go_simp
              try with_reducible rfl
            try simp only [Act.put, List.setIfInBounds_toArray, List.set_cons_zero, List.set_cons_succ]
            refine take_w 50 (some 142) ?v88 rfl rfl (by kernel_rfl) (by kernel_rfl) (by kernel_rfl) (by rfl) ?y88 (fun _ _ _ h => h) (by assumption) ?n88
            case y88 =>
              intro w hSw
              try dsimp only at hSw
              go_simp
              try with_reducible rfl
            try simp only [Act.put, List.setIfInBounds_toArray, List.set_cons_zero, List.set_cons_succ]
            refine take_w 51 (some 143) ?v89 rfl rfl (by kernel_rfl) (by kernel_rfl) (by kernel_rfl) (by rfl) ?y89 (fun _ _ _ h => h) (by assumption) ?n89
            case y89 =>
              intro w hSw
              try dsimp only at hSw
              go_simp
              try with_reducible rfl
            try simp only [Act.put, List.setIfInBounds_toArray, List.set_cons_zero, List.set_cons_succ]
            refine take_w 52 (some 144) ?v90 rfl rfl (by kernel_rfl) (by kernel_rfl) (by kernel_rfl) (by rfl) ?y90 (fun _ _ _ h => h) (by assumption) ?n90
            case y90 =>
              intro w hSw
              try dsimp only at hSw
              go_simp
              try with_reducible rfl
            try simp only [Act.put, List.setIfInBounds_toArray, List.set_cons_zero, List.set_cons_succ]
            refine take_w 53 (some 145) ?v91 rfl rfl (by kernel_rfl) (by kernel_rfl) (by kernel_rfl) (by rfl) ?y91 (fun _ _ _ h => h) (by assumption) ?n91
            case y91 =>
              intro w hSw
              try dsimp only at hSw
              go_simp
              try with_reducible rfl
            try simp only [Act.put, List.setIfInBounds_toArray, List.set_cons_zero, List.set_cons_succ]
            refine take_w 54 (some 146) ?v92 rfl rfl (by kernel_rfl) (by kernel_rfl) (by kernel_rfl) (by rfl) ?y92 (fun _ _ _ h => h) (by assumption) ?n92
            case y92 =>
              intro w hSw
              try dsimp only at hSw
              go_simp
              try with_reducible rfl
            try simp only [Act.put, List.setIfInBounds_toArray, List.set_cons_zero, List.set_cons_succ]
            refine take_u 55 (some 147) rfl rfl (by kernel_rfl) (by kernel_rfl) (by kernel_rfl) (by rfl) (fun _ _ _ h => h) (by assumption) ?n93
            try simp only [Act.put, List.setIfInBounds_toArray, List.set_cons_zero, List.set_cons_succ]
            refine take_u 56 (some 148) rfl rfl (by kernel_rfl) (by kernel_rfl) (by kernel_rfl) (by rfl) (fun _ _ _ h => h) (by assumption) ?n94
            try simp only [Act.put, List.setIfInBounds_toArray, List.set_cons_zero, List.set_cons_succ]
            refine take_u 57 (some 149) rfl rfl (by kernel_rfl) (by kernel_rfl) (by kernel_rfl) (by rfl) (fun _ _ _ h => h) (by assumption) ?n95
            try simp only [Act.put, List.setIfInBounds_toArray, List.set_cons_zero, List.set_cons_succ]
            refine take_u 58 (some 150) rfl rfl (by kernel_rfl) (by kernel_rfl) (by kernel_rfl) (by rfl) (fun _ _ _ h => h) (by assumption) ?n96
            try simp only [Act.put, List.setIfInBounds_toArray, List.set_cons_zero, List.set_cons_succ]
            refine take_u 59 (some 151) rfl rfl (by kernel_rfl) (by kernel_rfl) (by kernel_rfl) (by rfl) (fun _ _ _ h => h) (by assumption) ?n97
            try simp only [Act.put, List.setIfInBounds_toArray, List.set_cons_zero, List.set_cons_succ]
            refine take_u 60 (some 152) rfl rfl (by kernel_rfl) (by kernel_rfl) (by kernel_rfl) (by rfl) (fun _ _ _ h => h) (by assumption) ?n98
            try simp only [Act.put, List.setIfInBounds_toArray, List.set_cons_zero, List.set_cons_succ]
            refine take_w 61 (some 153) ?v99 rfl rfl (by kernel_rfl) (by kernel_rfl) (by kernel_rfl) (by rfl) ?y99 (fun _ _ _ h => h) (by assumption) ?n99
            case y99 =>
              intro w hSw
              try dsimp only at hSw
              go_simp
              try with_reducible rfl
            try simp only [Act.put, List.setIfInBounds_toArray, List.set_cons_zero, List.set_cons_succ]
            refine take_w 62 (some 154) ?v100 rfl rfl (by kernel_rfl) (by kernel_rfl) (by kernel_rfl) (by rfl) ?y100 (fun _ _ _ h => h) (by assumption) ?n100
            case y100 =>
              intro w hSw
              try dsimp only at hSw
              go_simp
              try with_reducible rfl
            try simp only [Act.put, List.setIfInBounds_toArray, List.set_cons_zero, List.set_cons_succ]
            refine take_w 63 (some 155) ?v101 rfl rfl (by kernel_rfl) (by kernel_rfl) (by kernel_rfl) (by rfl) ?y101 (fun _ _ _ h => h) (by assumption) ?n101
            case y101 =>
              intro w hSw
              try dsimp only at hSw
              go_simp
              try with_reducible rfl
            try simp only [Act.put, List.setIfInBounds_toArray, List.set_cons_zero, List.set_cons_succ]
            refine take_w 64 (some 156) ?v102 rfl rfl (by kernel_rfl) (by kernel_rfl) (by kernel_rfl) (by rfl) ?y102 (fun _ _ _ h => h) (by assumption) ?n102
            case y102 =>
              intro w hSw
              try dsimp only at hSw
              go_simp
              try with_reducible rfl
            try simp only [Act.put, List.setIfInBounds_toArray, List.set_cons_zero, List.set_cons_succ]
            refine take_w 65 (some 157) ?v103 rfl rfl (by kernel_rfl) (by kernel_rfl) (by kernel_rfl) (by rfl) ?y103 (fun _ _ _ h => h) (by assumption) ?n103
            case y103 =>
              intro w hSw
              try dsimp only at hSw
              go_simp
              try with_reducible rfl
            try simp only [Act.put, List.setIfInBounds_toArray, List.set_cons_zero, List.set_cons_succ]
            refine take_w 66 (some 158) ?v104 rfl rfl (by kernel_rfl) (by kernel_rfl) (by kernel_rfl) (by rfl) ?y104 (fun _ _ _ h => h) (by assumption) ?n104
            case y104 =>
              intro w hSw
              try dsimp only at hSw
              go_simp
              try with_reducible rfl
            try simp only [Act.put, List.setIfInBounds_toArray, List.set_cons_zero, List.set_cons_succ]
            refine take_w 67 (some 8) ?v105 rfl rfl (by kernel_rfl) (by kernel_rfl) (by kernel_rfl) (by rfl) ?y105 (fun _ _ _ h => h) (by assumption) ?n105
            case y105 =>
              intro w hSw
              try dsimp only at hSw
              go_simp
              try with_reducible rfl
            try simp only [Act.put, List.setIfInBounds_toArray, List.set_cons_zero, List.set_cons_succ]
            refine wpAnyH_done (by kernel_rfl) ?_ _
            go_wp2_with fail
            go_ret
            exact ⟨by simp, BA.out.trans (bN.mono BA.out.size)⟩
          · have h4d : decide (k < 2) = false := decide_eq_false h4
            have h4e : decide (2 ≤ k) = true := decide_eq_true (by omega)
            have h4i : decide ((k : Int) < 2) = false := decide_eq_false (by omega)
            have h4j : decide ((2 : Int) ≤ (k : Int)) = true := decide_eq_true (by omega)
            refine wp_region_held_drew (S := fun w' => Below WA.heap.size WA w' ∧ w'.cell? ⟨C, 1, none⟩ = some (.string c1) ∧ w'.cell? ⟨C, 2, none⟩ = some (.string c2) ∧ w'.cell? ⟨D, 1, none⟩ = some (.string e1) ∧ w'.cell? ⟨D, 2, none⟩ = some (.string e2) ∧ w'.cell? ⟨L, 0, none⟩ = some (.string F0) ∧ w'.cell? ⟨L, 1, none⟩ = some (.string F1)) (by kernel_rfl) ?_ (fun hHeld => ?_)
            · exact ⟨bN, HC01.out _ bN, HC02.out _ bN, HD01.out _ bN, HD02.out _ bN, HF00.out _ bN, HF01.out _ bN⟩
            refine wpAnyH_ready (rs := [0]) (by kernel_rfl) (by simp) ?_
            refine AllReadyH.cons (i := 0) rfl (fun K hK => ?_) AllReadyH.nil
            go_simp
            refine (HAW1.out _ bN).mono ?_
            rintro e wN ⟨rfl, b11⟩
            have bN := bN.trans (b11.mono bN.size)
            clear b11
            go_wp2_with fail
            go_wp2_with fail
            refine hK.out _ _ ?_ (fun hHeld => ?_)
            · exact ⟨bN, HC01.out _ bN, HC02.out _ bN, HD01.out _ bN, HD02.out _ bN, HF00.out _ bN, HF01.out _ bN⟩
            clear hK K
            try simp only [Act.put, List.setIfInBounds_toArray, List.set_cons_zero, List.set_cons_succ]
            refine take_w 1 (some 93) ?v107 rfl rfl (by kernel_rfl) (by kernel_rfl) (by kernel_rfl) (by rfl) ?y107 (fun _ _ _ h => h) (by assumption) ?n107
            case y107 =>
              intro w hSw
              try dsimp only at hSw
              go_simp
              try with_reducible rfl
            try simp only [Act.put, List.setIfInBounds_toArray, List.set_cons_zero, List.set_cons_succ]
            refine take_w 2 (some 94) ?v108 rfl rfl (by kernel_rfl) (by kernel_rfl) (by kernel_rfl) (by rfl) ?y108 (fun _ _ _ h => h) (by assumption) ?n108
            case y108 =>
              intro w hSw
              try dsimp only at hSw
              go_simp
              try with_reducible rfl
            try simp only [Act.put, List.setIfInBounds_toArray, List.set_cons_zero, List.set_cons_succ]
            refine take_w 3 (some 95) ?v109 rfl rfl (by kernel_rfl) (by kernel_rfl) (by kernel_rfl) (by rfl) ?y109 (fun _ _ _ h => h) (by assumption) ?n109
            case y109 =>
              intro w hSw
              try dsimp only at hSw
              go_simp
              try with_reducible rfl
            try simp only [Act.put, List.setIfInBounds_toArray, List.set_cons_zero, List.set_cons_succ]
            refine take_w 4 (some 96) ?v110 rfl rfl (by kernel_rfl) (by kernel_rfl) (by kernel_rfl) (by rfl) ?y110 (fun _ _ _ h => h) (by assumption) ?n110
            case y110 =>
              intro w hSw
              try dsimp only at hSw
              go_simp
              try with_reducible rfl
            try simp only [Act.put, List.setIfInBounds_toArray, List.set_cons_zero, List.set_cons_succ]
            refine take_w 5 (some 97) ?v111 rfl rfl (by kernel_rfl) (by kernel_rfl) (by kernel_rfl) (by rfl) ?y111 (fun _ _ _ h => h) (by assumption) ?n111
            case y111 =>
              intro w hSw
              try dsimp only at hSw
              go_simp
              try with_reducible rfl
            try simp only [Act.put, List.setIfInBounds_toArray, List.set_cons_zero, List.set_cons_succ]
            refine take_w 6 (some 98) ?v112 rfl rfl (by kernel_rfl) (by kernel_rfl) (by kernel_rfl) (by rfl) ?y112 (fun _ _ _ h => h) (by assumption) ?n112
            case y112 =>
              intro w hSw
              try dsimp only at hSw
              go_simp
              try with_reducible rfl
            try simp only [Act.put, List.setIfInBounds_toArray, List.set_cons_zero, List.set_cons_succ]
            refine take_w 7 (some 99) ?v113 rfl rfl (by kernel_rfl) (by kernel_rfl) (by kernel_rfl) (by rfl) ?y113 (fun _ _ _ h => h) (by assumption) ?n113
            case y113 =>
              intro w hSw
              try dsimp only at hSw
              go_simp
              try with_reducible rfl
            try simp only [Act.put, List.setIfInBounds_toArray, List.set_cons_zero, List.set_cons_succ]
            refine take_w 8 (some 100) ?v114 rfl rfl (by kernel_rfl) (by kernel_rfl) (by kernel_rfl) (by rfl) ?y114 (fun _ _ _ h => h) (by assumption) ?n114
            case y114 =>
              intro w hSw
              try dsimp only at hSw
              go_simp
              try with_reducible rfl
            try simp only [Act.put, List.setIfInBounds_toArray, List.set_cons_zero, List.set_cons_succ]
            refine take_w 9 (some 101) ?v115 rfl rfl (by kernel_rfl) (by kernel_rfl) (by kernel_rfl) (by rfl) ?y115 (fun _ _ _ h => h) (by assumption) ?n115
            case y115 =>
              intro w hSw
              try dsimp only at hSw
              go_simp
              try with_reducible rfl
            try simp only [Act.put, List.setIfInBounds_toArray, List.set_cons_zero, List.set_cons_succ]
            refine take_w 10 (some 102) ?v116 rfl rfl (by kernel_rfl) (by kernel_rfl) (by kernel_rfl) (by rfl) ?y116 (fun _ _ _ h => h) (by assumption) ?n116
            case y116 =>
              intro w hSw
              try dsimp only at hSw
              go_simp
              try with_reducible rfl
            try simp only [Act.put, List.setIfInBounds_toArray, List.set_cons_zero, List.set_cons_succ]
            refine take_w 11 (some 103) ?v117 rfl rfl (by kernel_rfl) (by kernel_rfl) (by kernel_rfl) (by rfl) ?y117 (fun _ _ _ h => h) (by assumption) ?n117
            case y117 =>
              intro w hSw
              try dsimp only at hSw
              go_simp
              try with_reducible rfl
            try simp only [Act.put, List.setIfInBounds_toArray, List.set_cons_zero, List.set_cons_succ]
            refine take_w 12 (some 104) ?v118 rfl rfl (by kernel_rfl) (by kernel_rfl) (by kernel_rfl) (by rfl) ?y118 (fun _ _ _ h => h) (by assumption) ?n118
            case y118 =>
              intro w hSw
              try dsimp only at hSw
              go_simp
              try with_reducible rfl
            try simp only [Act.put, List.setIfInBounds_toArray, List.set_cons_zero, List.set_cons_succ]
            refine take_w 13 (some 105) ?v119 rfl rfl (by kernel_rfl) (by kernel_rfl) (by kernel_rfl) (by rfl) ?y119 (fun _ _ _ h => h) (by assumption) ?n119
            case y119 =>
              intro w hSw
              try dsimp only at hSw
              go_simp
              try with_reducible rfl
            try simp only [Act.put, List.setIfInBounds_toArray, List.set_cons_zero, List.set_cons_succ]
            refine take_w 14 (some 106) ?v120 rfl rfl (by kernel_rfl) (by kernel_rfl) (by kernel_rfl) (by rfl) ?y120 (fun _ _ _ h => h) (by assumption) ?n120
            case y120 =>
              intro w hSw
              try dsimp only at hSw
              go_simp
              try with_reducible rfl
            try simp only [Act.put, List.setIfInBounds_toArray, List.set_cons_zero, List.set_cons_succ]
            refine take_w 15 (some 107) ?v121 rfl rfl (by kernel_rfl) (by kernel_rfl) (by kernel_rfl) (by rfl) ?y121 (fun _ _ _ h => h) (by assumption) ?n121
            case y121 =>
              intro w hSw
              try dsimp only at hSw
              go_simp
              try with_reducible rfl
            try simp only [Act.put, List.setIfInBounds_toArray, List.set_cons_zero, List.set_cons_succ]
            refine take_w 16 (some 108) ?v122 rfl rfl (by kernel_rfl) (by kernel_rfl) (by kernel_rfl) (by rfl) ?y122 (fun _ _ _ h => h) (by assumption) ?n122
            case y122 =>
              intro w hSw
              try dsimp only at hSw
              go_simp
              try with_reducible rfl
            try simp only [Act.put, List.setIfInBounds_toArray, List.set_cons_zero, List.set_cons_succ]
            refine take_w 17 (some 109) ?v123 rfl rfl (by kernel_rfl) (by kernel_rfl) (by kernel_rfl) (by rfl) ?y123 (fun _ _ _ h => h) (by assumption) ?n123
            case y123 =>
              intro w hSw
              try dsimp only at hSw
              go_simp
              try with_reducible rfl
            try simp only [Act.put, List.setIfInBounds_toArray, List.set_cons_zero, List.set_cons_succ]
            refine take_w 18 (some 110) ?v124 rfl rfl (by kernel_rfl) (by kernel_rfl) (by kernel_rfl) (by rfl) ?y124 (fun _ _ _ h => h) (by assumption) ?n124
            case y124 =>
              intro w hSw
              try dsimp only at hSw
              go_simp
              try with_reducible rfl
            try simp only [Act.put, List.setIfInBounds_toArray, List.set_cons_zero, List.set_cons_succ]
            refine take_w 19 (some 111) ?v125 rfl rfl (by kernel_rfl) (by kernel_rfl) (by kernel_rfl) (by rfl) ?y125 (fun _ _ _ h => h) (by assumption) ?n125
            case y125 =>
              intro w hSw
              try dsimp only at hSw
              go_simp
              try with_reducible rfl
            try simp only [Act.put, List.setIfInBounds_toArray, List.set_cons_zero, List.set_cons_succ]
            refine take_w 20 (some 112) ?v126 rfl rfl (by kernel_rfl) (by kernel_rfl) (by kernel_rfl) (by rfl) ?y126 (fun _ _ _ h => h) (by assumption) ?n126
            case y126 =>
              intro w hSw
              try dsimp only at hSw
              go_simp
              try with_reducible rfl
            try simp only [Act.put, List.setIfInBounds_toArray, List.set_cons_zero, List.set_cons_succ]
            refine take_w 21 (some 113) ?v127 rfl rfl (by kernel_rfl) (by kernel_rfl) (by kernel_rfl) (by rfl) ?y127 (fun _ _ _ h => h) (by assumption) ?n127
            case y127 =>
              intro w hSw
              try dsimp only at hSw
              go_simp
              try with_reducible rfl
            try simp only [Act.put, List.setIfInBounds_toArray, List.set_cons_zero, List.set_cons_succ]
            refine take_u 22 (some 114) rfl rfl (by kernel_rfl) (by kernel_rfl) (by kernel_rfl) (by rfl) (fun _ _ _ h => h) (by assumption) ?n128
            try simp only [Act.put, List.setIfInBounds_toArray, List.set_cons_zero, List.set_cons_succ]
            refine take_u 23 (some 115) rfl rfl (by kernel_rfl) (by kernel_rfl) (by kernel_rfl) (by rfl) (fun _ _ _ h => h) (by assumption) ?n129
            try simp only [Act.put, List.setIfInBounds_toArray, List.set_cons_zero, List.set_cons_succ]
            refine take_u 24 (some 116) rfl rfl (by kernel_rfl) (by kernel_rfl) (by kernel_rfl) (by rfl) (fun _ _ _ h => h) (by assumption) ?n130
            try simp only [Act.put, List.setIfInBounds_toArray, List.set_cons_zero, List.set_cons_succ]
            refine take_u 25 (some 117) rfl rfl (by kernel_rfl) (by kernel_rfl) (by kernel_rfl) (by rfl) (fun _ _ _ h => h) (by assumption) ?n131
            try simp only [Act.put, List.setIfInBounds_toArray, List.set_cons_zero, List.set_cons_succ]
            refine take_u 26 (some 118) rfl rfl (by kernel_rfl) (by kernel_rfl) (by kernel_rfl) (by rfl) (fun _ _ _ h => h) (by assumption) ?n132
            try simp only [Act.put, List.setIfInBounds_toArray, List.set_cons_zero, List.set_cons_succ]
            refine take_u 27 (some 119) rfl rfl (by kernel_rfl) (by kernel_rfl) (by kernel_rfl) (by rfl) (fun _ _ _ h => h) (by assumption) ?n133
            try simp only [Act.put, List.setIfInBounds_toArray, List.set_cons_zero, List.set_cons_succ]
            refine take_u 28 (some 120) rfl rfl (by kernel_rfl) (by kernel_rfl) (by kernel_rfl) (by rfl) (fun _ _ _ h => h) (by assumption) ?n134
            try simp only [Act.put, List.setIfInBounds_toArray, List.set_cons_zero, List.set_cons_succ]
            refine take_w 29 (some 121) ?v135 rfl rfl (by kernel_rfl) (by kernel_rfl) (by kernel_rfl) (by rfl) ?y135 (fun _ _ _ h => h) (by assumption) ?n135
            case y135 =>
              intro w hSw
              try dsimp only at hSw
              go_simp
              try with_reducible rfl
            try simp only [Act.put, List.setIfInBounds_toArray, List.set_cons_zero, List.set_cons_succ]
            refine take_w 30 (some 122) ?v136 rfl rfl (by kernel_rfl) (by kernel_rfl) (by kernel_rfl) (by rfl) ?y136 (fun _ _ _ h => h) (by assumption) ?n136
            case y136 =>
              intro w hSw
              try dsimp only at hSw
              go_simp
              try with_reducible rfl
            try simp only [Act.put, List.setIfInBounds_toArray, List.set_cons_zero, List.set_cons_succ]
            refine take_w 31 (some 123) ?v137 rfl rfl (by kernel_rfl) (by kernel_rfl) (by kernel_rfl) (by rfl) ?y137 (fun _ _ _ h => h) (by assumption) ?n137
            case y137 =>
              intro w hSw
              try dsimp only at hSw
              go_simp
              try with_reducible rfl
            try simp only [Act.put, List.setIfInBounds_toArray, List.set_cons_zero, List.set_cons_succ]
            refine take_w 32 (some 124) ?v138 rfl rfl (by kernel_rfl) (by kernel_rfl) (by kernel_rfl) (by rfl) ?y138 (fun _ _ _ h => h) (by assumption) ?n138
            case y138 =>
              intro w hSw
              try dsimp only at hSw
              go_simp
              try with_reducible rfl
            try simp only [Act.put, List.setIfInBounds_toArray, List.set_cons_zero, List.set_cons_succ]
            refine take_w 33 (some 125) ?v139 rfl rfl (by kernel_rfl) (by kernel_rfl) (by kernel_rfl) (by rfl) ?y139 (fun _ _ _ h => h) (by assumption) ?n139
            case y139 =>
              intro w hSw
              try dsimp only at hSw
              go_simp
              try with_reducible rfl
            try simp only [Act.put, List.setIfInBounds_toArray, List.set_cons_zero, List.set_cons_succ]
            refine take_w 34 (some 126) ?v140 rfl rfl (by kernel_rfl) (by kernel_rfl) (by kernel_rfl) (by rfl) ?y140 (fun _ _ _ h => h) (by assumption) ?n140
            case y140 =>
              intro w hSw
              try dsimp only at hSw
              go_simp
              try with_reducible rfl
            try simp only [Act.put, List.setIfInBounds_toArray, List.set_cons_zero, List.set_cons_succ]
            refine take_u 35 (some 127) rfl rfl (by kernel_rfl) (by kernel_rfl) (by kernel_rfl) (by rfl) (fun _ _ _ h => h) (by assumption) ?n141
            try simp only [Act.put, List.setIfInBounds_toArray, List.set_cons_zero, List.set_cons_succ]
            refine take_u 36 (some 128) rfl rfl (by kernel_rfl) (by kernel_rfl) (by kernel_rfl) (by rfl) (fun _ _ _ h => h) (by assumption) ?n142
            try simp only [Act.put, List.setIfInBounds_toArray, List.set_cons_zero, List.set_cons_succ]
            refine take_w 37 (some 129) ?v143 rfl rfl (by kernel_rfl) (by kernel_rfl) (by kernel_rfl) (by rfl) ?y143 (fun _ _ _ h => h) (by assumption) ?n143
            case y143 =>
              intro w hSw
              try dsimp only at hSw
              go_simp
              try with_reducible rfl
            try simp only [Act.put, List.setIfInBounds_toArray, List.set_cons_zero, List.set_cons_succ]
            refine take_w 38 (some 130) ?v144 rfl rfl (by kernel_rfl) (by kernel_rfl) (by kernel_rfl) (by rfl) ?y144 (fun _ _ _ h => h) (by assumption) ?n144
            case y144 =>
              intro w hSw
              try dsimp only at hSw
              go_simp
              try with_reducible rfl
            try simp only [Act.put, List.setIfInBounds_toArray, List.set_cons_zero, List.set_cons_succ]
            refine take_u 39 (some 131) rfl rfl (by kernel_rfl) (by kernel_rfl) (by kernel_rfl) (by rfl) (fun _ _ _ h => h) (by assumption) ?n145
            try simp only [Act.put, List.setIfInBounds_toArray, List.set_cons_zero, List.set_cons_succ]
            refine take_u 40 (some 132) rfl rfl (by kernel_rfl) (by kernel_rfl) (by kernel_rfl) (by rfl) (fun _ _ _ h => h) (by assumption) ?n146
            try simp only [Act.put, List.setIfInBounds_toArray, List.set_cons_zero, List.set_cons_succ]
            refine take_u 41 (some 133) rfl rfl (by kernel_rfl) (by kernel_rfl) (by kernel_rfl) (by rfl) (fun _ _ _ h => h) (by assumption) ?n147
            try simp only [Act.put, List.setIfInBounds_toArray, List.set_cons_zero, List.set_cons_succ]
            refine take_u 42 (some 134) rfl rfl (by kernel_rfl) (by kernel_rfl) (by kernel_rfl) (by rfl) (fun _ _ _ h => h) (by assumption) ?n148
            try simp only [Act.put, List.setIfInBounds_toArray, List.set_cons_zero, List.set_cons_succ]
            refine take_u 43 (some 135) rfl rfl (by kernel_rfl) (by kernel_rfl) (by kernel_rfl) (by rfl) (fun _ _ _ h => h) (by assumption) ?n149
            try simp only [Act.put, List.setIfInBounds_toArray, List.set_cons_zero, List.set_cons_succ]
            refine take_u 44 (some 136) rfl rfl (by kernel_rfl) (by kernel_rfl) (by kernel_rfl) (by rfl) (fun _ _ _ h => h) (by assumption) ?n150
            try simp only [Act.put, List.setIfInBounds_toArray, List.set_cons_zero, List.set_cons_succ]
            refine take_w 45 (some 137) ?v151 rfl rfl (by kernel_rfl) (by kernel_rfl) (by kernel_rfl) (by rfl) ?y151 (fun _ _ _ h => h) (by assumption) ?n151
            case y151 =>
              intro w hSw
              try dsimp only at hSw
              go_simp
              try with_reducible rfl
            try simp only [Act.put, List.setIfInBounds_toArray, List.set_cons_zero, List.set_cons_succ]
            refine take_w 46 (some 138) ?v152 rfl rfl (by kernel_rfl) (by kernel_rfl) (by kernel_rfl) (by rfl) ?y152 (fun _ _ _ h => h) (by assumption) ?n152
            case y152 =>
              intro w hSw
              try dsimp only at hSw
              go_simp
              try with_reducible rfl
            try simp only [Act.put, List.setIfInBounds_toArray, List.set_cons_zero, List.set_cons_succ]
            refine take_u 47 (some 139) rfl rfl (by kernel_rfl) (by kernel_rfl) (by kernel_rfl) (by rfl) (fun _ _ _ h => h) (by assumption) ?n153
            try simp only [Act.put, List.setIfInBounds_toArray, List.set_cons_zero, List.set_cons_succ]
            refine take_u 48 (some 140) rfl rfl (by kernel_rfl) (by kernel_rfl) (by kernel_rfl) (by rfl) (fun _ _ _ h => h) (by assumption) ?n154
            try simp only [Act.put, List.setIfInBounds_toArray, List.set_cons_zero, List.set_cons_succ]
            refine take_u 49 (some 141) rfl rfl (by kernel_rfl) (by kernel_rfl) (by kernel_rfl) (by rfl) (fun _ _ _ h => h) (by assumption) ?n155
            try simp only [Act.put, List.setIfInBounds_toArray, List.set_cons_zero, List.set_cons_succ]
            refine take_u 50 (some 142) rfl rfl (by kernel_rfl) (by kernel_rfl) (by kernel_rfl) (by rfl) (fun _ _ _ h => h) (by assumption) ?n156
            try simp only [Act.put, List.setIfInBounds_toArray, List.set_cons_zero, List.set_cons_succ]
            refine take_u 51 (some 143) rfl rfl (by kernel_rfl) (by kernel_rfl) (by kernel_rfl) (by rfl) (fun _ _ _ h => h) (by assumption) ?n157
            try simp only [Act.put, List.setIfInBounds_toArray, List.set_cons_zero, List.set_cons_succ]
            refine take_u 52 (some 144) rfl rfl (by kernel_rfl) (by kernel_rfl) (by kernel_rfl) (by rfl) (fun _ _ _ h => h) (by assumption) ?n158
            try simp only [Act.put, List.setIfInBounds_toArray, List.set_cons_zero, List.set_cons_succ]
            refine take_w 53 (some 145) ?v159 rfl rfl (by kernel_rfl) (by kernel_rfl) (by kernel_rfl) (by rfl) ?y159 (fun _ _ _ h => h) (by assumption) ?n159
            case y159 =>
              intro w hSw
              try dsimp only at hSw
              go_simp
              try with_reducible rfl
            try simp only [Act.put, List.setIfInBounds_toArray, List.set_cons_zero, List.set_cons_succ]
            refine take_w 54 (some 146) ?v160 rfl rfl (by kernel_rfl) (by kernel_rfl) (by kernel_rfl) (by rfl) ?y160 (fun _ _ _ h => h) (by assumption) ?n160
            case y160 =>
              intro w hSw
              try dsimp only at hSw
              go_simp
              try with_reducible rfl
            try simp only [Act.put, List.setIfInBounds_toArray, List.set_cons_zero, List.set_cons_succ]
            refine take_w 55 (some 147) ?v161 rfl rfl (by kernel_rfl) (by kernel_rfl) (by kernel_rfl) (by rfl) ?y161 (fun _ _ _ h => h) (by assumption) ?n161
            case y161 =>
              intro w hSw
              try dsimp only at hSw
              go_simp
              try with_reducible rfl
            try simp only [Act.put, List.setIfInBounds_toArray, List.set_cons_zero, List.set_cons_succ]
            refine take_w 56 (some 148) ?v162 rfl rfl (by kernel_rfl) (by kernel_rfl) (by kernel_rfl) (by rfl) ?y162 (fun _ _ _ h => h) (by assumption) ?n162
            case y162 =>
              intro w hSw
              try dsimp only at hSw
              go_simp
              try with_reducible rfl
            try simp only [Act.put, List.setIfInBounds_toArray, List.set_cons_zero, List.set_cons_succ]
            refine take_w 57 (some 149) ?v163 rfl rfl (by kernel_rfl) (by kernel_rfl) (by kernel_rfl) (by rfl) ?y163 (fun _ _ _ h => h) (by assumption) ?n163
            case y163 =>
              intro w hSw
              try dsimp only at hSw
              go_simp
              try with_reducible rfl
            try simp only [Act.put, List.setIfInBounds_toArray, List.set_cons_zero, List.set_cons_succ]
            refine take_w 58 (some 150) ?v164 rfl rfl (by kernel_rfl) (by kernel_rfl) (by kernel_rfl) (by rfl) ?y164 (fun _ _ _ h => h) (by assumption) ?n164
            case y164 =>
              intro w hSw
              try dsimp only at hSw
              go_simp
              try with_reducible rfl
            try simp only [Act.put, List.setIfInBounds_toArray, List.set_cons_zero, List.set_cons_succ]
            refine take_w 59 (some 151) ?v165 rfl rfl (by kernel_rfl) (by kernel_rfl) (by kernel_rfl) (by rfl) ?y165 (fun _ _ _ h => h) (by assumption) ?n165
            case y165 =>
              intro w hSw
              try dsimp only at hSw
              go_simp
              try with_reducible rfl
            try simp only [Act.put, List.setIfInBounds_toArray, List.set_cons_zero, List.set_cons_succ]
            refine take_w 60 (some 152) ?v166 rfl rfl (by kernel_rfl) (by kernel_rfl) (by kernel_rfl) (by rfl) ?y166 (fun _ _ _ h => h) (by assumption) ?n166
            case y166 =>
              intro w hSw
              try dsimp only at hSw
              go_simp
              try with_reducible rfl
            try simp only [Act.put, List.setIfInBounds_toArray, List.set_cons_zero, List.set_cons_succ]
            refine take_w 61 (some 153) ?v167 rfl rfl (by kernel_rfl) (by kernel_rfl) (by kernel_rfl) (by rfl) ?y167 (fun _ _ _ h => h) (by assumption) ?n167
            case y167 =>
              intro w hSw
              try dsimp only at hSw
              go_simp
              try with_reducible rfl
            try simp only [Act.put, List.setIfInBounds_toArray, List.set_cons_zero, List.set_cons_succ]
            refine take_w 62 (some 154) ?v168 rfl rfl (by kernel_rfl) (by kernel_rfl) (by kernel_rfl) (by rfl) ?y168 (fun _ _ _ h => h) (by assumption) ?n168
            case y168 =>
              intro w hSw
              try dsimp only at hSw
              go_simp
              try with_reducible rfl
            try simp only [Act.put, List.setIfInBounds_toArray, List.set_cons_zero, List.set_cons_succ]
            refine take_w 63 (some 155) ?v169 rfl rfl (by kernel_rfl) (by kernel_rfl) (by kernel_rfl) (by rfl) ?y169 (fun _ _ _ h => h) (by assumption) ?n169
            case y169 =>
              intro w hSw
              try dsimp only at hSw
              go_simp
              try with_reducible rfl
            try simp only [Act.put, List.setIfInBounds_toArray, List.set_cons_zero, List.set_cons_succ]
            refine take_w 64 (some 156) ?v170 rfl rfl (by kernel_rfl) (by kernel_rfl) (by kernel_rfl) (by rfl) ?y170 (fun _ _ _ h => h) (by assumption) ?n170
            case y170 =>
              intro w hSw
              try dsimp only at hSw
              go_simp
              try with_reducible rfl
            try simp only [Act.put, List.setIfInBounds_toArray, List.set_cons_zero, List.set_cons_succ]
            refine take_w 65 (some 157) ?v171 rfl rfl (by kernel_rfl) (by kernel_rfl) (by kernel_rfl) (by rfl) ?y171 (fun _ _ _ h => h) (by assumption) ?n171
            case y171 =>
              intro w hSw
              try dsimp only at hSw
              go_simp
              try with_reducible rfl
            try simp only [Act.put, List.setIfInBounds_toArray, List.set_cons_zero, List.set_cons_succ]
            refine take_w 66 (some 158) ?v172 rfl rfl (by kernel_rfl) (by kernel_rfl) (by kernel_rfl) (by rfl) ?y172 (fun _ _ _ h => h) (by assumption) ?n172
            case y172 =>
              intro w hSw
              try dsimp only at hSw
              go_simp
              try with_reducible rfl
            try simp only [Act.put, List.setIfInBounds_toArray, List.set_cons_zero, List.set_cons_succ]
            refine take_w 67 (some 8) ?v173 rfl rfl (by kernel_rfl) (by kernel_rfl) (by kernel_rfl) (by rfl) ?y173 (fun _ _ _ h => h) (by assumption) ?n173
            case y173 =>
              intro w hSw
              try dsimp only at hSw
              go_simp
              try with_reducible rfl
            try simp only [Act.put, List.setIfInBounds_toArray, List.set_cons_zero, List.set_cons_succ]
            refine wpAnyH_done (by kernel_rfl) ?_ _
            go_wp2_with fail
            go_ret
            exact ⟨by simp, BA.out.trans (bN.mono BA.out.size)⟩
        · have h5 : nn ≠ 5 := fun e => h3 (hq3.2 e)
          have hm1 : (max (nn : Int) 2 == 5) = false := beq_eq_false_iff_ne.2 (by omega)
          have hm2 : ¬ max (nn : Int) 2 = 5 := by omega
          have hm3 : (max (nn : Int) 2 != 5) = true := bne_iff_ne.2 hm2
          clear h3 h5 hq3 hlt hq
          rcases HC2.out with ⟨h4, rfl, rfl, rfl⟩ | ⟨h4, rfl⟩
          · have h4d : decide (k < 2) = true := decide_eq_true h4
            have h4i : decide ((k : Int) < 2) = true := decide_eq_true (by omega)
            refine wp_region_held_drew (S := fun w' => Below WA.heap.size WA w' ∧ w'.cell? ⟨C, 1, none⟩ = some (.string c1) ∧ w'.cell? ⟨C, 2, none⟩ = some (.string c2) ∧ w'.cell? ⟨D, 1, none⟩ = some (.string e1) ∧ w'.cell? ⟨D, 2, none⟩ = some (.string e2) ∧ w'.cell? ⟨L, 0, none⟩ = some (.string e1) ∧ w'.cell? ⟨L, 1, none⟩ = some (.string e2)) (by kernel_rfl) ?_ (fun hHeld => ?_)
            · exact ⟨bN, HC01.out _ bN, HC02.out _ bN, HD01.out _ bN, HD02.out _ bN, HF00.out _ bN, HF01.out _ bN⟩
            refine wpAnyH_ready (rs := [0]) (by kernel_rfl) (by simp) ?_
            refine AllReadyH.cons (i := 0) rfl (fun K hK => ?_) AllReadyH.nil
            go_simp
            refine (HAW1.out _ bN).mono ?_
            rintro e wN ⟨rfl, b11⟩
            have bN := bN.trans (b11.mono bN.size)
            clear b11
            go_wp2_with fail
            go_wp2_with fail
            refine hK.out _ _ ?_ (fun hHeld => ?_)
            · exact ⟨bN, HC01.out _ bN, HC02.out _ bN, HD01.out _ bN, HD02.out _ bN, HF00.out _ bN, HF01.out _ bN⟩
            clear hK K
            try simp only [Act.put, List.setIfInBounds_toArray, List.set_cons_zero, List.set_cons_succ]
            refine take_w 1 (some 93) ?v175 rfl rfl (by kernel_rfl) (by kernel_rfl) (by kernel_rfl) (by rfl) ?y175 (fun _ _ _ h => h) (by assumption) ?n175
            case y175 =>
              intro w hSw
              try dsimp only at hSw
              go_simp
              try with_reducible rfl
            try simp only [Act.put, List.setIfInBounds_toArray, List.set_cons_zero, List.set_cons_succ]
            refine take_w 2 (some 94) ?v176 rfl rfl (by kernel_rfl) (by kernel_rfl) (by kernel_rfl) (by rfl) ?y176 (fun _ _ _ h => h) (by assumption) ?n176
            case y176 =>
              intro w hSw
              try dsimp only at hSw
              go_simp
              try with_reducible rfl
            try simp only [Act.put, List.setIfInBounds_toArray, List.set_cons_zero, List.set_cons_succ]
            refine take_w 3 (some 95) ?v177 rfl rfl (by kernel_rfl) (by kernel_rfl) (by kernel_rfl) (by rfl) ?y177 (fun _ _ _ h => h) (by assumption) ?n177
            case y177 =>
              intro w hSw
              try dsimp only at hSw
              go_simp
              try with_reducible rfl
            try simp only [Act.put, List.setIfInBounds_toArray, List.set_cons_zero, List.set_cons_succ]
            refine take_w 4 (some 96) ?v178 rfl rfl (by kernel_rfl) (by kernel_rfl) (by kernel_rfl) (by rfl) ?y178 (fun _ _ _ h => h) (by assumption) ?n178
            case y178 =>
              intro w hSw
              try dsimp only at hSw
              go_simp
              try with_reducible rfl
            try simp only [Act.put, List.setIfInBounds_toArray, List.set_cons_zero, List.set_cons_succ]
            refine take_w 5 (some 97) ?v179 rfl rfl (by kernel_rfl) (by kernel_rfl) (by kernel_rfl) (by rfl) ?y179 (fun _ _ _ h => h) (by assumption) ?n179
            case y179 =>
              intro w hSw
              try dsimp only at hSw
              go_simp
              try with_reducible rfl
            try simp only [Act.put, List.setIfInBounds_toArray, List.set_cons_zero, List.set_cons_succ]
            refine take_u 6 (some 98) rfl rfl (by kernel_rfl) (by kernel_rfl) (by kernel_rfl) (by rfl) (fun _ _ _ h => h) (by assumption) ?n180
            try simp only [Act.put, List.setIfInBounds_toArray, List.set_cons_zero, List.set_cons_succ]
            refine take_u 7 (some 99) rfl rfl (by kernel_rfl) (by kernel_rfl) (by kernel_rfl) (by rfl) (fun _ _ _ h => h) (by assumption) ?n181
            try simp only [Act.put, List.setIfInBounds_toArray, List.set_cons_zero, List.set_cons_succ]
            refine take_w 8 (some 100) ?v182 rfl rfl (by kernel_rfl) (by kernel_rfl) (by kernel_rfl) (by rfl) ?y182 (fun _ _ _ h => h) (by assumption) ?n182
            case y182 =>
              intro w hSw
              try dsimp only at hSw
              go_simp
              try with_reducible rfl
            try simp only [Act.put, List.setIfInBounds_toArray, List.set_cons_zero, List.set_cons_succ]
            refine take_w 9 (some 101) ?v183 rfl rfl (by kernel_rfl) (by kernel_rfl) (by kernel_rfl) (by rfl) ?y183 (fun _ _ _ h => h) (by assumption) ?n183
            case y183 =>
              intro w hSw
              try dsimp only at hSw
              go_simp
              try with_reducible rfl
            try simp only [Act.put, List.setIfInBounds_toArray, List.set_cons_zero, List.set_cons_succ]
            refine take_u 10 (some 102) rfl rfl (by kernel_rfl) (by kernel_rfl) (by kernel_rfl) (by rfl) (fun _ _ _ h => h) (by assumption) ?n184
            try simp only [Act.put, List.setIfInBounds_toArray, List.set_cons_zero, List.set_cons_succ]
            refine take_u 11 (some 103) rfl rfl (by kernel_rfl) (by kernel_rfl) (by kernel_rfl) (by rfl) (fun _ _ _ h => h) (by assumption) ?n185
            try simp only [Act.put, List.setIfInBounds_toArray, List.set_cons_zero, List.set_cons_succ]
            refine take_u 12 (some 104) rfl rfl (by kernel_rfl) (by kernel_rfl) (by kernel_rfl) (by rfl) (fun _ _ _ h => h) (by assumption) ?n186
            try simp only [Act.put, List.setIfInBounds_toArray, List.set_cons_zero, List.set_cons_succ]
            refine take_u 13 (some 105) rfl rfl (by kernel_rfl) (by kernel_rfl) (by kernel_rfl) (by rfl) (fun _ _ _ h => h) (by assumption) ?n187
            try simp only [Act.put, List.setIfInBounds_toArray, List.set_cons_zero, List.set_cons_succ]
            refine take_w 14 (some 106) ?v188 rfl rfl (by kernel_rfl) (by kernel_rfl) (by kernel_rfl) (by rfl) ?y188 (fun _ _ _ h => h) (by assumption) ?n188
            case y188 =>
              intro w hSw
              try dsimp only at hSw
              go_simp
              try with_reducible rfl
            try simp only [Act.put, List.setIfInBounds_toArray, List.set_cons_zero, List.set_cons_succ]
            refine take_w 15 (some 107) ?v189 rfl rfl (by kernel_rfl) (by kernel_rfl) (by kernel_rfl) (by rfl) ?y189 (fun _ _ _ h => h) (by assumption) ?n189
            case y189 =>
              intro w hSw
              try dsimp only at hSw
              go_simp
              try with_reducible rfl
            try simp only [Act.put, List.setIfInBounds_toArray, List.set_cons_zero, List.set_cons_succ]
            refine take_u 16 (some 108) rfl rfl (by kernel_rfl) (by kernel_rfl) (by kernel_rfl) (by rfl) (fun _ _ _ h => h) (by assumption) ?n190
            try simp only [Act.put, List.setIfInBounds_toArray, List.set_cons_zero, List.set_cons_succ]
            refine take_u 17 (some 109) rfl rfl (by kernel_rfl) (by kernel_rfl) (by kernel_rfl) (by rfl) (fun _ _ _ h => h) (by assumption) ?n191
            try simp only [Act.put, List.setIfInBounds_toArray, List.set_cons_zero, List.set_cons_succ]
            refine take_u 18 (some 110) rfl rfl (by kernel_rfl) (by kernel_rfl) (by kernel_rfl) (by rfl) (fun _ _ _ h => h) (by assumption) ?n192
            try simp only [Act.put, List.setIfInBounds_toArray, List.set_cons_zero, List.set_cons_succ]
            refine take_u 19 (some 111) rfl rfl (by kernel_rfl) (by kernel_rfl) (by kernel_rfl) (by rfl) (fun _ _ _ h => h) (by assumption) ?n193
            try simp only [Act.put, List.setIfInBounds_toArray, List.set_cons_zero, List.set_cons_succ]
            refine take_w 20 (some 112) ?v194 rfl rfl (by kernel_rfl) (by kernel_rfl) (by kernel_rfl) (by rfl) ?y194 (fun _ _ _ h => h) (by assumption) ?n194
            case y194 =>
              intro w hSw
              try dsimp only at hSw
              go_simp
              try with_reducible rfl
            try simp only [Act.put, List.setIfInBounds_toArray, List.set_cons_zero, List.set_cons_succ]
            refine take_w 21 (some 113) ?v195 rfl rfl (by kernel_rfl) (by kernel_rfl) (by kernel_rfl) (by rfl) ?y195 (fun _ _ _ h => h) (by assumption) ?n195
            case y195 =>
              intro w hSw
              try dsimp only at hSw
              go_simp
              try with_reducible rfl
            try simp only [Act.put, List.setIfInBounds_toArray, List.set_cons_zero, List.set_cons_succ]
            refine take_w 22 (some 114) ?v196 rfl rfl (by kernel_rfl) (by kernel_rfl) (by kernel_rfl) (by rfl) ?y196 (fun _ _ _ h => h) (by assumption) ?n196
            case y196 =>
              intro w hSw
              try dsimp only at hSw
              go_simp
              try with_reducible rfl
            try simp only [Act.put, List.setIfInBounds_toArray, List.set_cons_zero, List.set_cons_succ]
            refine take_w 23 (some 115) ?v197 rfl rfl (by kernel_rfl) (by kernel_rfl) (by kernel_rfl) (by rfl) ?y197 (fun _ _ _ h => h) (by assumption) ?n197
            case y197 =>
              intro w hSw
              try dsimp only at hSw
              go_simp
              try with_reducible rfl
            try simp only [Act.put, List.setIfInBounds_toArray, List.set_cons_zero, List.set_cons_succ]
            refine take_w 24 (some 116) ?v198 rfl rfl (by kernel_rfl) (by kernel_rfl) (by kernel_rfl) (by rfl) ?y198 (fun _ _ _ h => h) (by assumption) ?n198
            case y198 =>
              intro w hSw
              try dsimp only at hSw
              go_simp
              try with_reducible rfl
            try simp only [Act.put, List.setIfInBounds_toArray, List.set_cons_zero, List.set_cons_succ]
            refine take_w 25 (some 117) ?v199 rfl rfl (by kernel_rfl) (by kernel_rfl) (by kernel_rfl) (by rfl) ?y199 (fun _ _ _ h => h) (by assumption) ?n199
            case y199 =>
              intro w hSw
              try dsimp only at hSw
              go_simp
              try with_reducible rfl
            try simp only [Act.put, List.setIfInBounds_toArray, List.set_cons_zero, List.set_cons_succ]
            refine take_w 26 (some 118) ?v200 rfl rfl (by kernel_rfl) (by kernel_rfl) (by kernel_rfl) (by rfl) ?y200 (fun _ _ _ h => h) (by assumption) ?n200
            case y200 =>
              intro w hSw
              try dsimp only at hSw
              go_simp
              try with_reducible rfl
            try simp only [Act.put, List.setIfInBounds_toArray, List.set_cons_zero, List.set_cons_succ]
            refine take_w 27 (some 119) ?v201 rfl rfl (by kernel_rfl) (by kernel_rfl) (by kernel_rfl) (by rfl) ?y201 (fun _ _ _ h => h) (by assumption) ?n201
            case y201 =>
              intro w hSw
              try dsimp only at hSw
              go_simp
              try with_reducible rfl
            try simp only [Act.put, List.setIfInBounds_toArray, List.set_cons_zero, List.set_cons_succ]
            refine take_w 28 (some 120) ?v202 rfl rfl (by kernel_rfl) (by kernel_rfl) (by kernel_rfl) (by rfl) ?y202 (fun _ _ _ h => h) (by assumption) ?n202
            case y202 =>
              intro w hSw
              try dsimp only at hSw
              go_simp
              try with_reducible rfl
            try simp only [Act.put, List.setIfInBounds_toArray, List.set_cons_zero, List.set_cons_succ]
            refine take_w 29 (some 121) ?v203 rfl rfl (by kernel_rfl) (by kernel_rfl) (by kernel_rfl) (by rfl) ?y203 (fun _ _ _ h => h) (by assumption) ?n203
            case y203 =>
              intro w hSw
              try dsimp only at hSw
              go_simp
              try with_reducible rfl
            try simp only [Act.put, List.setIfInBounds_toArray, List.set_cons_zero, List.set_cons_succ]
            refine take_w 30 (some 122) ?v204 rfl rfl (by kernel_rfl) (by kernel_rfl) (by kernel_rfl) (by rfl) ?y204 (fun _ _ _ h => h) (by assumption) ?n204
            case y204 =>
              intro w hSw
              try dsimp only at hSw
              go_simp
              try with_reducible rfl
            try simp only [Act.put, List.setIfInBounds_toArray, List.set_cons_zero, List.set_cons_succ]
            refine take_w 31 (some 123) ?v205 rfl rfl (by kernel_rfl) (by kernel_rfl) (by kernel_rfl) (by rfl) ?y205 (fun _ _ _ h => h) (by assumption) ?n205
            case y205 =>
              intro w hSw
              try dsimp only at hSw
              go_simp
              try with_reducible rfl
            try simp only [Act.put, List.setIfInBounds_toArray, List.set_cons_zero, List.set_cons_succ]
            refine take_w 32 (some 124) ?v206 rfl rfl (by kernel_rfl) (by kernel_rfl) (by kernel_rfl) (by rfl) ?y206 (fun _ _ _ h => h) (by assumption) ?n206
            case y206 =>
              intro w hSw
              try dsimp only at hSw
              go_simp
              try with_reducible rfl
            try simp only [Act.put, List.setIfInBounds_toArray, List.set_cons_zero, List.set_cons_succ]
            refine take_w 33 (some 125) ?v207 rfl rfl (by kernel_rfl) (by kernel_rfl) (by kernel_rfl) (by rfl) ?y207 (fun _ _ _ h => h) (by assumption) ?n207
            case y207 =>
              intro w hSw
              try dsimp only at hSw
              go_simp
              try with_reducible rfl
            try simp only [Act.put, List.setIfInBounds_toArray, List.set_cons_zero, List.set_cons_succ]
            refine take_w 34 (some 126) ?v208 rfl rfl (by kernel_rfl) (by kernel_rfl) (by kernel_rfl) (by rfl) ?y208 (fun _ _ _ h => h) (by assumption) ?n208
            case y208 =>
              intro w hSw
              try dsimp only at hSw
              go_simp
              try with_reducible rfl
            try simp only [Act.put, List.setIfInBounds_toArray, List.set_cons_zero, List.set_cons_succ]
            refine take_w 35 (some 127) ?v209 rfl rfl (by kernel_rfl) (by kernel_rfl) (by kernel_rfl) (by rfl) ?y209 (fun _ _ _ h => h) (by assumption) ?n209
            case y209 =>
              intro w hSw
              try dsimp only at hSw
              go_simp
              try with_reducible rfl
            try simp only [Act.put, List.setIfInBounds_toArray, List.set_cons_zero, List.set_cons_succ]
            refine take_w 36 (some 128) ?v210 rfl rfl (by kernel_rfl) (by kernel_rfl) (by kernel_rfl) (by rfl) ?y210 (fun _ _ _ h => h) (by assumption) ?n210
            case y210 =>
              intro w hSw
              try dsimp only at hSw
              go_simp
              try with_reducible rfl
            try simp only [Act.put, List.setIfInBounds_toArray, List.set_cons_zero, List.set_cons_succ]
            refine take_w 37 (some 129) ?v211 rfl rfl (by kernel_rfl) (by kernel_rfl) (by kernel_rfl) (by rfl) ?y211 (fun _ _ _ h => h) (by assumption) ?n211
            case y211 =>
              intro w hSw
              try dsimp only at hSw
              go_simp
              try with_reducible rfl
            try simp only [Act.put, List.setIfInBounds_toArray, List.set_cons_zero, List.set_cons_succ]
            refine take_w 38 (some 130) ?v212 rfl rfl (by kernel_rfl) (by kernel_rfl) (by kernel_rfl) (by rfl) ?y212 (fun _ _ _ h => h) (by assumption) ?n212
            case y212 =>
              intro w hSw
              try dsimp only at hSw
              go_simp
              try with_reducible rfl
            try simp only [Act.put, List.setIfInBounds_toArray, List.set_cons_zero, List.set_cons_succ]
            refine take_w 39 (some 131) ?v213 rfl rfl (by kernel_rfl) (by kernel_rfl) (by kernel_rfl) (by rfl) ?y213 (fun _ _ _ h => h) (by assumption) ?n213
            case y213 =>
              intro w hSw
              try dsimp only at hSw
              go_simp
              try with_reducible rfl
            try simp only [Act.put, List.setIfInBounds_toArray, List.set_cons_zero, List.set_cons_succ]
            refine take_w 40 (some 132) ?v214 rfl rfl (by kernel_rfl) (by kernel_rfl) (by kernel_rfl) (by rfl) ?y214 (fun _ _ _ h => h) (by assumption) ?n214
            case y214 =>
              intro w hSw
              try dsimp only at hSw
              go_simp
              try with_reducible rfl
            try simp only [Act.put, List.setIfInBounds_toArray, List.set_cons_zero, List.set_cons_succ]
            refine take_w 41 (some 133) ?v215 rfl rfl (by kernel_rfl) (by kernel_rfl) (by kernel_rfl) (by rfl) ?y215 (fun _ _ _ h => h) (by assumption) ?n215
            case y215 =>
              intro w hSw
              try dsimp only at hSw
              go_simp
              try with_reducible rfl
            try simp only [Act.put, List.setIfInBounds_toArray, List.set_cons_zero, List.set_cons_succ]
            refine take_w 42 (some 134) ?v216 rfl rfl (by kernel_rfl) (by kernel_rfl) (by kernel_rfl) (by rfl) ?y216 (fun _ _ _ h => h) (by assumption) ?n216
            case y216 =>
              intro w hSw
              try dsimp only at hSw
              go_simp
              try with_reducible rfl
            try simp only [Act.put, List.setIfInBounds_toArray, List.set_cons_zero, List.set_cons_succ]
            refine take_w 43 (some 135) ?v217 rfl rfl (by kernel_rfl) (by kernel_rfl) (by kernel_rfl) (by rfl) ?y217 (fun _ _ _ h => h) (by assumption) ?n217
            case y217 =>
              intro w hSw
              try dsimp only at hSw
              go_simp
              try with_reducible rfl
            try simp only [Act.put, List.setIfInBounds_toArray, List.set_cons_zero, List.set_cons_succ]
            refine take_w 44 (some 136) ?v218 rfl rfl (by kernel_rfl) (by kernel_rfl) (by kernel_rfl) (by rfl) ?y218 (fun _ _ _ h => h) (by assumption) ?n218
            case y218 =>
              intro w hSw
              try dsimp only at hSw
              go_simp
              try with_reducible rfl
            try simp only [Act.put, List.setIfInBounds_toArray, List.set_cons_zero, List.set_cons_succ]
            refine take_w 45 (some 137) ?v219 rfl rfl (by kernel_rfl) (by kernel_rfl) (by kernel_rfl) (by rfl) ?y219 (fun _ _ _ h => h) (by assumption) ?n219
            case y219 =>
              intro w hSw
              try dsimp only at hSw
              go_simp
              try with_reducible rfl
            try simp only [Act.put, List.setIfInBounds_toArray, List.set_cons_zero, List.set_cons_succ]
            refine take_w 46 (some 138) ?v220 rfl rfl (by kernel_rfl) (by kernel_rfl) (by kernel_rfl) (by rfl) ?y220 (fun _ _ _ h => h) (by assumption) ?n220
            case y220 =>
              intro w hSw
              try dsimp only at hSw
              go_simp
              try with_reducible rfl
            try simp only [Act.put, List.setIfInBounds_toArray, List.set_cons_zero, List.set_cons_succ]
            refine take_w 47 (some 139) ?v221 rfl rfl (by kernel_rfl) (by kernel_rfl) (by kernel_rfl) (by rfl) ?y221 (fun _ _ _ h => h) (by assumption) ?n221
            case y221 =>
              intro w hSw
              try dsimp only at hSw
              go_simp
              try with_reducible rfl
            try simp only [Act.put, List.setIfInBounds_toArray, List.set_cons_zero, List.set_cons_succ]
            refine take_w 48 (some 140) ?v222 rfl rfl (by kernel_rfl) (by kernel_rfl) (by kernel_rfl) (by rfl) ?y222 (fun _ _ _ h => h) (by assumption) ?n222
            case y222 =>
              intro w hSw
              try dsimp only at hSw
              go_simp
              try with_reducible rfl
            try simp only [Act.put, List.setIfInBounds_toArray, List.set_cons_zero, List.set_cons_succ]
            refine take_w 49 (some 141) ?v223 rfl rfl (by kernel_rfl) (by kernel_rfl) (by kernel_rfl) (by rfl) ?y223 (fun _ _ _ h => h) (by assumption) ?n223
            case y223 =>
              intro w hSw
              try dsimp only at hSw
              go_simp
              try with_reducible rfl
            try simp only [Act.put, List.setIfInBounds_toArray, List.set_cons_zero, List.set_cons_succ]
            refine take_w 50 (some 142) ?v224 rfl rfl (by kernel_rfl) (by kernel_rfl) (by kernel_rfl) (by rfl) ?y224 (fun _ _ _ h => h) (by assumption) ?n224
            case y224 =>
              intro w hSw
              try dsimp only at hSw
              go_simp
              try with_reducible rfl
            try simp only [Act.put, List.setIfInBounds_toArray, List.set_cons_zero, List.set_cons_succ]
            refine take_w 51 (some 143) ?v225 rfl rfl (by kernel_rfl) (by kernel_rfl) (by kernel_rfl) (by rfl) ?y225 (fun _ _ _ h => h) (by assumption) ?n225
            case y225 =>
              intro w hSw
              try dsimp only at hSw
              go_simp
              try with_reducible rfl
            try simp only [Act.put, List.setIfInBounds_toArray, List.set_cons_zero, List.set_cons_succ]
            refine take_w 52 (some 144) ?v226 rfl rfl (by kernel_rfl) (by kernel_rfl) (by kernel_rfl) (by rfl) ?y226 (fun _ _ _ h => h) (by assumption) ?n226
            case y226 =>
              intro w hSw
              try dsimp only at hSw
              go_simp
              try with_reducible rfl
            try simp only [Act.put, List.setIfInBounds_toArray, List.set_cons_zero, List.set_cons_succ]
            refine take_w 53 (some 145) ?v227 rfl rfl (by kernel_rfl) (by kernel_rfl) (by kernel_rfl) (by rfl) ?y227 (fun _ _ _ h => h) (by assumption) ?n227
            case y227 =>
              intro w hSw
              try dsimp only at hSw
              go_simp
              try with_reducible rfl
            try simp only [Act.put, List.setIfInBounds_toArray, List.set_cons_zero, List.set_cons_succ]
            refine take_w 54 (some 146) ?v228 rfl rfl (by kernel_rfl) (by kernel_rfl) (by kernel_rfl) (by rfl) ?y228 (fun _ _ _ h => h) (by assumption) ?n228
            case y228 =>
              intro w hSw
              try dsimp only at hSw
              go_simp
              try with_reducible rfl
            try simp only [Act.put, List.setIfInBounds_toArray, List.set_cons_zero, List.set_cons_succ]
            refine take_u 55 (some 147) rfl rfl (by kernel_rfl) (by kernel_rfl) (by kernel_rfl) (by rfl) (fun _ _ _ h => h) (by assumption) ?n229
            try simp only [Act.put, List.setIfInBounds_toArray, List.set_cons_zero, List.set_cons_succ]
            refine take_u 56 (some 148) rfl rfl (by kernel_rfl) (by kernel_rfl) (by kernel_rfl) (by rfl) (fun _ _ _ h => h) (by assumption) ?n230
            try simp only [Act.put, List.setIfInBounds_toArray, List.set_cons_zero, List.set_cons_succ]
            refine take_u 57 (some 149) rfl rfl (by kernel_rfl) (by kernel_rfl) (by kernel_rfl) (by rfl) (fun _ _ _ h => h) (by assumption) ?n231
            try simp only [Act.put, List.setIfInBounds_toArray, List.set_cons_zero, List.set_cons_succ]
            refine take_u 58 (some 150) rfl rfl (by kernel_rfl) (by kernel_rfl) (by kernel_rfl) (by rfl) (fun _ _ _ h => h) (by assumption) ?n232
            try simp only [Act.put, List.setIfInBounds_toArray, List.set_cons_zero, List.set_cons_succ]
            refine take_u 59 (some 151) rfl rfl (by kernel_rfl) (by kernel_rfl) (by kernel_rfl) (by rfl) (fun _ _ _ h => h) (by assumption) ?n233
            try simp only [Act.put, List.setIfInBounds_toArray, List.set_cons_zero, List.set_cons_succ]
            refine take_u 60 (some 152) rfl rfl (by kernel_rfl) (by kernel_rfl) (by kernel_rfl) (by rfl) (fun _ _ _ h => h) (by assumption) ?n234
            try simp only [Act.put, List.setIfInBounds_toArray, List.set_cons_zero, List.set_cons_succ]
            refine take_w 61 (some 153) ?v235 rfl rfl (by kernel_rfl) (by kernel_rfl) (by kernel_rfl) (by rfl) ?y235 (fun _ _ _ h => h) (by assumption) ?n235
            case y235 =>
              intro w hSw
              try dsimp only at hSw
              go_simp
              try with_reducible rfl
            try simp only [Act.put, List.setIfInBounds_toArray, List.set_cons_zero, List.set_cons_succ]
            refine take_w 62 (some 154) ?v236 rfl rfl (by kernel_rfl) (by kernel_rfl) (by kernel_rfl) (by rfl) ?y236 (fun _ _ _ h => h) (by assumption) ?n236
            case y236 =>
              intro w hSw
              try dsimp only at hSw
              go_simp
              try with_reducible rfl
            try simp only [Act.put, List.setIfInBounds_toArray, List.set_cons_zero, List.set_cons_succ]
            refine take_w 63 (some 155) ?v237 rfl rfl (by kernel_rfl) (by kernel_rfl) (by kernel_rfl) (by rfl) ?y237 (fun _ _ _ h => h) (by assumption) ?n237
            case y237 =>
              intro w hSw
              try dsimp only at hSw
              go_simp
              try with_reducible rfl
            try simp only [Act.put, List.setIfInBounds_toArray, List.set_cons_zero, List.set_cons_succ]
            refine take_w 64 (some 156) ?v238 rfl rfl (by kernel_rfl) (by kernel_rfl) (by kernel_rfl) (by rfl) ?y238 (fun _ _ _ h => h) (by assumption) ?n238
            case y238 =>
              intro w hSw
              try dsimp only at hSw
              go_simp
              try with_reducible rfl
            try simp only [Act.put, List.setIfInBounds_toArray, List.set_cons_zero, List.set_cons_succ]
            refine take_w 65 (some 157) ?v239 rfl rfl (by kernel_rfl) (by kernel_rfl) (by kernel_rfl) (by rfl) ?y239 (fun _ _ _ h => h) (by assumption) ?n239
            case y239 =>
              intro w hSw
              try dsimp only at hSw
              go_simp
              try with_reducible rfl
            try simp only [Act.put, List.setIfInBounds_toArray, List.set_cons_zero, List.set_cons_succ]
            refine take_w 66 (some 158) ?v240 rfl rfl (by kernel_rfl) (by kernel_rfl) (by kernel_rfl) (by rfl) ?y240 (fun _ _ _ h => h) (by assumption) ?n240
            case y240 =>
              intro w hSw
              try dsimp only at hSw
              go_simp
              try with_reducible rfl
            try simp only [Act.put, List.setIfInBounds_toArray, List.set_cons_zero, List.set_cons_succ]
            refine take_w 67 (some 8) ?v241 rfl rfl (by kernel_rfl) (by kernel_rfl) (by kernel_rfl) (by rfl) ?y241 (fun _ _ _ h => h) (by assumption) ?n241
            case y241 =>
              intro w hSw
              try dsimp only at hSw
              go_simp
              try with_reducible rfl
            try simp only [Act.put, List.setIfInBounds_toArray, List.set_cons_zero, List.set_cons_succ]
            refine wpAnyH_done (by kernel_rfl) ?_ _
            go_wp2_with fail
            go_ret
            exact ⟨by simp, BA.out.trans (bN.mono BA.out.size)⟩
          · have h4d : decide (k < 2) = false := decide_eq_false h4
            have h4e : decide (2 ≤ k) = true := decide_eq_true (by omega)
            have h4i : decide ((k : Int) < 2) = false := decide_eq_false (by omega)
            have h4j : decide ((2 : Int) ≤ (k : Int)) = true := decide_eq_true (by omega)
            refine wp_region_held_drew (S := fun w' => Below WA.heap.size WA w' ∧ w'.cell? ⟨C, 1, none⟩ = some (.string c1) ∧ w'.cell? ⟨C, 2, none⟩ = some (.string c2) ∧ w'.cell? ⟨D, 1, none⟩ = some (.string e1) ∧ w'.cell? ⟨D, 2, none⟩ = some (.string e2) ∧ w'.cell? ⟨L, 0, none⟩ = some (.string F0) ∧ w'.cell? ⟨L, 1, none⟩ = some (.string F1)) (by kernel_rfl) ?_ (fun hHeld => ?_)
            · exact ⟨bN, HC01.out _ bN, HC02.out _ bN, HD01.out _ bN, HD02.out _ bN, HF00.out _ bN, HF01.out _ bN⟩
            refine wpAnyH_ready (rs := [0]) (by kernel_rfl) (by simp) ?_
            refine AllReadyH.cons (i := 0) rfl (fun K hK => ?_) AllReadyH.nil
            go_simp
            refine (HAW1.out _ bN).mono ?_
            rintro e wN ⟨rfl, b11⟩
            have bN := bN.trans (b11.mono bN.size)
            clear b11
            go_wp2_with fail
            go_wp2_with fail
            refine hK.out _ _ ?_ (fun hHeld => ?_)
            · exact ⟨bN, HC01.out _ bN, HC02.out _ bN, HD01.out _ bN, HD02.out _ bN, HF00.out _ bN, HF01.out _ bN⟩
            clear hK K
            try simp only [Act.put, List.setIfInBounds_toArray, List.set_cons_zero, List.set_cons_succ]
            refine take_w 1 (some 93) ?v243 rfl rfl (by kernel_rfl) (by kernel_rfl) (by kernel_rfl) (by rfl) ?y243 (fun _ _ _ h => h) (by assumption) ?n243
            case y243 =>
              intro w hSw
              try dsimp only at hSw
              go_simp
              try with_reducible rfl
            try simp only [Act.put, List.setIfInBounds_toArray, List.set_cons_zero, List.set_cons_succ]
            refine take_w 2 (some 94) ?v244 rfl rfl (by kernel_rfl) (by kernel_rfl) (by kernel_rfl) (by rfl) ?y244 (fun _ _ _ h => h) (by assumption) ?n244
            case y244 =>
              intro w hSw
              try dsimp only at hSw
              go_simp
              try with_reducible rfl
            try simp only [Act.put, List.setIfInBounds_toArray, List.set_cons_zero, List.set_cons_succ]
            refine take_w 3 (some 95) ?v245 rfl rfl (by kernel_rfl) (by kernel_rfl) (by kernel_rfl) (by rfl) ?y245 (fun _ _ _ h => h) (by assumption) ?n245
            case y245 =>
              intro w hSw
              try dsimp only at hSw
              go_simp
              try with_reducible rfl
            try simp only [Act.put, List.setIfInBounds_toArray, List.set_cons_zero, List.set_cons_succ]
            refine take_w 4 (some 96) ?v246 rfl rfl (by kernel_rfl) (by kernel_rfl) (by kernel_rfl) (by rfl) ?y246 (fun _ _ _ h => h) (by assumption) ?n246
            case y246 =>
              intro w hSw
              try dsimp only at hSw
              go_simp
              try with_reducible rfl
            try simp only [Act.put, List.setIfInBounds_toArray, List.set_cons_zero, List.set_cons_succ]
            refine take_w 5 (some 97) ?v247 rfl rfl (by kernel_rfl) (by kernel_rfl) (by kernel_rfl) (by rfl) ?y247 (fun _ _ _ h => h) (by assumption) ?n247
            case y247 =>
              intro w hSw
              try dsimp only at hSw
              go_simp
              try with_reducible rfl
            try simp only [Act.put, List.setIfInBounds_toArray, List.set_cons_zero, List.set_cons_succ]
            refine take_u 6 (some 98) rfl rfl (by kernel_rfl) (by kernel_rfl) (by kernel_rfl) (by rfl) (fun _ _ _ h => h) (by assumption) ?n248
            try simp only [Act.put, List.setIfInBounds_toArray, List.set_cons_zero, List.set_cons_succ]
            refine take_u 7 (some 99) rfl rfl (by kernel_rfl) (by kernel_rfl) (by kernel_rfl) (by rfl) (fun _ _ _ h => h) (by assumption) ?n249
            try simp only [Act.put, List.setIfInBounds_toArray, List.set_cons_zero, List.set_cons_succ]
            refine take_w 8 (some 100) ?v250 rfl rfl (by kernel_rfl) (by kernel_rfl) (by kernel_rfl) (by rfl) ?y250 (fun _ _ _ h => h) (by assumption) ?n250
            case y250 =>
              intro w hSw
              try dsimp only at hSw
              go_simp
              try with_reducible rfl
            try simp only [Act.put, List.setIfInBounds_toArray, List.set_cons_zero, List.set_cons_succ]
            refine take_w 9 (some 101) ?v251 rfl rfl (by kernel_rfl) (by kernel_rfl) (by kernel_rfl) (by rfl) ?y251 (fun _ _ _ h => h) (by assumption) ?n251
            case y251 =>
              intro w hSw
              try dsimp only at hSw
              go_simp
              try with_reducible rfl
            try simp only [Act.put, List.setIfInBounds_toArray, List.set_cons_zero, List.set_cons_succ]
            refine take_u 10 (some 102) rfl rfl (by kernel_rfl) (by kernel_rfl) (by kernel_rfl) (by rfl) (fun _ _ _ h => h) (by assumption) ?n252
            try simp only [Act.put, List.setIfInBounds_toArray, List.set_cons_zero, List.set_cons_succ]
            refine take_u 11 (some 103) rfl rfl (by kernel_rfl) (by kernel_rfl) (by kernel_rfl) (by rfl) (fun _ _ _ h => h) (by assumption) ?n253
            try simp only [Act.put, List.setIfInBounds_toArray, List.set_cons_zero, List.set_cons_succ]
            refine take_u 12 (some 104) rfl rfl (by kernel_rfl) (by kernel_rfl) (by kernel_rfl) (by rfl) (fun _ _ _ h => h) (by assumption) ?n254
            try simp only [Act.put, List.setIfInBounds_toArray, List.set_cons_zero, List.set_cons_succ]
            refine take_u 13 (some 105) rfl rfl (by kernel_rfl) (by kernel_rfl) (by kernel_rfl) (by rfl) (fun _ _ _ h => h) (by assumption) ?n255
            try simp only [Act.put, List.setIfInBounds_toArray, List.set_cons_zero, List.set_cons_succ]
            refine take_w 14 (some 106) ?v256 rfl rfl (by kernel_rfl) (by kernel_rfl) (by kernel_rfl) (by rfl) ?y256 (fun _ _ _ h => h) (by assumption) ?n256
            case y256 =>
              intro w hSw
              try dsimp only at hSw
              go_simp
              try with_reducible rfl
            try simp only [Act.put, List.setIfInBounds_toArray, List.set_cons_zero, List.set_cons_succ]
            refine take_w 15 (some 107) ?v257 rfl rfl (by kernel_rfl) (by kernel_rfl) (by kernel_rfl) (by rfl) ?y257 (fun _ _ _ h => h) (by assumption) ?n257
            case y257 =>
              intro w hSw
              try dsimp only at hSw
              go_simp
              try with_reducible rfl
            try simp only [Act.put, List.setIfInBounds_toArray, List.set_cons_zero, List.set_cons_succ]
            refine take_u 16 (some 108) rfl rfl (by kernel_rfl) (by kernel_rfl) (by kernel_rfl) (by rfl) (fun _ _ _ h => h) (by assumption) ?n258
            try simp only [Act.put, List.setIfInBounds_toArray, List.set_cons_zero, List.set_cons_succ]
            refine take_u 17 (some 109) rfl rfl (by kernel_rfl) (by kernel_rfl) (by kernel_rfl) (by rfl) (fun _ _ _ h => h) (by assumption) ?n259
            try simp only [Act.put, List.setIfInBounds_toArray, List.set_cons_zero, List.set_cons_succ]
            refine take_u 18 (some 110) rfl rfl (by kernel_rfl) (by kernel_rfl) (by kernel_rfl) (by rfl) (fun _ _ _ h => h) (by assumption) ?n260
            try simp only [Act.put, List.setIfInBounds_toArray, List.set_cons_zero, List.set_cons_succ]
            refine take_u 19 (some 111) rfl rfl (by kernel_rfl) (by kernel_rfl) (by kernel_rfl) (by rfl) (fun _ _ _ h => h) (by assumption) ?n261
            try simp only [Act.put, List.setIfInBounds_toArray, List.set_cons_zero, List.set_cons_succ]
            refine take_w 20 (some 112) ?v262 rfl rfl (by kernel_rfl) (by kernel_rfl) (by kernel_rfl) (by rfl) ?y262 (fun _ _ _ h => h) (by assumption) ?n262
            case y262 =>
              intro w hSw
              try dsimp only at hSw
              go_simp
              try with_reducible rfl
            try simp only [Act.put, List.setIfInBounds_toArray, List.set_cons_zero, List.set_cons_succ]
            refine take_w 21 (some 113) ?v263 rfl rfl (by kernel_rfl) (by kernel_rfl) (by kernel_rfl) (by rfl) ?y263 (fun _ _ _ h => h) (by assumption) ?n263
            case y263 =>
              intro w hSw
              try dsimp only at hSw
              go_simp
              try with_reducible rfl
            try simp only [Act.put, List.setIfInBounds_toArray, List.set_cons_zero, List.set_cons_succ]
            refine take_w 22 (some 114) ?v264 rfl rfl (by kernel_rfl) (by kernel_rfl) (by kernel_rfl) (by rfl) ?y264 (fun _ _ _ h => h) (by assumption) ?n264
            case y264 =>
              intro w hSw
              try dsimp only at hSw
              go_simp
              try with_reducible rfl
            try simp only [Act.put, List.setIfInBounds_toArray, List.set_cons_zero, List.set_cons_succ]
            refine take_w 23 (some 115) ?v265 rfl rfl (by kernel_rfl) (by kernel_rfl) (by kernel_rfl) (by rfl) ?y265 (fun _ _ _ h => h) (by assumption) ?n265
            case y265 =>
              intro w hSw
              try dsimp only at hSw
              go_simp
              try with_reducible rfl
            try simp only [Act.put, List.setIfInBounds_toArray, List.set_cons_zero, List.set_cons_succ]
            refine take_w 24 (some 116) ?v266 rfl rfl (by kernel_rfl) (by kernel_rfl) (by kernel_rfl) (by rfl) ?y266 (fun _ _ _ h => h) (by assumption) ?n266
            case y266 =>
              intro w hSw
              try dsimp only at hSw
              go_simp
              try with_reducible rfl
            try simp only [Act.put, List.setIfInBounds_toArray, List.set_cons_zero, List.set_cons_succ]
            refine take_w 25 (some 117) ?v267 rfl rfl (by kernel_rfl) (by kernel_rfl) (by kernel_rfl) (by rfl) ?y267 (fun _ _ _ h => h) (by assumption) ?n267
            case y267 =>
              intro w hSw
              try dsimp only at hSw
              go_simp
              try with_reducible rfl
            try simp only [Act.put, List.setIfInBounds_toArray, List.set_cons_zero, List.set_cons_succ]
            refine take_w 26 (some 118) ?v268 rfl rfl (by kernel_rfl) (by kernel_rfl) (by kernel_rfl) (by rfl) ?y268 (fun _ _ _ h => h) (by assumption) ?n268
            case y268 =>
              intro w hSw
              try dsimp only at hSw
              go_simp
              try with_reducible rfl
            try simp only [Act.put, List.setIfInBounds_toArray, List.set_cons_zero, List.set_cons_succ]
            refine take_w 27 (some 119) ?v269 rfl rfl (by kernel_rfl) (by kernel_rfl) (by kernel_rfl) (by rfl) ?y269 (fun _ _ _ h => h) (by assumption) ?n269
            case y269 =>
              intro w hSw
              try dsimp only at hSw
              go_simp
              try with_reducible rfl
            try simp only [Act.put, List.setIfInBounds_toArray, List.set_cons_zero, List.set_cons_succ]
            refine take_w 28 (some 120) ?v270 rfl rfl (by kernel_rfl) (by kernel_rfl) (by kernel_rfl) (by rfl) ?y270 (fun _ _ _ h => h) (by assumption) ?n270
            case y270 =>
              intro w hSw
              try dsimp only at hSw
              go_simp
              try with_reducible rfl
            try simp only [Act.put, List.setIfInBounds_toArray, List.set_cons_zero, List.set_cons_succ]
            refine take_w 29 (some 121) ?v271 rfl rfl (by kernel_rfl) (by kernel_rfl) (by kernel_rfl) (by rfl) ?y271 (fun _ _ _ h => h) (by assumption) ?n271
            case y271 =>
              intro w hSw
              try dsimp only at hSw
              go_simp
              try with_reducible rfl
            try simp only [Act.put, List.setIfInBounds_toArray, List.set_cons_zero, List.set_cons_succ]
            refine take_w 30 (some 122) ?v272 rfl rfl (by kernel_rfl) (by kernel_rfl) (by kernel_rfl) (by rfl) ?y272 (fun _ _ _ h => h) (by assumption) ?n272
            case y272 =>
              intro w hSw
              try dsimp only at hSw
              go_simp
              try with_reducible rfl
            try simp only [Act.put, List.setIfInBounds_toArray, List.set_cons_zero, List.set_cons_succ]
            refine take_w 31 (some 123) ?v273 rfl rfl (by kernel_rfl) (by kernel_rfl) (by kernel_rfl) (by rfl) ?y273 (fun _ _ _ h => h) (by assumption) ?n273
            case y273 =>
              intro w hSw
              try dsimp only at hSw
              go_simp
              try with_reducible rfl
            try simp only [Act.put, List.setIfInBounds_toArray, List.set_cons_zero, List.set_cons_succ]
            refine take_w 32 (some 124) ?v274 rfl rfl (by kernel_rfl) (by kernel_rfl) (by kernel_rfl) (by rfl) ?y274 (fun _ _ _ h => h) (by assumption) ?n274
            case y274 =>
              intro w hSw
              try dsimp only at hSw
              go_simp
              try with_reducible rfl
            try simp only [Act.put, List.setIfInBounds_toArray, List.set_cons_zero, List.set_cons_succ]
            refine take_w 33 (some 125) ?v275 rfl rfl (by kernel_rfl) (by kernel_rfl) (by kernel_rfl) (by rfl) ?y275 (fun _ _ _ h => h) (by assumption) ?n275
            case y275 =>
              intro w hSw
              try dsimp only at hSw
              go_simp
              try with_reducible rfl
            try simp only [Act.put, List.setIfInBounds_toArray, List.set_cons_zero, List.set_cons_succ]
            refine take_w 34 (some 126) ?v276 rfl rfl (by kernel_rfl) (by kernel_rfl) (by kernel_rfl) (by rfl) ?y276 (fun _ _ _ h => h) (by assumption) ?n276
            case y276 =>
              intro w hSw
              try dsimp only at hSw
              go_simp
              try with_reducible rfl
            try simp only [Act.put, List.setIfInBounds_toArray, List.set_cons_zero, List.set_cons_succ]
            refine take_u 35 (some 127) rfl rfl (by kernel_rfl) (by kernel_rfl) (by kernel_rfl) (by rfl) (fun _ _ _ h => h) (by assumption) ?n277
            try simp only [Act.put, List.setIfInBounds_toArray, List.set_cons_zero, List.set_cons_succ]
            refine take_u 36 (some 128) rfl rfl (by kernel_rfl) (by kernel_rfl) (by kernel_rfl) (by rfl) (fun _ _ _ h => h) (by assumption) ?n278
            try simp only [Act.put, List.setIfInBounds_toArray, List.set_cons_zero, List.set_cons_succ]
            refine take_w 37 (some 129) ?v279 rfl rfl (by kernel_rfl) (by kernel_rfl) (by kernel_rfl) (by rfl) ?y279 (fun _ _ _ h => h) (by assumption) ?n279
            case y279 =>
              intro w hSw
              try dsimp only at hSw
              go_simp
              try with_reducible rfl
            try simp only [Act.put, List.setIfInBounds_toArray, List.set_cons_zero, List.set_cons_succ]
            refine take_w 38 (some 130) ?v280 rfl rfl (by kernel_rfl) (by kernel_rfl) (by kernel_rfl) (by rfl) ?y280 (fun _ _ _ h => h) (by assumption) ?n280
            case y280 =>
              intro w hSw
              try dsimp only at hSw
              go_simp
              try with_reducible rfl
            try simp only [Act.put, List.setIfInBounds_toArray, List.set_cons_zero, List.set_cons_succ]
            refine take_u 39 (some 131) rfl rfl (by kernel_rfl) (by kernel_rfl) (by kernel_rfl) (by rfl) (fun _ _ _ h => h) (by assumption) ?n281
            try simp only [Act.put, List.setIfInBounds_toArray, List.set_cons_zero, List.set_cons_succ]
            refine take_u 40 (some 132) rfl rfl (by kernel_rfl) (by kernel_rfl) (by kernel_rfl) (by rfl) (fun _ _ _ h => h) (by assumption) ?n282
            try simp only [Act.put, List.setIfInBounds_toArray, List.set_cons_zero, List.set_cons_succ]
            refine take_u 41 (some 133) rfl rfl (by kernel_rfl) (by kernel_rfl) (by kernel_rfl) (by rfl) (fun _ _ _ h => h) (by assumption) ?n283
            try simp only [Act.put, List.setIfInBounds_toArray, List.set_cons_zero, List.set_cons_succ]
            refine take_u 42 (some 134) rfl rfl (by kernel_rfl) (by kernel_rfl) (by kernel_rfl) (by rfl) (fun _ _ _ h => h) (by assumption) ?n284
            try simp only [Act.put, List.setIfInBounds_toArray, List.set_cons_zero, List.set_cons_succ]
            refine take_u 43 (some 135) rfl rfl (by kernel_rfl) (by kernel_rfl) (by kernel_rfl) (by rfl) (fun _ _ _ h => h) (by assumption) ?n285
            try simp only [Act.put, List.setIfInBounds_toArray, List.set_cons_zero, List.set_cons_succ]
            refine take_u 44 (some 136) rfl rfl (by kernel_rfl) (by kernel_rfl) (by kernel_rfl) (by rfl) (fun _ _ _ h => h) (by assumption) ?n286
            try simp only [Act.put, List.setIfInBounds_toArray, List.set_cons_zero, List.set_cons_succ]
            refine take_w 45 (some 137) ?v287 rfl rfl (by kernel_rfl) (by kernel_rfl) (by kernel_rfl) (by rfl) ?y287 (fun _ _ _ h => h) (by assumption) ?n287
            case y287 =>
              intro w hSw
              try dsimp only at hSw
              go_simp
              try with_reducible rfl
            try simp only [Act.put, List.setIfInBounds_toArray, List.set_cons_zero, List.set_cons_succ]
            refine take_w 46 (some 138) ?v288 rfl rfl (by kernel_rfl) (by kernel_rfl) (by kernel_rfl) (by rfl) ?y288 (fun _ _ _ h => h) (by assumption) ?n288
            case y288 =>
              intro w hSw
              try dsimp only at hSw
              go_simp
              try with_reducible rfl
            try simp only [Act.put, List.setIfInBounds_toArray, List.set_cons_zero, List.set_cons_succ]
            refine take_u 47 (some 139) rfl rfl (by kernel_rfl) (by kernel_rfl) (by kernel_rfl) (by rfl) (fun _ _ _ h => h) (by assumption) ?n289
            try simp only [Act.put, List.setIfInBounds_toArray, List.set_cons_zero, List.set_cons_succ]
            refine take_u 48 (some 140) rfl rfl (by kernel_rfl) (by kernel_rfl) (by kernel_rfl) (by rfl) (fun _ _ _ h => h) (by assumption) ?n290
            try simp only [Act.put, List.setIfInBounds_toArray, List.set_cons_zero, List.set_cons_succ]
            refine take_u 49 (some 141) rfl rfl (by kernel_rfl) (by kernel_rfl) (by kernel_rfl) (by rfl) (fun _ _ _ h => h) (by assumption) ?n291
            try simp only [Act.put, List.setIfInBounds_toArray, List.set_cons_zero, List.set_cons_succ]
            refine take_u 50 (some 142) rfl rfl (by kernel_rfl) (by kernel_rfl) (by kernel_rfl) (by rfl) (fun _ _ _ h => h) (by assumption) ?n292
            try simp only [Act.put, List.setIfInBounds_toArray, List.set_cons_zero, List.set_cons_succ]
            refine take_u 51 (some 143) rfl rfl (by kernel_rfl) (by kernel_rfl) (by kernel_rfl) (by rfl) (fun _ _ _ h => h) (by assumption) ?n293
            try simp only [Act.put, List.setIfInBounds_toArray, List.set_cons_zero, List.set_cons_succ]
            refine take_u 52 (some 144) rfl rfl (by kernel_rfl) (by kernel_rfl) (by kernel_rfl) (by rfl) (fun _ _ _ h => h) (by assumption) ?n294
            try simp only [Act.put, List.setIfInBounds_toArray, List.set_cons_zero, List.set_cons_succ]
            refine take_w 53 (some 145) ?v295 rfl rfl (by kernel_rfl) (by kernel_rfl) (by kernel_rfl) (by rfl) ?y295 (fun _ _ _ h => h) (by assumption) ?n295
            case y295 =>
              intro w hSw
              try dsimp only at hSw
              go_simp
              try with_reducible rfl
            try simp only [Act.put, List.setIfInBounds_toArray, List.set_cons_zero, List.set_cons_succ]
            refine take_w 54 (some 146) ?v296 rfl rfl (by kernel_rfl) (by kernel_rfl) (by kernel_rfl) (by rfl) ?y296 (fun _ _ _ h => h) (by assumption) ?n296
            case y296 =>
              intro w hSw
              try dsimp only at hSw
              go_simp
              try with_reducible rfl
            try simp only [Act.put, List.setIfInBounds_toArray, List.set_cons_zero, List.set_cons_succ]
            refine take_w 55 (some 147) ?v297 rfl rfl (by kernel_rfl) (by kernel_rfl) (by kernel_rfl) (by rfl) ?y297 (fun _ _ _ h => h) (by assumption) ?n297
            case y297 =>
              intro w hSw
              try dsimp only at hSw
              go_simp
              try with_reducible rfl
            try simp only [Act.put, List.setIfInBounds_toArray, List.set_cons_zero, List.set_cons_succ]
            refine take_w 56 (some 148) ?v298 rfl rfl (by kernel_rfl) (by kernel_rfl) (by kernel_rfl) (by rfl) ?y298 (fun _ _ _ h => h) (by assumption) ?n298
            case y298 =>
              intro w hSw
              try dsimp only at hSw
              go_simp
              try with_reducible rfl
            try simp only [Act.put, List.setIfInBounds_toArray, List.set_cons_zero, List.set_cons_succ]
            refine take_w 57 (some 149) ?v299 rfl rfl (by kernel_rfl) (by kernel_rfl) (by kernel_rfl) (by rfl) ?y299 (fun _ _ _ h => h) (by assumption) ?n299
            case y299 =>
              intro w hSw
              try dsimp only at hSw
              go_simp
              try with_reducible rfl
            try simp only [Act.put, List.setIfInBounds_toArray, List.set_cons_zero, List.set_cons_succ]
            refine take_w 58 (some 150) ?v300 rfl rfl (by kernel_rfl) (by kernel_rfl) (by kernel_rfl) (by rfl) ?y300 (fun _ _ _ h => h) (by assumption) ?n300
            case y300 =>
              intro w hSw
              try dsimp only at hSw
              go_simp
              try with_reducible rfl
            try simp only [Act.put, List.setIfInBounds_toArray, List.set_cons_zero, List.set_cons_succ]
            refine take_w 59 (some 151) ?v301 rfl rfl (by kernel_rfl) (by kernel_rfl) (by kernel_rfl) (by rfl) ?y301 (fun _ _ _ h => h) (by assumption) ?n301
            case y301 =>
              intro w hSw
              try dsimp only at hSw
              go_simp
              try with_reducible rfl
            try simp only [Act.put, List.setIfInBounds_toArray, List.set_cons_zero, List.set_cons_succ]
            refine take_w 60 (some 152) ?v302 rfl rfl (by kernel_rfl) (by kernel_rfl) (by kernel_rfl) (by rfl) ?y302 (fun _ _ _ h => h) (by assumption) ?n302
            case y302 =>
              intro w hSw
              try dsimp only at hSw
              go_simp
              try with_reducible rfl
            try simp only [Act.put, List.setIfInBounds_toArray, List.set_cons_zero, List.set_cons_succ]
            refine take_w 61 (some 153) ?v303 rfl rfl (by kernel_rfl) (by kernel_rfl) (by kernel_rfl) (by rfl) ?y303 (fun _ _ _ h => h) (by assumption) ?n303
            case y303 =>
              intro w hSw
              try dsimp only at hSw
              go_simp
              try with_reducible rfl
            try simp only [Act.put, List.setIfInBounds_toArray, List.set_cons_zero, List.set_cons_succ]
            refine take_w 62 (some 154) ?v304 rfl rfl (by kernel_rfl) (by kernel_rfl) (by kernel_rfl) (by rfl) ?y304 (fun _ _ _ h => h) (by assumption) ?n304
            case y304 =>
              intro w hSw
              try dsimp only at hSw
              go_simp
              try with_reducible rfl
            try simp only [Act.put, List.setIfInBounds_toArray, List.set_cons_zero, List.set_cons_succ]
            refine take_w 63 (some 155) ?v305 rfl rfl (by kernel_rfl) (by kernel_rfl) (by kernel_rfl) (by rfl) ?y305 (fun _ _ _ h => h) (by assumption) ?n305
            case y305 =>
              intro w hSw
              try dsimp only at hSw
              go_simp
              try with_reducible rfl
            try simp only [Act.put, List.setIfInBounds_toArray, List.set_cons_zero, List.set_cons_succ]
            refine take_w 64 (some 156) ?v306 rfl rfl (by kernel_rfl) (by kernel_rfl) (by kernel_rfl) (by rfl) ?y306 (fun _ _ _ h => h) (by assumption) ?n306
            case y306 =>
              intro w hSw
              try dsimp only at hSw
              go_simp
              try with_reducible rfl
            try simp only [Act.put, List.setIfInBounds_toArray, List.set_cons_zero, List.set_cons_succ]
            refine take_w 65 (some 157) ?v307 rfl rfl (by kernel_rfl) (by kernel_rfl) (by kernel_rfl) (by rfl) ?y307 (fun _ _ _ h => h) (by assumption) ?n307
            case y307 =>
              intro w hSw
              try dsimp only at hSw
              go_simp
              try with_reducible rfl
            try simp only [Act.put, List.setIfInBounds_toArray, List.set_cons_zero, List.set_cons_succ]
            refine take_w 66 (some 158) ?v308 rfl rfl (by kernel_rfl) (by kernel_rfl) (by kernel_rfl) (by rfl) ?y308 (fun _ _ _ h => h) (by assumption) ?n308
            case y308 =>
              intro w hSw
              try dsimp only at hSw
              go_simp
              try with_reducible rfl
            try simp only [Act.put, List.setIfInBounds_toArray, List.set_cons_zero, List.set_cons_succ]
            refine take_w 67 (some 8) ?v309 rfl rfl (by kernel_rfl) (by kernel_rfl) (by kernel_rfl) (by rfl) ?y309 (fun _ _ _ h => h) (by assumption) ?n309
            case y309 =>
              intro w hSw
              try dsimp only at hSw
              go_simp
              try with_reducible rfl
            try simp only [Act.put, List.setIfInBounds_toArray, List.set_cons_zero, List.set_cons_succ]
            refine wpAnyH_done (by kernel_rfl) ?_ _
            go_wp2_with fail
            go_ret
            exact ⟨by simp, BA.out.trans (bN.mono BA.out.size)⟩
end Go.Proofs.YtapelnndjjbeeaaGreatDoor
