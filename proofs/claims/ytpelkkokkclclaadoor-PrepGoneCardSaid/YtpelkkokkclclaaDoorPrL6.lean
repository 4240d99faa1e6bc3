/-
  PrepGone: the walk.
-/
import Derived.Test.YtpelkkokkclclaaDoorPrL5
namespace Go.Proofs.YtpelkkokkclclaaDoor
open Go.RowKit Rg Tx

/-- from the text on -/
def GoneEnd (w W : World) (X Z S : ByteArray) : Prop := (∀ W', Below w.heap.size w W' → Calls Tryd.prog 9 #[.string X] W' fun e w' => e = .returned (.tuple #[.string Z, .int .i64 0]) ∧ Below W'.heap.size W' w') ∧
  (∀ W', Below w.heap.size w W' → Calls Tryd.prog 11 #[.string X] W' fun e w' => e = .returned (.tuple #[.string Z, .int .i64 0]) ∧ Below W'.heap.size W' w') ∧
  (∀ W', Below w.heap.size w W' → Calls Tryd.prog 13 #[.string X] W' fun e w' => e = .returned (.tuple #[.string S, .int .i64 0]) ∧ Below W'.heap.size W' w') ∧ Below w.heap.size w W
theorem byt_eq {b : ByteArray} {l : List Nat} (h : b.data.toList = byt l) : b = ⟨(byt l).toArray⟩ := bytes_of h
theorem gone_end {P : List Nat} {a g : Nat} {X Z S : ByteArray} {w W : World} (hT : Tabs w) (hP : InA P) (hg : g ∈ goneC) (hX : X.data.toList = byt (P.take a) ++ enc g ++ byt (P.drop a)) (hZ : Z.data.toList = byt (P.map lower)) (hS : S.data.toList = byt P) (hs : X.size ≤ 1000) (hb : Below w.heap.size w W) : GoneEnd w W X Z S := by
  have h1 := prepV_of (gone_low hP a hg (k := 1) (.inl rfl))
  have h2 := prepV_of (gone_low hP a hg (k := 2) (.inr rfl))
  have h3 := prepV_of (gone_same hP a hg)
  rw [← hX, ← byt_eq hZ] at h1 h2
  rw [← hX, ← byt_eq hS] at h3
  refine ⟨fun W' h => ?_, fun W' h => ?_, fun W' h => ?_, hb⟩
  · have := node_any X W' (hT.below h) (by omega); rw [h1] at this; exact this
  · have := host_any X W' (hT.below h) (by omega); rw [h2] at this; exact this
  · have := resource_any X W' (hT.below h) (by omega); rw [h3] at this; exact this

set_option maxRecDepth 100000 in
set_option maxHeartbeats 16000000 in
theorem prepGone_any (s : ByteArray) (a t : Int) (w : World) (hT : Tabs w) (hs : s.size ≤ maxLen) : Calls Tryd.prog 7 #[.string s, .int .i64 a, .int .i64 t] w (Holds w) := by
  unfold maxLen at hs
  have HA := Lib.hid (fun W (h : Below w.heap.size w W) => awake_any W (hT.below h))
  by_cases hlen : s.size ≤ 60
  · obtain ⟨G, hG, hG8⟩ := uintMod t 8 (by omega) (by omega)
    have HT := Lib.hid hT
    clear hs hT
    go_enter Tryd.func7, Tryd.ntmps7
    go_wp2_with fail
    go_loopw [7, 8] (fun p i wr => ∃ (k : Nat) (S : ByteArray) (P : List Nat), p = .string S ∧ i = .int .i64 k ∧ k ≤ s.size ∧ S.size ≤ k ∧ Hid (S.data.toList = byt P) ∧ Hid (InA P) ∧ Hid (P.length = k) ∧ Below w.heap.size w wr) (fun _ i _ => s.size - (intOf i).toNat)
    case atStart => exact ⟨0, _, [], rfl, rfl, Nat.zero_le _, Nat.zero_le _, Lib.hid rfl, Lib.hid (fun c hc => by simp at hc), Lib.hid rfl, Below.refl _ _⟩
    case round =>
      obtain ⟨k, S, P, rfl, rfl, hk, hSk, hS, hP, hPk, bw⟩ := hrel
      have hsw := bw.size
      by_cases hlt : k < s.size
      · have hb1 := UInt8.toNat_lt (s[k]'hlt)
        have hw1 : wrap64 ((s[k]'hlt).toNat : Int) = ((s[k]'hlt).toNat : Int) := by unfold wrap64; omega
        obtain ⟨Q, hQ⟩ : ∃ Q : Int, (wrap64 ((s[k]'hlt).toNat : Int)).tmod 10 = Q := ⟨_, rfl⟩
        have hQ3 : 0 ≤ Q ∧ Q < 10 := by rw [hw1, Int.tmod_eq_emod_of_nonneg (by omega)] at hQ; omega
        have HW := Lib.hid (bw.alloc hsw)
        rcases (show Q = 0 ∨ Q = 1 ∨ Q = 2 ∨ Q = 3 ∨ Q = 4 ∨ Q = 5 ∨ Q = 6 ∨ Q = 7 ∨ Q = 8 ∨ Q = 9 by omega) with rfl | rfl | rfl | rfl | rfl | rfl | rfl | rfl | rfl | rfl
        · have hcv : (convert 31 9 (.slice (some ⟨wr.heap.size, 0, none⟩) 1 1)).run Tryd.prog (wr.alloc (.cells #[.int .u8 97] 5)) = .ok (.string ⟨#[97]⟩) (wr.alloc (.cells #[.int .u8 97] 5)) := oneByte Tryd.underlying31 Tryd.underlying5 Tryd.underlying9 97 wr
          have hx : (((⟨#[97, 66, 99, 68, 101, 88, 121, 90, 57, 45]⟩ : ByteArray)[0]'(by decide)).toNat : Int) = 97 := rfl
          clear hQ3 hw1 hb1
          go_wp2_with fail
          go_roundw
          case rel => exact ⟨k + 1, _, P ++ [97], rfl, by go_num, hlt, by rw [ByteArray.size_append]; show S.size + 1 ≤ _; omega, Lib.hid (by rw [cat_list, hS.out, byt_snoc]; rfl), Lib.hid (hP.out.snoc (by decide)), Lib.hid (by rw [List.length_append, hPk.out]; rfl), HW.out _⟩
          case measure => simp [intOf]; omega
        · have hcv : (convert 31 9 (.slice (some ⟨wr.heap.size, 0, none⟩) 1 1)).run Tryd.prog (wr.alloc (.cells #[.int .u8 66] 5)) = .ok (.string ⟨#[66]⟩) (wr.alloc (.cells #[.int .u8 66] 5)) := oneByte Tryd.underlying31 Tryd.underlying5 Tryd.underlying9 66 wr
          have hx : (((⟨#[97, 66, 99, 68, 101, 88, 121, 90, 57, 45]⟩ : ByteArray)[1]'(by decide)).toNat : Int) = 66 := rfl
          clear hQ3 hw1 hb1
          go_wp2_with fail
          go_roundw
          case rel => exact ⟨k + 1, _, P ++ [66], rfl, by go_num, hlt, by rw [ByteArray.size_append]; show S.size + 1 ≤ _; omega, Lib.hid (by rw [cat_list, hS.out, byt_snoc]; rfl), Lib.hid (hP.out.snoc (by decide)), Lib.hid (by rw [List.length_append, hPk.out]; rfl), HW.out _⟩
          case measure => simp [intOf]; omega
        · have hcv : (convert 31 9 (.slice (some ⟨wr.heap.size, 0, none⟩) 1 1)).run Tryd.prog (wr.alloc (.cells #[.int .u8 99] 5)) = .ok (.string ⟨#[99]⟩) (wr.alloc (.cells #[.int .u8 99] 5)) := oneByte Tryd.underlying31 Tryd.underlying5 Tryd.underlying9 99 wr
          have hx : (((⟨#[97, 66, 99, 68, 101, 88, 121, 90, 57, 45]⟩ : ByteArray)[2]'(by decide)).toNat : Int) = 99 := rfl
          clear hQ3 hw1 hb1
          go_wp2_with fail
          go_roundw
          case rel => exact ⟨k + 1, _, P ++ [99], rfl, by go_num, hlt, by rw [ByteArray.size_append]; show S.size + 1 ≤ _; omega, Lib.hid (by rw [cat_list, hS.out, byt_snoc]; rfl), Lib.hid (hP.out.snoc (by decide)), Lib.hid (by rw [List.length_append, hPk.out]; rfl), HW.out _⟩
          case measure => simp [intOf]; omega
        · have hcv : (convert 31 9 (.slice (some ⟨wr.heap.size, 0, none⟩) 1 1)).run Tryd.prog (wr.alloc (.cells #[.int .u8 68] 5)) = .ok (.string ⟨#[68]⟩) (wr.alloc (.cells #[.int .u8 68] 5)) := oneByte Tryd.underlying31 Tryd.underlying5 Tryd.underlying9 68 wr
          have hx : (((⟨#[97, 66, 99, 68, 101, 88, 121, 90, 57, 45]⟩ : ByteArray)[3]'(by decide)).toNat : Int) = 68 := rfl
          clear hQ3 hw1 hb1
          go_wp2_with fail
          go_roundw
          case rel => exact ⟨k + 1, _, P ++ [68], rfl, by go_num, hlt, by rw [ByteArray.size_append]; show S.size + 1 ≤ _; omega, Lib.hid (by rw [cat_list, hS.out, byt_snoc]; rfl), Lib.hid (hP.out.snoc (by decide)), Lib.hid (by rw [List.length_append, hPk.out]; rfl), HW.out _⟩
          case measure => simp [intOf]; omega
        · have hcv : (convert 31 9 (.slice (some ⟨wr.heap.size, 0, none⟩) 1 1)).run Tryd.prog (wr.alloc (.cells #[.int .u8 101] 5)) = .ok (.string ⟨#[101]⟩) (wr.alloc (.cells #[.int .u8 101] 5)) := oneByte Tryd.underlying31 Tryd.underlying5 Tryd.underlying9 101 wr
          have hx : (((⟨#[97, 66, 99, 68, 101, 88, 121, 90, 57, 45]⟩ : ByteArray)[4]'(by decide)).toNat : Int) = 101 := rfl
          clear hQ3 hw1 hb1
          go_wp2_with fail
          go_roundw
          case rel => exact ⟨k + 1, _, P ++ [101], rfl, by go_num, hlt, by rw [ByteArray.size_append]; show S.size + 1 ≤ _; omega, Lib.hid (by rw [cat_list, hS.out, byt_snoc]; rfl), Lib.hid (hP.out.snoc (by decide)), Lib.hid (by rw [List.length_append, hPk.out]; rfl), HW.out _⟩
          case measure => simp [intOf]; omega
        · have hcv : (convert 31 9 (.slice (some ⟨wr.heap.size, 0, none⟩) 1 1)).run Tryd.prog (wr.alloc (.cells #[.int .u8 88] 5)) = .ok (.string ⟨#[88]⟩) (wr.alloc (.cells #[.int .u8 88] 5)) := oneByte Tryd.underlying31 Tryd.underlying5 Tryd.underlying9 88 wr
          have hx : (((⟨#[97, 66, 99, 68, 101, 88, 121, 90, 57, 45]⟩ : ByteArray)[5]'(by decide)).toNat : Int) = 88 := rfl
          clear hQ3 hw1 hb1
          go_wp2_with fail
          go_roundw
          case rel => exact ⟨k + 1, _, P ++ [88], rfl, by go_num, hlt, by rw [ByteArray.size_append]; show S.size + 1 ≤ _; omega, Lib.hid (by rw [cat_list, hS.out, byt_snoc]; rfl), Lib.hid (hP.out.snoc (by decide)), Lib.hid (by rw [List.length_append, hPk.out]; rfl), HW.out _⟩
          case measure => simp [intOf]; omega
        · have hcv : (convert 31 9 (.slice (some ⟨wr.heap.size, 0, none⟩) 1 1)).run Tryd.prog (wr.alloc (.cells #[.int .u8 121] 5)) = .ok (.string ⟨#[121]⟩) (wr.alloc (.cells #[.int .u8 121] 5)) := oneByte Tryd.underlying31 Tryd.underlying5 Tryd.underlying9 121 wr
          have hx : (((⟨#[97, 66, 99, 68, 101, 88, 121, 90, 57, 45]⟩ : ByteArray)[6]'(by decide)).toNat : Int) = 121 := rfl
          clear hQ3 hw1 hb1
          go_wp2_with fail
          go_roundw
          case rel => exact ⟨k + 1, _, P ++ [121], rfl, by go_num, hlt, by rw [ByteArray.size_append]; show S.size + 1 ≤ _; omega, Lib.hid (by rw [cat_list, hS.out, byt_snoc]; rfl), Lib.hid (hP.out.snoc (by decide)), Lib.hid (by rw [List.length_append, hPk.out]; rfl), HW.out _⟩
          case measure => simp [intOf]; omega
        · have hcv : (convert 31 9 (.slice (some ⟨wr.heap.size, 0, none⟩) 1 1)).run Tryd.prog (wr.alloc (.cells #[.int .u8 90] 5)) = .ok (.string ⟨#[90]⟩) (wr.alloc (.cells #[.int .u8 90] 5)) := oneByte Tryd.underlying31 Tryd.underlying5 Tryd.underlying9 90 wr
          have hx : (((⟨#[97, 66, 99, 68, 101, 88, 121, 90, 57, 45]⟩ : ByteArray)[7]'(by decide)).toNat : Int) = 90 := rfl
          clear hQ3 hw1 hb1
          go_wp2_with fail
          go_roundw
          case rel => exact ⟨k + 1, _, P ++ [90], rfl, by go_num, hlt, by rw [ByteArray.size_append]; show S.size + 1 ≤ _; omega, Lib.hid (by rw [cat_list, hS.out, byt_snoc]; rfl), Lib.hid (hP.out.snoc (by decide)), Lib.hid (by rw [List.length_append, hPk.out]; rfl), HW.out _⟩
          case measure => simp [intOf]; omega
        · have hcv : (convert 31 9 (.slice (some ⟨wr.heap.size, 0, none⟩) 1 1)).run Tryd.prog (wr.alloc (.cells #[.int .u8 57] 5)) = .ok (.string ⟨#[57]⟩) (wr.alloc (.cells #[.int .u8 57] 5)) := oneByte Tryd.underlying31 Tryd.underlying5 Tryd.underlying9 57 wr
          have hx : (((⟨#[97, 66, 99, 68, 101, 88, 121, 90, 57, 45]⟩ : ByteArray)[8]'(by decide)).toNat : Int) = 57 := rfl
          clear hQ3 hw1 hb1
          go_wp2_with fail
          go_roundw
          case rel => exact ⟨k + 1, _, P ++ [57], rfl, by go_num, hlt, by rw [ByteArray.size_append]; show S.size + 1 ≤ _; omega, Lib.hid (by rw [cat_list, hS.out, byt_snoc]; rfl), Lib.hid (hP.out.snoc (by decide)), Lib.hid (by rw [List.length_append, hPk.out]; rfl), HW.out _⟩
          case measure => simp [intOf]; omega
        · have hcv : (convert 31 9 (.slice (some ⟨wr.heap.size, 0, none⟩) 1 1)).run Tryd.prog (wr.alloc (.cells #[.int .u8 45] 5)) = .ok (.string ⟨#[45]⟩) (wr.alloc (.cells #[.int .u8 45] 5)) := oneByte Tryd.underlying31 Tryd.underlying5 Tryd.underlying9 45 wr
          have hx : (((⟨#[97, 66, 99, 68, 101, 88, 121, 90, 57, 45]⟩ : ByteArray)[9]'(by decide)).toNat : Int) = 45 := rfl
          clear hQ3 hw1 hb1
          go_wp2_with fail
          go_roundw
          case rel => exact ⟨k + 1, _, P ++ [45], rfl, by go_num, hlt, by rw [ByteArray.size_append]; show S.size + 1 ≤ _; omega, Lib.hid (by rw [cat_list, hS.out, byt_snoc]; rfl), Lib.hid (hP.out.snoc (by decide)), Lib.hid (by rw [List.length_append, hPk.out]; rfl), HW.out _⟩
          case measure => simp [intOf]; omega
      · have hke : k = s.size := by omega
        have hSz : Hid (S.size = P.length) := by unfold Hid; rw [Lib.size_eq, hS.out]; simp [byt]
        have hS60 : S.size ≤ 60 := by omega
        obtain ⟨g, hgz, hgm⟩ : ∃ g : Nat, goneC.getD G 0 = g ∧ g ∈ goneC := ⟨_, rfl, eight_mem (by omega)⟩
        obtain ⟨z, hz⟩ : ∃ z : Int, (g : Int) = z := ⟨_, rfl⟩
        have hcell : (wr.alloc (.cells #[.int .i32 173, .int .i32 847, .int .i32 6150, .int .i32 8203, .int .i32 8205, .int .i32 8288, .int .i32 65024, .int .i32 65279] 21)).cell? ⟨wr.heap.size, G, none⟩ = some (.int .i32 z) := by
          rw [(Bk.new wr 21 _).cell, eight_get (by omega), hgz, hz]
        obtain ⟨GS, hGS⟩ : ∃ GS, Utf8.encode z = GS := ⟨_, rfl⟩
        have hGl : Hid (GS.data.toList = enc g) := by unfold Hid; rw [← hGS, ← hz]; exact enc_model g
        have hG4 : GS.size ≤ 4 := by rw [Lib.size_eq, hGl.out]; exact (enc_len (n := g)).2
        obtain ⟨A, hA, hAS⟩ := uintMod' a (S.size + 1) (by omega) (by omega)
        have hu := small_u64 (S.size + 1) (by omega)
        rw [show ((S.size + 1 : Nat) : Int) = (S.size : Int) + 1 by omega] at hA hu
        have hnz : ((S.size : Int) + 1 == 0) = false := by simp; omega
        have bw2 := bw.alloc hsw (.cells #[.int .i32 173, .int .i32 847, .int .i32 6150, .int .i32 8203, .int .i32 8205, .int .i32 8288, .int .i32 65024, .int .i32 65279] 21)
        have HGM := Lib.hid hgm
        have hAS2 : A ≤ S.size := by omega
        have HKE := Lib.hid hke
        clear hgz hz hgm hke hk hSk
        go_wp2_with fail
        go_big_quiet (fail)
        go_wp2_with fail
        obtain ⟨w8, hw8⟩ : ∃ w8, ((wr.alloc (.cells #[.int .i32 173, .int .i32 847, .int .i32 6150, .int .i32 8203, .int .i32 8205, .int .i32 8288, .int .i32 65024, .int .i32 65279] 21)).drewN nq) = w8 := ⟨_, rfl⟩
        have bw8 : Below w.heap.size w w8 := by rw [← hw8]; exact drewN_below bw2 _
        try rw [hw8]
        obtain ⟨X, hX⟩ : ∃ X, S.extract 0 A ++ GS ++ S.extract A S.size = X := ⟨_, rfl⟩
        have hXl : Hid (X.data.toList = byt (P.take A) ++ enc g ++ byt (P.drop A)) := by
          unfold Hid
          rw [← hX, cat_list, cat_list, hGl.out, mid_cut, mid_cut, hS.out, List.drop_zero, Nat.sub_zero]
          have e1 : (byt P).take A = byt (P.take A) := by simp [byt, List.map_take]
          have e2 : ((byt P).drop A).take (S.size - A) = byt (P.drop A) := by
            rw [List.take_of_length_le (by simp [byt]; have := hSz.out; omega)]
            simp [byt, List.map_drop]
          rw [e1, e2]
        have hXs : X.size ≤ 1000 := by
          rw [← hX, ByteArray.size_append, ByteArray.size_append, ByteArray.size_extract, ByteArray.size_extract]
          omega
        rw [hX]
        have HX := Lib.hid hX
        have HEND := Lib.hid (fun (Z : ByteArray) (W : World) (hZ : Z.data.toList = byt (P.map lower)) (hb : Below w.heap.size w W) => gone_end HT.out hP.out HGM.out hXl.out hZ hS.out hXs hb)
        have HP2 : Hid (∀ k c, P[k]? = some c → c ∈ alpha) := fun k c h => hP.out c (List.mem_of_getElem? h)
        have hby : Hid (∀ k c (h : k < S.size), P[k]? = some c → ((S[k]'h).toNat : Int) = (c : Int)) := fun k c h hc => by
          have h1 : S.data.toList[k]? = some (S[k]'h) := by
            rw [List.getElem?_eq_getElem (by rw [← Lib.size_eq]; exact h)]
            rfl
          rw [hS.out] at h1
          simp only [byt, List.getElem?_map, hc, Option.map_some, Option.some.injEq] at h1
          have h2 := (alpha_all c (HP2.out k c hc)).2.1
          rw [← h1, UInt8.toNat_ofNat']
          omega
        clear hcell hA hu hnz bw2 hw8 hX hXs hG hG8 hGS
        go_loopw [11, 12] (fun p i wq => ∃ (k : Nat) (Z : ByteArray), p = .string Z ∧ i = .int .i64 k ∧ k ≤ S.size ∧ Z.size ≤ k ∧ Hid (Z.data.toList = byt ((P.take k).map lower)) ∧ Below w.heap.size w wq) (fun _ i _ => S.size - (intOf i).toNat)
        case atStart => exact ⟨0, _, rfl, rfl, Nat.zero_le _, Nat.zero_le _, Lib.hid rfl, bw8⟩
        case round =>
          obtain ⟨k, Z, rfl, rfl, hk, hZk, hZ, bq⟩ := hrel
          have hsq := bq.size
          by_cases hlt2 : k < S.size
          · obtain ⟨c, hc⟩ : ∃ c, P[k]? = some c := ⟨_, List.getElem?_eq_getElem (by rw [← hSz.out]; exact hlt2)⟩
            have hcb := hby.out k c hlt2 hc
            have hca := HP2.out k c hc
            obtain ⟨_, hc2, -, -, -, -, -, -, -, hc3⟩ := alpha_all c hca
            have htk : Hid ((P.take (k + 1)).map lower = (P.take k).map lower ++ [lower c]) := by unfold Hid; rw [List.take_add_one, hc]; simp
            have HQ := Lib.hid (bq.alloc hsq)
            obtain ⟨y, hy⟩ : ∃ y : Int, (c : Int) = y := ⟨_, rfl⟩
            rw [hy] at hcb
            by_cases hup : 65 ≤ c ∧ c ≤ 90
            · have hlo : Hid (lower c = c + 32) := by unfold Hid lower; rw [if_pos hup]
              have hcv := oneByte (P := Tryd.prog) Tryd.underlying31 Tryd.underlying5 Tryd.underlying9 (y + 32) wr
              obtain ⟨B, hB⟩ : ∃ B : ByteArray, ⟨#[UInt8.ofNat (y + 32).toNat]⟩ = B := ⟨_, rfl⟩
              have hBl : Hid (B.data.toList = [UInt8.ofNat (lower c)]) := by unfold Hid; rw [← hB, hlo.out, show (y + 32).toNat = c + 32 by omega]
              have hB1 : B.size = 1 := by rw [← hB]; rfl
              rw [hB] at hcv
              have g1 : decide (y ≥ 65) = true := by simp; omega
              have g2 : decide (y ≤ 90) = true := by simp; omega
              have g3 : IntKind.u8.wrap (y + 32) = y + 32 := by simp [IntKind.wrap, IntKind.bits, IntKind.signed]; omega
              clear hy hup hB hc hca hc2 hc3
              go_wp2_with fail
              go_roundw
              case rel => exact ⟨k + 1, _, rfl, by go_num, hlt2, by rw [ByteArray.size_append, hB1]; omega, Lib.hid (by rw [cat_list, hZ.out, hBl.out, htk.out, byt_snoc]), HQ.out _⟩
              case measure => simp [intOf]; omega
            · have hlo : Hid (lower c = c) := by unfold Hid lower; rw [if_neg hup]
              have hcv := oneByte (P := Tryd.prog) Tryd.underlying31 Tryd.underlying5 Tryd.underlying9 y wr
              obtain ⟨B, hB⟩ : ∃ B : ByteArray, ⟨#[UInt8.ofNat y.toNat]⟩ = B := ⟨_, rfl⟩
              have hBl : Hid (B.data.toList = [UInt8.ofNat (lower c)]) := by unfold Hid; rw [← hB, hlo.out, show y.toNat = c by omega]
              have hB1 : B.size = 1 := by rw [← hB]; rfl
              rw [hB] at hcv
              rcases (show decide (y ≥ 65) = false ∨ (decide (y ≥ 65) = true ∧ decide (y ≤ 90) = false) by simp only [decide_eq_true_eq, decide_eq_false_iff_not]; omega) with g1 | ⟨g1, g2⟩
              all_goals
                clear hy hup hB hc hca hc2 hc3
                go_wp2_with fail
                go_roundw
                case rel => exact ⟨k + 1, _, rfl, by go_num, hlt2, by rw [ByteArray.size_append, hB1]; omega, Lib.hid (by rw [cat_list, hZ.out, hBl.out, htk.out, byt_snoc]), HQ.out _⟩
                case measure => simp [intOf]; omega
          · have hke2 : k = P.length := by have := hSz.out; omega
            have hZl : Hid (Z.data.toList = byt (P.map lower)) := by
              have h := hZ.out
              rw [hke2, List.take_length] at h
              exact h
            have HE := Lib.hid (HEND.out Z wr hZl.out bq)
            have BW := bq
            have s1 := same_self Z
            have s2 := same_self S
            clear hke2
            go_wp2_with fail
            refine (HE.out.1 wr BW).mono ?_
            rintro e w1 ⟨rfl, b1⟩
            have B1 := BW.trans (b1.mono BW.size)
            clear b1
            go_wp2_with fail
            refine (HE.out.2.1 w1 B1).mono ?_
            rintro e w2 ⟨rfl, b2⟩
            have B2 := B1.trans (b2.mono B1.size)
            clear b2
            go_wp2_with fail
            refine (HE.out.2.2.1 w2 B2).mono ?_
            rintro e w3 ⟨rfl, b3⟩
            have B3 := B2.trans (b3.mono B2.size)
            clear b3
            go_wp2_with fail
            refine (HA.out w3 B3).mono ?_
            rintro e w4 ⟨rfl, b4⟩
            have B4 := B3.trans (b4.mono B3.size)
            clear b4
            go_wp2_with fail
            go_ret
            exact ⟨rfl, B4⟩
  · go_enter Tryd.func7, Tryd.ntmps7
    go_wp2_with fail
    refine (HA.out w (Below.refl _ _)).mono ?_
    rintro e w1 ⟨rfl, b1⟩
    go_wp2_with fail
    go_ret
    exact ⟨rfl, b1⟩
end Go.Proofs.YtpelkkokkclclaaDoor
