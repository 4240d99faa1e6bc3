import Derived.Test.YtfbdnaclkfmiaaaGreatDoorG13
import Derived.Test.YtfbdnaclkfmiaaaGreatDoorG18
import Derived.Test.YtfbdnaclkfmiaaaGreatDoorG10
import Derived.Test.YtfbdnaclkfmiaaaGreatDoorG14
import Derived.Test.YtfbdnaclkfmiaaaGreatDoorShelf
import Derived.ScopeJumps
import Derived.WalkMore
import Derived.Lib.Fold
import Derived.Deep.LoopGhost
import Derived.Laws.RangeString
/- what is reached of it -/
namespace Go.Proofs.YtfbdnaclkfmiaaaGreatDoor
open Go.RowKit Tx
/-- The character that a sign of one byte folds to. -/
def foldN (x : Nat) : Nat := if 65 ≤ x ∧ x ≤ 90 then x + 32 else if x = 107 then 8490 else if x = 115 then 383 else if 97 ≤ x ∧ x ≤ 122 then x - 32 else x
/-- unicode's table of these -/
def Folds (w : World) : Prop := ∀ i : Nat, i < 128 → w.cell? ⟨3, i, none⟩ = some (.int .u16 (foldN i : Nat))
theorem Folds.below {w w' : World} (h : Folds w) (hb : Below w.heap.size w w') : Folds w' := fun i hi => by
  rw [hb.cell (p := ⟨3, i, none⟩) (World.block_lt_of_cell? _ _ (h i hi))]
  exact h i hi
/-- a mark of such signs -/
def Plainly (M : ByteArray) : Prop := ∀ i (h : i < M.size), (M[i]'h).toNat < 128 ∧ (foldN (M[i]'h).toNat = (M[i]'h).toNat ∨ foldN (M[i]'h).toNat < 128 ∧ foldN (foldN (M[i]'h).toNat) = (M[i]'h).toNat ∧ foldN (M[i]'h).toNat ≠ (M[i]'h).toNat)
theorem Plainly.of {M : ByteArray} (h : M.data.toList.all (fun b => decide (b.toNat < 128 ∧ (foldN b.toNat = b.toNat ∨ foldN b.toNat < 128 ∧ foldN (foldN b.toNat) = b.toNat ∧ foldN b.toNat ≠ b.toNat))) = true) : Plainly M := fun i hi => of_decide_eq_true (List.all_eq_true.1 h _ (List.mem_of_getElem? (Lib.data_getElem? M i hi)))

set_option maxHeartbeats 1000000 in
theorem simpleFold_any (x : Nat) (w : World) (hF : Folds w) (hx : x < 128) : Calls Tryz.prog 259 #[.int .i32 x] w fun e w' => e = .returned (.int .i32 (foldN x : Nat)) ∧ w' = w := by
  have hc := hF x hx
  have hb : foldN x ≤ 8490 := by unfold foldN; split; omega; split; omega; split; omega; split <;> omega
  obtain ⟨y, hy⟩ : ∃ y : Int, ((foldN x : Nat) : Int) = y := ⟨_, rfl⟩
  obtain ⟨z, hz⟩ : ∃ z : Int, (x : Int) = z := ⟨_, rfl⟩
  have y0 : 0 ≤ y := by omega
  have y1 : y ≤ 8490 := by omega
  have z0 : 0 ≤ z := by omega
  have z1 : z < 128 := by omega
  have hcz : w.cell? ⟨3, z.toNat, none⟩ = some (.int .u16 y) := by rw [← hz, ← hy, Int.toNat_natCast]; exact hc
  rw [hy, hz]
  clear hF hy hc hb hz hx
  go_enter Tryz.func259, Tryz.ntmps259
  go_wp2_with fail
  go_ret
  exact ⟨rfl, rfl⟩

theorem fl_seqR {a b r : Code} {l : Nat} (h1 : findLabel a l = none) (h2 : findLabel b l = some r) : findLabel (.seq a b) l = some r := by simp only [findLabel, h1]; exact h2
theorem fl_seqL {a b r : Code} {l : Nat} (h1 : findLabel a l = some r) : findLabel (.seq a b) l = some (.seq r b) := by simp only [findLabel, h1]
theorem fl_lab (l : Nat) : findLabel (.label l) l = some .skip := by simp [findLabel]
/-- How the call stands where it leaves its first loop for a sign of more than one byte. -/
def JumpE (s M : ByteArray) (w : World) (a' : Act) (w' : World) : Prop := ∃ (i : Nat) (u : Nat → Value), a' = { tmps := #[.string s, .string M, u 2, u 3, u 4, .int .i64 (i : Nat), u 6, u 7, u 8, u 9, u 10, u 11, u 12, u 13, u 14, u 15, u 16, u 17, u 18, u 19, u 20, u 21, u 22, u 23, u 24, u 25, u 26, u 27, u 28, u 29, u 30, u 31, u 32, u 33, u 34, u 35, u 36, u 37, u 38, u 39, u 40, u 41, u 42, u 43, u 44, u 45, u 46, u 47, u 48, u 49, u 50, u 51, u 52, u 53, u 54, u 55, u 56, u 57, u 58, u 59, u 60, u 61, u 62, u 63, u 64, u 65, u 66, u 67, u 68, u 69, u 70, u 71, u 72, u 73, u 74, u 75, u 76, u 77, u 78, u 79, u 80, u 81, u 82, u 83, u 84, u 85, u 86, u 87, u 88, u 89, u 90, u 91, u 92, u 93, u 94, u 95, u 96, u 97, u 98, u 99, u 100, u 101, u 102, u 103, u 104, u 105, u 106, u 107, u 108, u 109, u 110, u 111, u 112, u 113, u 114, u 115, u 116, u 117, u 118, u 119, u 120, u 121, u 122], defers := [] } ∧ w' = w ∧ i < s.size ∧ i < M.size ∧ Hid (∃ x : UInt8, s.data.toList[i]? = some x ∧ 128 ≤ x.toNat)
theorem JumpE.mk {s M : ByteArray} {w : World} {a' : Act} {w' : World} (i : Nat) (h : a' = { tmps := #[.string s, .string M, a'.tmps.getD 2 undef, a'.tmps.getD 3 undef, a'.tmps.getD 4 undef, .int .i64 (i : Nat), a'.tmps.getD 6 undef, a'.tmps.getD 7 undef, a'.tmps.getD 8 undef, a'.tmps.getD 9 undef, a'.tmps.getD 10 undef, a'.tmps.getD 11 undef, a'.tmps.getD 12 undef, a'.tmps.getD 13 undef, a'.tmps.getD 14 undef, a'.tmps.getD 15 undef, a'.tmps.getD 16 undef, a'.tmps.getD 17 undef, a'.tmps.getD 18 undef, a'.tmps.getD 19 undef, a'.tmps.getD 20 undef, a'.tmps.getD 21 undef, a'.tmps.getD 22 undef, a'.tmps.getD 23 undef, a'.tmps.getD 24 undef, a'.tmps.getD 25 undef, a'.tmps.getD 26 undef, a'.tmps.getD 27 undef, a'.tmps.getD 28 undef, a'.tmps.getD 29 undef, a'.tmps.getD 30 undef, a'.tmps.getD 31 undef, a'.tmps.getD 32 undef, a'.tmps.getD 33 undef, a'.tmps.getD 34 undef, a'.tmps.getD 35 undef, a'.tmps.getD 36 undef, a'.tmps.getD 37 undef, a'.tmps.getD 38 undef, a'.tmps.getD 39 undef, a'.tmps.getD 40 undef, a'.tmps.getD 41 undef, a'.tmps.getD 42 undef, a'.tmps.getD 43 undef, a'.tmps.getD 44 undef, a'.tmps.getD 45 undef, a'.tmps.getD 46 undef, a'.tmps.getD 47 undef, a'.tmps.getD 48 undef, a'.tmps.getD 49 undef, a'.tmps.getD 50 undef, a'.tmps.getD 51 undef, a'.tmps.getD 52 undef, a'.tmps.getD 53 undef, a'.tmps.getD 54 undef, a'.tmps.getD 55 undef, a'.tmps.getD 56 undef, a'.tmps.getD 57 undef, a'.tmps.getD 58 undef, a'.tmps.getD 59 undef, a'.tmps.getD 60 undef, a'.tmps.getD 61 undef, a'.tmps.getD 62 undef, a'.tmps.getD 63 undef, a'.tmps.getD 64 undef, a'.tmps.getD 65 undef, a'.tmps.getD 66 undef, a'.tmps.getD 67 undef, a'.tmps.getD 68 undef, a'.tmps.getD 69 undef, a'.tmps.getD 70 undef, a'.tmps.getD 71 undef, a'.tmps.getD 72 undef, a'.tmps.getD 73 undef, a'.tmps.getD 74 undef, a'.tmps.getD 75 undef, a'.tmps.getD 76 undef, a'.tmps.getD 77 undef, a'.tmps.getD 78 undef, a'.tmps.getD 79 undef, a'.tmps.getD 80 undef, a'.tmps.getD 81 undef, a'.tmps.getD 82 undef, a'.tmps.getD 83 undef, a'.tmps.getD 84 undef, a'.tmps.getD 85 undef, a'.tmps.getD 86 undef, a'.tmps.getD 87 undef, a'.tmps.getD 88 undef, a'.tmps.getD 89 undef, a'.tmps.getD 90 undef, a'.tmps.getD 91 undef, a'.tmps.getD 92 undef, a'.tmps.getD 93 undef, a'.tmps.getD 94 undef, a'.tmps.getD 95 undef, a'.tmps.getD 96 undef, a'.tmps.getD 97 undef, a'.tmps.getD 98 undef, a'.tmps.getD 99 undef, a'.tmps.getD 100 undef, a'.tmps.getD 101 undef, a'.tmps.getD 102 undef, a'.tmps.getD 103 undef, a'.tmps.getD 104 undef, a'.tmps.getD 105 undef, a'.tmps.getD 106 undef, a'.tmps.getD 107 undef, a'.tmps.getD 108 undef, a'.tmps.getD 109 undef, a'.tmps.getD 110 undef, a'.tmps.getD 111 undef, a'.tmps.getD 112 undef, a'.tmps.getD 113 undef, a'.tmps.getD 114 undef, a'.tmps.getD 115 undef, a'.tmps.getD 116 undef, a'.tmps.getD 117 undef, a'.tmps.getD 118 undef, a'.tmps.getD 119 undef, a'.tmps.getD 120 undef, a'.tmps.getD 121 undef, a'.tmps.getD 122 undef], defers := [] }) (h1 : w' = w) (h2 : i < s.size) (h3 : i < M.size) (h4 : Hid (∃ x : UInt8, s.data.toList[i]? = some x ∧ 128 ≤ x.toNat)) : JumpE s M w a' w' := ⟨i, fun n => a'.tmps.getD n undef, h, h1, h2, h3, h4⟩
theorem eqf_high {a b : List UInt8} : ∀ {i : Nat} {x : UInt8}, a[i]? = some x → 128 ≤ x.toNat → (∃ y : UInt8, b[i]? = some y ∧ y.toNat < 128) → Lib.equalFold a b = false := by
  induction a generalizing b with
  | nil => intro i x h; simp at h
  | cons u a ih =>
    intro i x h1 h2 ⟨y, h3, h4⟩
    cases b with
    | nil => simp at h3
    | cons v b =>
      cases i with
      | zero =>
        obtain rfl : u = x := by simpa using h1
        obtain rfl : v = y := by simpa using h3
        exact Lib.equalFold_no _ _ _ _ (decide_eq_false (by omega))
      | succ i =>
        unfold Lib.equalFold
        rw [ih (by simpa using h1) h2 ⟨y, by simpa using h3, h4⟩, Bool.and_false]
theorem eqf_pre {s M : ByteArray} {i : Nat} (w' : World) (his : i < s.size) (hiM : i < M.size) (hx : ∃ x : UInt8, s.data.toList[i]? = some x ∧ 128 ≤ x.toNat) (hM : Plainly M) :
    ∃ (S1 M1 : ByteArray) (y : Nat) (cz : Int) (W2 : World), s.extract i s.size = S1 ∧ M.extract i M.size = M1 ∧ y < 128 ∧ (foldN y = y ∨ foldN y < 128 ∧ foldN (foldN y) = y ∧ foldN y ≠ y) ∧ 128 ≤ cz ∧ cz ≤ 1114111 ∧ 1 ≤ M1.size ∧
      (∀ ty, (Instr.next (.pointer (some ⟨w'.heap.size, 0, none⟩)) true ty).run Tryz.prog (w'.iter S1 0) = .ok (.tuple #[.bool true, .int .i64 (0 : Nat), .int .i32 cz]) W2) ∧ Below w'.heap.size w' W2 ∧ M1.data.toList ≠ [] ∧ dc M1.data.toList = (y, 1) := by
  obtain ⟨x, hxl, hx128⟩ := hx
  obtain ⟨hy1, hy2⟩ := hM i hiM
  obtain ⟨S1, hS1⟩ : ∃ S1, s.extract i s.size = S1 := ⟨_, rfl⟩
  obtain ⟨M1, hM1⟩ : ∃ M1, M.extract i M.size = M1 := ⟨_, rfl⟩
  have hSl : S1.data.toList = s.data.toList.drop i := by rw [← hS1]; exact Lib.extract_to_end s i
  have hMl : M1.data.toList = M.data.toList.drop i := by rw [← hM1]; exact Lib.extract_to_end M i
  have hSn : S1.size = s.size - i := by rw [Lib.size_eq, hSl, List.length_drop, ← Lib.size_eq]
  have hMn : M1.size = M.size - i := by rw [Lib.size_eq, hMl, List.length_drop, ← Lib.size_eq]
  have hSne : s.data.toList.drop i ≠ [] := drop_ne (by rw [← Lib.size_eq]; exact his)
  have hMne : M.data.toList.drop i ≠ [] := drop_ne (by rw [← Lib.size_eq]; exact hiM)
  obtain ⟨y, hy⟩ : ∃ y : Nat, (M[i]'hiM).toNat = y := ⟨_, rfl⟩
  rw [hy] at hy1 hy2
  have hb0 : bt (s.data.toList.drop i) 0 = x.toNat := by rw [bt_def, getD_drop', List.getD_eq_getElem?_getD, Nat.add_zero, hxl]; rfl
  have hm0 : bt (M.data.toList.drop i) 0 = y := by rw [bt_def, getD_drop', List.getD_eq_getElem?_getD, Nat.add_zero, Lib.data_getElem? M i hiM, ← hy]; rfl
  have hdm : dc (M.data.toList.drop i) = (y, 1) := by
    rcases dc_step hMne with ⟨_, a2⟩ | ⟨a1, a2, a3⟩
    · rw [a2, hm0]
    · have := dc_ge1 (M.data.toList.drop i)
      have := a3 0 (by omega)
      rw [hm0] at this
      omega
  rcases dc_step hSne with ⟨a1, _⟩ | ⟨a1, a2, _⟩
  · rw [hb0] at a1; omega
  obtain ⟨c, hc⟩ : ∃ c, (dc (s.data.toList.drop i)).1 = c := ⟨_, rfl⟩
  obtain ⟨m, hm⟩ : ∃ m, (dc (s.data.toList.drop i)).2 = m := ⟨_, rfl⟩
  rw [hc] at a1 a2
  have hcm : c ≤ 1114111 := by unfold sane at a2; omega
  refine ⟨S1, M1, y, (c : Int), (w'.iter S1 0).iterAt w'.heap.size S1 (0 + m), hS1, hM1, hy1, hy2, by omega, by omega, by omega, fun ty => ?_, Lib.below_iterAt ((Below.refl w'.heap.size w').alloc (Nat.le_refl _) (.stringIter S1 0)) (Nat.le_refl _) S1 (0 + m), by rw [hMl]; exact hMne, by rw [hMl]; exact hdm⟩
  have h := Lib.run_next_any_at (P := Tryz.prog) (w'.iter S1 0) w'.heap.size S1 0 ty (World.iter_heap _ _ _) (by omega)
  rw [udec, List.drop_zero, hSl, hc, hm] at h
  exact h
def intOfE : Value → Int | .int _ q => q | _ => 0
set_option maxHeartbeats 800000 in
set_option maxRecDepth 1000000 in
theorem eqf_any (s M : ByteArray) (w : World) (hM : Plainly M) (hT : Tabs w) (hF : Folds w) (hs : s.size < 4294967281) :
    Calls Tryz.prog 223 #[.string s, .string M] w fun e w' => e = .returned (.bool (Lib.equalFold s.data.toList M.data.toList)) ∧ Below w.heap.size w w' := by
  have HM := Lib.hid hM
  have HT := Lib.hid hT
  have HF := Lib.hid hF
  clear hM hT hF
  obtain ⟨N, hN⟩ : ∃ N : Nat, min (s.size : Int) (M.size : Int) = (N : Int) := ⟨min s.size M.size, by omega⟩
  have hNs : N ≤ s.size := by omega
  have hNM : N ≤ M.size := by omega
  have hNe : N = s.size ∨ N = M.size := by omega
  go_enter Tryz.func223, Tryz.ntmps223
  go_wp2_with fail
  apply wp_scope_jumps 0 (JumpE s M w) (fun _ _ => 0)
  case hf => repeat (first | exact fl_lab 0 | (apply fl_seqR; rfl) | apply fl_seqL)
  case first =>
      have HN0 : Hid (Lib.equalFold (s.data.toList.drop 0) (M.data.toList.drop 0) = Lib.equalFold s.data.toList M.data.toList) := rfl
      go_wp2_with fail
      go_loopg [5] N (fun g s5 wx => w = wx ∧ ∃ i : Nat, i + g = N ∧ s5 = .int .i64 i ∧ Hid (Lib.equalFold (s.data.toList.drop i) (M.data.toList.drop i) = Lib.equalFold s.data.toList M.data.toList))
      case atStart => exact ⟨rfl, 0, by omega, rfl, HN0⟩
      case round =>
        obtain ⟨rfl, i, hig, rfl, HI⟩ := hrel
        clear hN HN0
        cases gk with
        | zero =>
          have hiM : ¬ ((i : Int) < (N : Int)) := by omega
          obtain rfl : i = N := by omega
          have hE : Lib.equalFold s.data.toList M.data.toList = decide (s.size = M.size) := by
            rw [← HI.out, Lib.equalFold_end _ _ (by
              rcases hNe with h | h
              · exact Or.inl (List.drop_eq_nil_of_le (by rw [← Lib.size_eq]; omega))
              · exact Or.inr (List.drop_eq_nil_of_le (by rw [← Lib.size_eq]; omega))), List.length_drop, List.length_drop, ← Lib.size_eq, ← Lib.size_eq]
            exact decide_eq_decide.2 (by omega)
          by_cases hst : s.size = M.size
          · have hb : ((s.size : Int) == (M.size : Int)) = true := beq_iff_eq.2 (by omega)
            have hR : Hid (Lib.equalFold s.data.toList M.data.toList = true) := by unfold Hid; rw [hE]; exact decide_eq_true hst
            clear hE hst
            go_wp2_with fail
            simp (config := { zetaDelta := true }) only [Exit.jump]
            go_ret
            exact ⟨by rw [hR.out]; rfl, Below.refl _ _⟩
          · have hb : ((s.size : Int) == (M.size : Int)) = false := beq_eq_false_iff_ne.2 (by omega)
            have hR : Hid (Lib.equalFold s.data.toList M.data.toList = false) := by unfold Hid; rw [hE]; exact decide_eq_false hst
            clear hE hst
            go_wp2_with fail
            simp (config := { zetaDelta := true }) only [Exit.jump]
            go_ret
            exact ⟨by rw [hR.out]; rfl, Below.refl _ _⟩
        | succ g =>
          have hiM : (i : Int) < (N : Int) := by omega
          have hisz : (i : Int) < (s.size : Int) := by omega
          have hitz : (i : Int) < (M.size : Int) := by omega
          obtain ⟨x, hx⟩ : ∃ x : UInt8, s[i]'(by omega) = x := ⟨_, rfl⟩
          obtain ⟨y, hy⟩ : ∃ y : UInt8, M[i]'(by omega) = y := ⟨_, rfl⟩
          have hxl : s.data.toList[i]? = some x := by rw [← hx]; exact Lib.data_getElem? s i (by omega)
          have hyl : M.data.toList[i]? = some y := by rw [← hy]; exact Lib.data_getElem? M i (by omega)
          have hy128 : y.toNat < 128 := by rw [← hy]; exact (HM.out i (by omega)).1
          have hx256 := UInt8.toNat_lt x
          have Hx : Hid (s.data.toList[i]? = some x ∧ M.data.toList[i]? = some y) := ⟨hxl, hyl⟩
          clear hxl hyl
          by_cases hx128 : x.toNat < 128
          · have hor : bits .or .u8 (x.toNat : Int) (y.toNat : Int) = ((x.toNat ||| y.toNat : Nat) : Int) := u8_or_nat _ _ (by omega) (by omega)
            have hor128 : ¬ ((128 : Int) ≤ ((x.toNat ||| y.toNat : Nat) : Int)) := by have := Nat.or_lt_two_pow (n := 7) hx128 hy128; omega
            go_wp2
            all_goals (try simp only [beq_iff_eq, beq_eq_false_iff_ne, ne_eq] at *)
            all_goals first
              | (go_roundg g
                 case measure => omega
                 case rel => exact ⟨rfl, i + 1, by omega, by first | rfl | simp, by unfold Hid; rw [← HI.out, Lib.drop_at Hx.out.1, Lib.drop_at Hx.out.2, Lib.equalFold_yes _ _ _ _ (decide_eq_true (by omega))]⟩)
              | (simp (config := { zetaDelta := true }) only [Exit.jump]
                 go_ret
                 refine ⟨?_, Below.refl _ _⟩
                 rw [← HI.out, Lib.drop_at Hx.out.1, Lib.drop_at Hx.out.2, Lib.equalFold_no _ _ _ _ (decide_eq_false (by omega))]; rfl)
          · have hor : bits .or .u8 (x.toNat : Int) (y.toNat : Int) = ((x.toNat ||| y.toNat : Nat) : Int) := u8_or_nat _ _ (by omega) (by omega)
            have hor128 : (128 : Int) ≤ ((x.toNat ||| y.toNat : Nat) : Int) := by have := Nat.left_le_or (n := x.toNat) (m := y.toNat); omega
            have HJ : Hid (∃ x : UInt8, s.data.toList[i]? = some x ∧ 128 ≤ x.toNat) := ⟨x, Hx.out.1, by omega⟩
            go_wp2
            go_step3
            exact ⟨rfl, JumpE.mk i rfl rfl (by omega) (by omega) HJ⟩
  case pass =>
    rintro a' w' ⟨i, u, rfl, rfl, his, hiM, hx⟩
    have hfin : Hid (Lib.equalFold s.data.toList M.data.toList = false) := by
      obtain ⟨x, h1, h2⟩ := hx.out
      exact eqf_high h1 h2 ⟨_, Lib.data_getElem? M i hiM, (HM.out i hiM).1⟩
    obtain ⟨S1, M1, y, cz, W2, hS1, hM1, hy1, hy2, cz0, cz1, hM1n, hnx, hb2, hMne, hdm⟩ := eqf_pre w' his hiM hx.out HM.out
    have HD := Lib.hid (fun (W : World) (h : Below w'.heap.size w' W) => dec_any M1 y 1 W hMne (Lib.hid hdm) (HT.out.below h))
    have HS := Lib.hid (fun (q : Nat) (W : World) (h : Below w'.heap.size w' W) (hq : q < 128) => simpleFold_any q W (HF.out.below h) hq)
    have HB2 := Lib.hid hb2
    have HY2 := Lib.hid hy2
    have hM1e : ((M1.size : Int) == 0) = false := beq_eq_false_iff_ne.2 (by omega)
    obtain ⟨yz, hyz⟩ : ∃ yz : Int, (y : Int) = yz := ⟨_, rfl⟩
    have g1 : (yz == cz) = false := beq_eq_false_iff_ne.2 (by omega)
    have g2 : yz < cz := by omega
    have HYZ := Lib.hid hyz
    have HS2 : Hid (∀ (q : Nat) (qz : Int) (W : World), (q : Int) = qz → q < 128 → Below w'.heap.size w' W → Calls Tryz.prog 259 #[.int .i32 qz] W fun e w2 => e = .returned (.int .i32 (foldN q : Nat)) ∧ w2 = W) := fun q qz W e hq hb => by
      subst e
      exact HS.out q W hb hq
    have hylt : Hid (y < 128) := hy1
    rw [hyz] at HD
    clear hb2 hMne hdm hx HM HT HF hy2 hN hNs hNM hNe N hyz hy1 HS
    go_wp2_with fail
    go_loopw [1] (fun t wr => t = .string M1 ∧ wr = w'.iter S1 0) (fun _ _ => 0)
    case atStart => exact ⟨rfl, rfl⟩
    case round =>
      obtain ⟨rfl, rfl⟩ := hrel
      go_wp2_with fail
      refine (HD.out W2 HB2.out).mono ?_
      rintro e w3 ⟨rfl, b3⟩
      have B3 : Hid (Below w'.heap.size w' w3) := HB2.out.trans (b3.mono HB2.out.size)
      clear b3
      go_wp2_with fail
      refine (HS2.out y yz w3 HYZ.out hylt.out B3.out).mono ?_
      rintro e w4 ⟨rfl, rfl⟩
      rcases HY2.out with hf | ⟨hf1, hf2, hf3⟩
      · rw [hf, HYZ.out]
        go_wp2_with fail
        go_loop [13] (fun r => r = .int .i32 yz) (fun _ => 0)
        case atStart => rfl
        case round =>
          obtain rfl := hrel
          go_wp2_with fail
          simp (config := { zetaDelta := true }) only [Exit.jump]
          go_ret
          exact ⟨by rw [hfin.out]; rfl, B3.out⟩
      · obtain ⟨fz, hfz⟩ : ∃ fz : Int, ((foldN y : Nat) : Int) = fz := ⟨_, rfl⟩
        have f1 : (fz != yz) = true := bne_iff_ne.2 (by have := HYZ.out; omega)
        have f2 : fz < cz := by omega
        have HFZ := Lib.hid hfz
        have HF1 := Lib.hid hf1
        have HF2 := Lib.hid hf2
        rw [hfz]
        clear hfz hf1 hf2 hf3
        go_wp2_with fail
        go_loop [13] (fun r => r = .int .i32 yz ∨ r = .int .i32 fz) (fun r => if intOfE r = yz then 0 else 1)
        case atStart => exact .inr rfl
        case round =>
          rcases hrel with rfl | rfl
          · go_wp2_with fail
            simp (config := { zetaDelta := true }) only [Exit.jump]
            go_ret
            exact ⟨by rw [hfin.out]; rfl, B3.out⟩
          · go_wp2_with fail
            refine (HS2.out (foldN y) fz _ HFZ.out HF1.out B3.out).mono ?_
            rintro e w5 ⟨rfl, rfl⟩
            rw [HF2.out, HYZ.out]
            go_wp2_with fail
            go_round
            case rel => exact .inl rfl
            case measure => have h9 := bne_iff_ne.1 f1; simp [intOfE, h9]
theorem foldEq_up (x y : UInt8) (hy : y.toNat < 128) : Lib.foldEq x y = decide (Vc.upC x = Vc.upC y) := by
  have key : ∀ y : Fin 128, ∀ x : Fin 256, Lib.foldEq (UInt8.ofNat x.val) (UInt8.ofNat y.val) = decide (Vc.upC (UInt8.ofNat x.val) = Vc.upC (UInt8.ofNat y.val)) := by decide +kernel
  have h := key ⟨y.toNat, hy⟩ ⟨x.toNat, UInt8.toNat_lt x⟩
  simpa using h
theorem equalFold_up : ∀ (l M : List UInt8), (∀ b ∈ M, b.toNat < 128) → Lib.equalFold l M = decide (Vc.up l = Vc.up M)
  | [], [], _ => rfl
  | [], _ :: _, _ => rfl
  | _ :: _, [], _ => rfl
  | x :: l, y :: M, h => by
    have ih := equalFold_up l M (fun b hb => h b (List.mem_cons_of_mem _ hb))
    unfold Lib.equalFold
    rw [ih, foldEq_up x y (h y List.mem_cons_self), ← Bool.decide_and]
    refine decide_eq_decide.2 ?_
    show _ ↔ Vc.upC x :: Vc.up l = Vc.upC y :: Vc.up M
    rw [List.cons.injEq]
theorem Plainly.all {M : ByteArray} (h : Plainly M) : ∀ b ∈ M.data.toList, b.toNat < 128 := fun b hb => by
  obtain ⟨i, hi, e⟩ := List.mem_iff_getElem.1 hb
  have hi2 : i < M.size := by rw [Lib.size_eq]; exact hi
  have h2 := Lib.data_getElem? M i hi2
  rw [List.getElem?_eq_getElem hi, e] at h2
  have := (h i hi2).1
  rwa [← Option.some.inj h2] at this
set_option maxHeartbeats 1000000 in
/-- vcard.is -/
theorem is_any (s M : ByteArray) (w : World) (hM : Plainly M) (hT : Tabs w) (hF : Folds w) (hs : s.size < 4294967281) :
    Calls Tryz.prog 185 #[.string s, .string M] w fun e w' => e = .returned (.bool (decide (Vc.up s.data.toList = Vc.up M.data.toList))) ∧ Below w.heap.size w w' := by
  have H := eqf_any s M w hM hT hF hs
  rw [equalFold_up _ _ hM.all] at H
  have HO := Lib.hid H
  obtain ⟨b, hb⟩ : ∃ b, decide (Vc.up s.data.toList = Vc.up M.data.toList) = b := ⟨_, rfl⟩
  rw [hb] at HO ⊢
  clear H hb hM hT hF
  go_enter Tryz.func185, Tryz.ntmps185
  go_wp2_with (go_at_call 223; refine HO.out.mono ?_; rintro e w1 ⟨rfl, b1⟩)
  go_ret
  exact ⟨rfl, b1⟩
end Go.Proofs.YtfbdnaclkfmiaaaGreatDoor
