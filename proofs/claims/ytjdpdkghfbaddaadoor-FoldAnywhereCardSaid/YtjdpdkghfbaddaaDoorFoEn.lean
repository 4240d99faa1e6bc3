/-
  fold.endedRows, fold.goesOn, fold.joined: what they answer.
-/
import Derived.Test.YtjdpdkghfbaddaaDoorFoPl
import Derived.Test.YtjdpdkghfbaddaaDoorRefUn
import Derived.Test.YtjdpdkghfbaddaaDoorIdxN
namespace Go.Proofs.YtjdpdkghfbaddaaDoor
open Go.RowKit Tx

theorem hasPrefix_one (c : UInt8) (l : List UInt8) : Lib.hasPrefix l [c] = (l.head? == some c) := by
  cases l with
  | nil => rfl
  | cons a t =>
    unfold Lib.hasPrefix
    show (c == a && true) = (some a == some c)
    by_cases h : c = a
    · subst h; simp
    · have h2 : ¬ a = c := fun e => h e.symm
      have h3 : (c == a) = false := by simpa using h
      rw [h3]
      simp [h2]
theorem cont_prefix (l : List UInt8) : cont l = (Lib.hasPrefix l [32] || Lib.hasPrefix l [9]) := by
  rw [hasPrefix_one, hasPrefix_one]
  cases l with
  | nil => rfl
  | cons a t => simp [cont]
set_option maxHeartbeats 1000000 in
theorem goesOn_any (s : ByteArray) (w : World) : Calls Tryd.prog 27 #[.string s] w fun e w' => e = .returned (.bool (cont s.data.toList)) ∧ w' = w := by
  have H1 := fun (W : World) => Tryd.strings_HasPrefix s ⟨#[32]⟩ W
  have H2 := fun (W : World) => Tryd.strings_HasPrefix s ⟨#[9]⟩ W
  rw [show (⟨#[32]⟩ : ByteArray).data.toList = [32] from rfl] at H1
  rw [show (⟨#[9]⟩ : ByteArray).data.toList = [9] from rfl] at H2
  rw [cont_prefix]
  cases h1 : Lib.hasPrefix s.data.toList [32] with
  | true =>
    rw [h1] at H1
    have HO1 := Lib.hid H1
    rw [Bool.true_or]
    clear h1 H1 H2
    go_enter Tryd.func27, Tryd.ntmps27
    go_wp2_with (go_at_call 47; refine (HO1.out _).mono ?_; rintro e w1 ⟨rfl, rfl⟩)
    go_ret
    exact ⟨rfl, rfl⟩
  | false =>
    rw [h1] at H1
    have HO1 := Lib.hid H1
    have HO2 := Lib.hid H2
    rw [Bool.false_or]
    clear h1 H1 H2
    go_enter Tryd.func27, Tryd.ntmps27
    go_wp2_with fail
    refine (HO1.out _).mono ?_
    rintro e w1 ⟨rfl, rfl⟩
    go_wp2_with fail
    refine (HO2.out _).mono ?_
    rintro e w2 ⟨rfl, rfl⟩
    go_wp2_with fail
    go_ret
    exact ⟨rfl, rfl⟩
/-- Unfold's function -/
theorem unfoldFn_any (s : ByteArray) (w : World) : Calls Tryd.prog 26 #[.string s] w fun e w' => e = .returned (.bool (!cont s.data.toList)) ∧ w' = w := by
  have H := Lib.hid (goesOn_any s w)
  go_enter Tryd.func26, Tryd.ntmps26
  go_wp2_with fail
  refine H.out.mono ?_
  rintro e w1 ⟨rfl, rfl⟩
  go_wp2_with fail
  go_ret
  exact ⟨rfl, rfl⟩

theorem index_clean : ∀ l : List UInt8, (Lib.indexAny l [13, 10] = -1 ∧ clean l) ∨ (0 ≤ Lib.indexAny l [13, 10] ∧ ¬ clean l)
  | [] => .inl ⟨rfl, fun c hc => by cases hc⟩
  | b :: l => by
    by_cases h : b = 13 ∨ b = 10
    · right
      refine ⟨?_, fun hc => ?_⟩
      · unfold Lib.indexAny
        rw [if_pos (by rcases h with h | h <;> subst h <;> decide)]
        exact Int.le_refl _
      · have := hc b (by simp)
        rcases h with rfl | rfl
        · exact this.2 rfl
        · exact this.1 rfl
    · have hn : ([13, 10] : List UInt8).contains b = false := by
        have h1 : b ≠ 13 := fun e => h (.inl e)
        have h2 : b ≠ 10 := fun e => h (.inr e)
        simp [h1, h2]
      rcases index_clean l with ⟨h1, h2⟩ | ⟨h1, h2⟩
      · left
        refine ⟨?_, fun c hc => ?_⟩
        · unfold Lib.indexAny
          rw [hn, h1]
          rfl
        · rcases List.mem_cons.1 hc with rfl | hc
          · exact ⟨fun e => h (.inr e), fun e => h (.inl e)⟩
          · exact h2 c hc
      · right
        refine ⟨?_, fun hc => h2 (fun c hm => hc c (by simp [hm]))⟩
        unfold Lib.indexAny
        rw [hn]
        have : (Lib.indexAny l [13, 10] == -1) = false := by rw [beq_eq_false_iff_ne]; omega
        rw [this]
        simp
        omega
set_option maxHeartbeats 1000000 in
/-- strings.ContainsAny(s, "\\r\\n") -/
theorem hasEnd_any (s : ByteArray) (w : World) (hs : s.size < 4294967281) : Calls Tryd.prog 46 #[.string s, .string ⟨#[13, 10]⟩] w fun e w' => e = .returned (.bool (!decide (clean s.data.toList))) ∧ Below w.heap.size w w' := by
  have H := sindex_any s w hs
  obtain ⟨i, hi⟩ : ∃ i, Lib.indexAny s.data.toList [13, 10] = i := ⟨_, rfl⟩
  have hc := index_clean s.data.toList
  rw [hi] at H hc
  have HO := Lib.hid H
  have hd : (!decide (clean s.data.toList)) = decide (0 ≤ i) := by
    rcases hc with ⟨h1, h2⟩ | ⟨h1, h2⟩
    · subst h1
      simp [h2]
    · simp [h1, h2]
  rw [hd]
  clear H hi hc hd
  go_enter Tryd.func46, Tryd.ntmps46
  go_wp2_with (go_at_call 58; refine HO.out.mono ?_; rintro e w1 ⟨rfl, b1⟩)
  go_ret
  exact ⟨ret_bool rfl, b1⟩

/-- no piece is longer than the whole -/
theorem splitK_le (sep : List UInt8) : ∀ (k : Nat) (l z : List UInt8), z ∈ Lib.splitK sep 0 k l → z.length ≤ l.length
  | 0, l, z, h => by
    have : z = l := by simpa [Lib.splitK] using h
    rw [this]
    exact Nat.le_refl _
  | k + 1, l, z, h => by
    unfold Lib.splitK at h
    split at h
    · have : z = l := by simpa using h
      rw [this]
      exact Nat.le_refl _
    · rcases List.mem_cons.1 h with rfl | h
      · rw [List.length_take]; omega
      · have := splitK_le sep k _ z h
        rw [List.length_drop] at this
        omega
theorem split_le (l sep z : List UInt8) (h : z ∈ Lib.split l sep) : z.length ≤ l.length := splitK_le sep _ l z h
/-- The rows of a text without their ends, where all is right with them. -/
def Ended (sz : Nat) (w : World) (l : List UInt8) (e : Ending) (w' : World) : Prop := Below w.heap.size w w' ∧
  ((∃ rs g cap, rowsA [] l = some rs ∧ e = .returned (.tuple #[.slice (some ⟨g, 0, none⟩) rs.length cap, .bool true]) ∧ rs.length ≤ sz ∧ rs.length ≤ cap ∧ cap ≤ maxLen ∧ w.heap.size ≤ g ∧ g < w'.heap.size ∧ ∀ j x, (sts rs)[j]? = some x → w'.cell? ⟨g, j, none⟩ = some (.string x)) ∨
    (rowsA [] l = none ∧ e = .returned (.tuple #[.slice none 0 0, .bool false])))
set_option maxHeartbeats 4000000 in
set_option maxRecDepth 100000 in
theorem endedRows_any (s : ByteArray) (w : World) (hM : MaxL w) (hs : s.size < 4000000000) :
    Calls Tryd.prog 24 #[.string s] w (Ended s.size w s.data.toList) := by
  obtain ⟨mx, hmx⟩ := hM
  have HSp := Tryd.strings_Split s ⟨#[13, 10]⟩ mx w (by omega) hmx (by decide)
  have hdata := Lib.splitB_data ⟨#[13, 10]⟩ 0 (Lib.countB s ⟨#[13, 10]⟩) s
  have hcl := Lib.countB_le ⟨#[13, 10]⟩ (by decide) s.size s (Nat.le_refl _)
  have hall := Lib.splitB_all ⟨#[13, 10]⟩ (by decide) 0 _ s rfl
  obtain ⟨X, hX⟩ : ∃ X, Lib.splitB ⟨#[13, 10]⟩ 0 (Lib.countB s ⟨#[13, 10]⟩) s = X := ⟨_, rfl⟩
  have hsp : Lib.splitK (⟨#[13, 10]⟩ : ByteArray).data.toList 0 (Lib.countB s ⟨#[13, 10]⟩) s.data.toList = Lib.split s.data.toList [13, 10] := rfl
  rw [hX] at HSp hdata hall
  rw [hsp] at hdata
  obtain ⟨N, hN⟩ : ∃ N, Lib.countB s ⟨#[13, 10]⟩ = N := ⟨_, rfl⟩
  rw [hN] at HSp hall hcl
  obtain ⟨ps, x, h1, h2⟩ := split_rows s.data.toList
  rw [h1] at hdata
  have hpl : ps.length = N := by
    have := congrArg List.length hdata
    rw [List.length_map, hall, List.length_append, List.length_singleton] at this
    omega
  have hXs : X = sts (ps ++ [x]) := by
    have := congrArg sts hdata
    rw [← this]
    unfold sts
    rw [List.map_map]
    conv => lhs; rw [← List.map_id X]
    rfl
  have HX : Hid (∀ j (y : ByteArray), (sts (ps ++ [x]))[j]? = some y → (w.alloc (.cells (X.map Value.string).toArray 9)).cell? ⟨w.heap.size, j, none⟩ = some (.string y)) := fun j y hy => by
    rw [cell_of_row _ _ j _ 9 (0, 0) (heap_alloc_new w _), hXs]
    simp [hy]
  have hlen : ∀ j (y : ByteArray), (sts (ps ++ [x]))[j]? = some y → y.size ≤ s.size := fun j y hy => by
    have hm := List.mem_of_getElem? hy
    unfold sts at hm
    obtain ⟨z, hz, rfl⟩ := List.mem_map.1 hm
    have := split_le s.data.toList [13, 10] z (by rw [h1]; exact hz)
    rw [Lib.size_eq, Lib.size_eq]
    exact this
  obtain ⟨W, hW⟩ : ∃ W, w.alloc (.cells (X.map Value.string).toArray 9) = W := ⟨_, rfl⟩
  have hbW : Below w.heap.size w W := by rw [← hW]; exact (Below.refl _ _).alloc (Nat.le_refl _) _
  have hWs : W.heap.size = w.heap.size + 1 := by rw [← hW]; simp
  rw [hW] at HSp HX
  have HLn := Lib.hid hlen
  have HSO := Lib.hid HSp
  have HCl := Lib.hid (fun (y : ByteArray) (V : World) h => hasEnd_any y V h)
  obtain ⟨g, hg⟩ : ∃ g, w.heap.size = g := ⟨_, rfl⟩
  have HG := Lib.hid hg
  rw [hg] at HSO HX hbW hWs
  have H2 := Lib.hid h2
  have hel : Hid (∀ j, j ≤ N → ∃ y, (sts (ps ++ [x]))[j]? = some y) := fun j hj => ⟨_, List.getElem?_eq_getElem (by rw [sts_len, List.length_append, List.length_singleton]; omega)⟩
  have hpt : Hid (∀ j y, (sts (ps ++ [x]))[j]? = some y → j < N → ∃ p, ps[j]? = some p ∧ y.data.toList = p) := fun j y hy hj => by
    unfold sts at hy
    rw [List.getElem?_map] at hy
    obtain ⟨z, hz, rfl⟩ := Option.map_eq_some_iff.1 hy
    rw [List.getElem?_append_left (by omega)] at hz
    exact ⟨z, hz, rfl⟩
  have hlast : Hid ((sts (ps ++ [x]))[N]? = some ⟨x.toArray⟩) := by
    unfold Hid
    rw [sts_snoc, ← hpl, ← sts_len ps]
    simp
  have HPL := Lib.hid hpl
  clear HSp hdata hall hX hsp hN h1 h2 hpl hXs hlen hW hmx
  go_enter Tryd.func24, Tryd.ntmps24
  go_wp2_with fail
  refine HSO.out.mono ?_
  rintro e w1 ⟨rfl, rfl⟩
  go_wp2_with fail
  go_loopw [12] (fun at_ wr => ∃ (k : Nat), k ≤ N + 1 ∧ at_ = .int .i64 k ∧ Hid (∀ j y, j < k → (sts (ps ++ [x]))[j]? = some y → clean y.data.toList) ∧ Below (g + 1) w1 wr) (fun at_ _ => N + 1 - (intOf at_).toNat)
  case atStart => exact ⟨0, Nat.zero_le _, rfl, fun j y h => absurd h (Nat.not_lt_zero _), Below.refl _ _⟩
  case round =>
    obtain ⟨k, hk, rfl, hcln, hb⟩ := hrel
    have hsw := hb.size
    have hbg : Below g w wr := hbW.trans (hb.mono (by omega))
    by_cases hlt : k < N + 1
    · obtain ⟨y, hy⟩ := hel.out k (by omega)
      have c0 := HX.out k y hy
      rw [← hb.cell (p := ⟨g, k, none⟩) (by show g < g + 1; omega)] at c0
      have hys := HLn.out k y hy
      have HC := HCl.out y wr (by omega)
      by_cases hc : clean y.data.toList
      · have hd : (!decide (clean y.data.toList)) = false := by simp [hc]
        rw [hd] at HC
        have HCO := Lib.hid HC
        have hcln2 : Hid (∀ j y, j < k + 1 → (sts (ps ++ [x]))[j]? = some y → clean y.data.toList) := fun j y' hj hy' => by
          rcases Nat.lt_or_ge j k with h | h
          · exact hcln.out j y' h hy'
          · obtain rfl : j = k := by omega
            rw [hy] at hy'
            cases hy'
            exact hc
        clear hd HC hy hc
        go_wp2_with fail
        refine HCO.out.mono ?_
        rintro e w2 ⟨rfl, b2⟩
        go_wp2_with fail
        go_roundw
        case rel => exact ⟨k + 1, by omega, by go_num, hcln2, hb.trans (b2.mono (by omega))⟩
        case measure => simp [intOf]; omega
      · have hd : (!decide (clean y.data.toList)) = true := by simp [hc]
        rw [hd] at HC
        have HCO := Lib.hid HC
        have hno : Hid (rowsA [] s.data.toList = none) := by
          unfold Hid
          rw [H2.out, if_neg]
          rintro ⟨hall, hxe⟩
          rcases Nat.lt_or_ge k N with hkN | hkN
          · obtain ⟨p, hp, rfl⟩ := hpt.out k y hy hkN
            exact hc (hall _ (List.mem_of_getElem? hp))
          · obtain rfl : k = N := by omega
            have := hlast.out
            rw [hy] at this
            cases this
            subst hxe
            exact hc (fun c hc => by cases hc)
        clear hd HC hy hc
        go_wp2_with fail
        refine HCO.out.mono ?_
        rintro e w2 ⟨rfl, b2⟩
        go_wp2_with fail
        go_ret2
        exact ⟨by rw [HG.out]; exact hbg.trans (b2.mono (by omega)), .inr ⟨hno.out, rfl⟩⟩
    · obtain rfl : k = N + 1 := by omega
      have c0 := HX.out N _ hlast.out
      rw [← hb.cell (p := ⟨g, N, none⟩) (by show g < g + 1; omega)] at c0
      have hclean : Hid (∀ p ∈ ps, clean p) := fun p hp => by
        obtain ⟨j, hj, hjp⟩ := List.mem_iff_getElem.1 hp
        have hjN : j < N := by rw [← HPL.out]; exact hj
        obtain ⟨y, hy⟩ := hel.out j (by omega)
        obtain ⟨p', hp', hyp⟩ := hpt.out j y hy hjN
        rw [List.getElem?_eq_getElem hj, hjp] at hp'
        cases hp'
        rw [← hyp]
        exact hcln.out j y (by omega) hy
      obtain ⟨V, hV⟩ : ∃ V : ByteArray, ⟨x.toArray⟩ = V := ⟨_, rfl⟩
      rw [hV] at c0
      by_cases hx : x = []
      · have hVe : V.toList.isEmpty = true := by rw [Lib.toList_data, ← hV, hx]; rfl
        have hres : Hid (rowsA [] s.data.toList = some ps) := by unfold Hid; rw [H2.out, if_pos ⟨hclean.out, hx⟩]
        have HXk : Hid (∀ j y, (sts ps)[j]? = some y → wr.cell? ⟨g, j, none⟩ = some (.string y)) := fun j y hy => by
          rw [hb.cell (p := ⟨g, j, none⟩) (by show g < g + 1; omega)]
          refine HX.out j y ?_
          unfold sts at hy ⊢
          rw [List.map_append, List.getElem?_append_left]
          · exact hy
          · exact (List.getElem?_eq_some_iff.1 hy).1
        clear hV hx
        go_wp2_with fail
        go_ret2
        exact ⟨by rw [HG.out]; exact hbg, .inl ⟨ps, g, N + 1, hres.out, by rw [HPL.out]; rfl, by rw [HPL.out]; exact hcl, by rw [HPL.out]; exact Nat.le_succ _, by unfold maxLen; omega, by omega, by omega, HXk.out⟩⟩
      · have hVe : V.toList.isEmpty = false := by
          rw [Lib.toList_data, ← hV]
          cases x with
          | nil => exact absurd rfl hx
          | cons a t => rfl
        have hno : Hid (rowsA [] s.data.toList = none) := by unfold Hid; rw [H2.out, if_neg (fun h => hx h.2)]
        clear hV hx
        go_wp2_with fail
        go_ret2
        exact ⟨by rw [HG.out]; exact hbg, .inr ⟨hno.out, rfl⟩⟩
end Go.Proofs.YtjdpdkghfbaddaaDoor
