/- Texts laid together: FoEn FoJo FoUn -/
import Derived.Test.YtphopnfnjnieaaaGreatDoorMaxL
import Derived.Test.YtphopnfnjnieaaaGreatDoorRefFo
import Derived.Test.YtphopnfnjnieaaaGreatDoorIdxN
import Derived.Test.YtphopnfnjnieaaaGreatDoorFoCh
/-
  fold.endedRows, fold.goesOn, fold.joined: what they answer.
-/
namespace Go.Proofs.YtphopnfnjnieaaaGreatDoor
open Go.RowKit Tx

theorem hasPrefix_one (c : UInt8) (l : List UInt8) : Lib.hasPrefix l [c] = (l.head? == some c) := by
  cases l with
  | nil => rfl
  | cons a t =>
    unfold Lib.hasPrefix
    show (c == a && true) = (some a == some c)
    by_cases h : c = a
    · subst h; simp
    · have h2 : ¬ a = c := fun e => h e.symm
      have h3 : (c == a) = false := by simpa using h
      rw [h3]
      simp [h2]
theorem cont_prefix (l : List UInt8) : cont l = (Lib.hasPrefix l [32] || Lib.hasPrefix l [9]) := by
  rw [hasPrefix_one, hasPrefix_one]
  cases l with
  | nil => rfl
  | cons a t => simp [cont]
set_option maxHeartbeats 1000000 in
theorem goesOn_any (s : ByteArray) (w : World) : Calls Tryz.prog 33 #[.string s] w fun e w' => e = .returned (.bool (cont s.data.toList)) ∧ w' = w := by
  have H1 := fun (W : World) => Tryz.strings_HasPrefix s ⟨#[32]⟩ W
  have H2 := fun (W : World) => Tryz.strings_HasPrefix s ⟨#[9]⟩ W
  rw [show (⟨#[32]⟩ : ByteArray).data.toList = [32] from rfl] at H1
  rw [show (⟨#[9]⟩ : ByteArray).data.toList = [9] from rfl] at H2
  rw [cont_prefix]
  cases h1 : Lib.hasPrefix s.data.toList [32] with
  | true =>
    rw [h1] at H1
    have HO1 := Lib.hid H1
    rw [Bool.true_or]
    clear h1 H1 H2
    go_enter Tryz.func33, Tryz.ntmps33
    go_wp2_with (go_at_call 58; refine (HO1.out _).mono ?_; rintro e w1 ⟨rfl, rfl⟩)
    go_ret
    exact ⟨rfl, rfl⟩
  | false =>
    rw [h1] at H1
    have HO1 := Lib.hid H1
    have HO2 := Lib.hid H2
    rw [Bool.false_or]
    clear h1 H1 H2
    go_enter Tryz.func33, Tryz.ntmps33
    go_wp2_with fail
    refine (HO1.out _).mono ?_
    rintro e w1 ⟨rfl, rfl⟩
    go_wp2_with fail
    refine (HO2.out _).mono ?_
    rintro e w2 ⟨rfl, rfl⟩
    go_wp2_with fail
    go_ret
    exact ⟨rfl, rfl⟩
/-- Unfold's function -/
theorem unfoldFn_any (s : ByteArray) (w : World) : Calls Tryz.prog 32 #[.string s] w fun e w' => e = .returned (.bool (!cont s.data.toList)) ∧ w' = w := by
  have H := Lib.hid (goesOn_any s w)
  go_enter Tryz.func32, Tryz.ntmps32
  go_wp2_with fail
  refine H.out.mono ?_
  rintro e w1 ⟨rfl, rfl⟩
  go_wp2_with fail
  go_ret
  exact ⟨rfl, rfl⟩

theorem index_clean : ∀ l : List UInt8, (Lib.indexAny l [13, 10] = -1 ∧ clean l) ∨ (0 ≤ Lib.indexAny l [13, 10] ∧ ¬ clean l)
  | [] => .inl ⟨rfl, fun c hc => by cases hc⟩
  | b :: l => by
    by_cases h : b = 13 ∨ b = 10
    · right
      refine ⟨?_, fun hc => ?_⟩
      · unfold Lib.indexAny
        rw [if_pos (by rcases h with h | h <;> subst h <;> decide)]
        exact Int.le_refl _
      · have := hc b (by simp)
        rcases h with rfl | rfl
        · exact this.2 rfl
        · exact this.1 rfl
    · have hn : ([13, 10] : List UInt8).contains b = false := by
        have h1 : b ≠ 13 := fun e => h (.inl e)
        have h2 : b ≠ 10 := fun e => h (.inr e)
        simp [h1, h2]
      rcases index_clean l with ⟨h1, h2⟩ | ⟨h1, h2⟩
      · left
        refine ⟨?_, fun c hc => ?_⟩
        · unfold Lib.indexAny
          rw [hn, h1]
          rfl
        · rcases List.mem_cons.1 hc with rfl | hc
          · exact ⟨fun e => h (.inr e), fun e => h (.inl e)⟩
          · exact h2 c hc
      · right
        refine ⟨?_, fun hc => h2 (fun c hm => hc c (by simp [hm]))⟩
        unfold Lib.indexAny
        rw [hn]
        have : (Lib.indexAny l [13, 10] == -1) = false := by rw [beq_eq_false_iff_ne]; omega
        rw [this]
        simp
        omega
set_option maxHeartbeats 1000000 in
/-- strings.ContainsAny(s, "\\r\\n") -/
theorem hasEnd_any (s : ByteArray) (w : World) (hs : s.size < 4294967281) : Calls Tryz.prog 57 #[.string s, .string ⟨#[13, 10]⟩] w fun e w' => e = .returned (.bool (!decide (clean s.data.toList))) ∧ Below w.heap.size w w' := by
  have H := sindex_any s w hs
  obtain ⟨i, hi⟩ : ∃ i, Lib.indexAny s.data.toList [13, 10] = i := ⟨_, rfl⟩
  have hc := index_clean s.data.toList
  rw [hi] at H hc
  have HO := Lib.hid H
  have hd : (!decide (clean s.data.toList)) = decide (0 ≤ i) := by
    rcases hc with ⟨h1, h2⟩ | ⟨h1, h2⟩
    · subst h1
      simp [h2]
    · simp [h1, h2]
  rw [hd]
  clear H hi hc hd
  go_enter Tryz.func57, Tryz.ntmps57
  go_wp2_with (go_at_call 75; refine HO.out.mono ?_; rintro e w1 ⟨rfl, b1⟩)
  go_ret
  exact ⟨ret_bool rfl, b1⟩

/-- no piece is longer than the whole -/
theorem splitK_le (sep : List UInt8) : ∀ (k : Nat) (l z : List UInt8), z ∈ Lib.splitK sep 0 k l → z.length ≤ l.length
  | 0, l, z, h => by
    have : z = l := by simpa [Lib.splitK] using h
    rw [this]
    exact Nat.le_refl _
  | k + 1, l, z, h => by
    unfold Lib.splitK at h
    split at h
    · have : z = l := by simpa using h
      rw [this]
      exact Nat.le_refl _
    · rcases List.mem_cons.1 h with rfl | h
      · rw [List.length_take]; omega
      · have := splitK_le sep k _ z h
        rw [List.length_drop] at this
        omega
theorem split_le (l sep z : List UInt8) (h : z ∈ Lib.split l sep) : z.length ≤ l.length := splitK_le sep _ l z h
/-- The rows of a text without their ends, where all is right with them. -/
def Ended (sz : Nat) (w : World) (l : List UInt8) (e : Ending) (w' : World) : Prop := Below w.heap.size w w' ∧
  ((∃ rs g cap, rowsA [] l = some rs ∧ e = .returned (.tuple #[.slice (some ⟨g, 0, none⟩) rs.length cap, .bool true]) ∧ rs.length ≤ sz ∧ rs.length ≤ cap ∧ cap ≤ maxLen ∧ w.heap.size ≤ g ∧ g < w'.heap.size ∧ ∀ j x, (sts rs)[j]? = some x → w'.cell? ⟨g, j, none⟩ = some (.string x)) ∨
    (rowsA [] l = none ∧ e = .returned (.tuple #[.slice none 0 0, .bool false])))
set_option maxHeartbeats 4000000 in
set_option maxRecDepth 100000 in
theorem endedRows_any (s : ByteArray) (w : World) (hM : MaxL w) (hs : s.size < 4000000000) :
    Calls Tryz.prog 30 #[.string s] w (Ended s.size w s.data.toList) := by
  obtain ⟨mx, hmx⟩ := hM
  have HSp := Tryz.strings_Split s ⟨#[13, 10]⟩ mx w (by omega) hmx (by decide)
  have hdata := Lib.splitB_data ⟨#[13, 10]⟩ 0 (Lib.countB s ⟨#[13, 10]⟩) s
  have hcl := Lib.countB_le ⟨#[13, 10]⟩ (by decide) s.size s (Nat.le_refl _)
  have hall := Lib.splitB_all ⟨#[13, 10]⟩ (by decide) 0 _ s rfl
  obtain ⟨X, hX⟩ : ∃ X, Lib.splitB ⟨#[13, 10]⟩ 0 (Lib.countB s ⟨#[13, 10]⟩) s = X := ⟨_, rfl⟩
  have hsp : Lib.splitK (⟨#[13, 10]⟩ : ByteArray).data.toList 0 (Lib.countB s ⟨#[13, 10]⟩) s.data.toList = Lib.split s.data.toList [13, 10] := rfl
  rw [hX] at HSp hdata hall
  rw [hsp] at hdata
  obtain ⟨N, hN⟩ : ∃ N, Lib.countB s ⟨#[13, 10]⟩ = N := ⟨_, rfl⟩
  rw [hN] at HSp hall hcl
  obtain ⟨ps, x, h1, h2⟩ := split_rows s.data.toList
  rw [h1] at hdata
  have hpl : ps.length = N := by
    have := congrArg List.length hdata
    rw [List.length_map, hall, List.length_append, List.length_singleton] at this
    omega
  have hXs : X = sts (ps ++ [x]) := by
    have := congrArg sts hdata
    rw [← this]
    unfold sts
    rw [List.map_map]
    conv => lhs; rw [← List.map_id X]
    rfl
  have HX : Hid (∀ j (y : ByteArray), (sts (ps ++ [x]))[j]? = some y → (w.alloc (.cells (X.map Value.string).toArray 9)).cell? ⟨w.heap.size, j, none⟩ = some (.string y)) := fun j y hy => by
    rw [cell_of_row _ _ j _ 9 (0, 0) (heap_alloc_new w _), hXs]
    simp [hy]
  have hlen : ∀ j (y : ByteArray), (sts (ps ++ [x]))[j]? = some y → y.size ≤ s.size := fun j y hy => by
    have hm := List.mem_of_getElem? hy
    unfold sts at hm
    obtain ⟨z, hz, rfl⟩ := List.mem_map.1 hm
    have := split_le s.data.toList [13, 10] z (by rw [h1]; exact hz)
    rw [Lib.size_eq, Lib.size_eq]
    exact this
  obtain ⟨W, hW⟩ : ∃ W, w.alloc (.cells (X.map Value.string).toArray 9) = W := ⟨_, rfl⟩
  have hbW : Below w.heap.size w W := by rw [← hW]; exact (Below.refl _ _).alloc (Nat.le_refl _) _
  have hWs : W.heap.size = w.heap.size + 1 := by rw [← hW]; simp
  rw [hW] at HSp HX
  have HLn := Lib.hid hlen
  have HSO := Lib.hid HSp
  have HCl := Lib.hid (fun (y : ByteArray) (V : World) h => hasEnd_any y V h)
  obtain ⟨g, hg⟩ : ∃ g, w.heap.size = g := ⟨_, rfl⟩
  have HG := Lib.hid hg
  rw [hg] at HSO HX hbW hWs
  have H2 := Lib.hid h2
  have hel : Hid (∀ j, j ≤ N → ∃ y, (sts (ps ++ [x]))[j]? = some y) := fun j hj => ⟨_, List.getElem?_eq_getElem (by rw [sts_len, List.length_append, List.length_singleton]; omega)⟩
  have hpt : Hid (∀ j y, (sts (ps ++ [x]))[j]? = some y → j < N → ∃ p, ps[j]? = some p ∧ y.data.toList = p) := fun j y hy hj => by
    unfold sts at hy
    rw [List.getElem?_map] at hy
    obtain ⟨z, hz, rfl⟩ := Option.map_eq_some_iff.1 hy
    rw [List.getElem?_append_left (by omega)] at hz
    exact ⟨z, hz, rfl⟩
  have hlast : Hid ((sts (ps ++ [x]))[N]? = some ⟨x.toArray⟩) := by
    unfold Hid
    rw [sts_snoc, ← hpl, ← sts_len ps]
    simp
  have HPL := Lib.hid hpl
  clear HSp hdata hall hX hsp hN h1 h2 hpl hXs hlen hW hmx
  go_enter Tryz.func30, Tryz.ntmps30
  go_wp2_with fail
  refine HSO.out.mono ?_
  rintro e w1 ⟨rfl, rfl⟩
  go_wp2_with fail
  go_loopw [12] (fun at_ wr => ∃ (k : Nat), k ≤ N + 1 ∧ at_ = .int .i64 k ∧ Hid (∀ j y, j < k → (sts (ps ++ [x]))[j]? = some y → clean y.data.toList) ∧ Below (g + 1) w1 wr) (fun at_ _ => N + 1 - (intOf at_).toNat)
  case atStart => exact ⟨0, Nat.zero_le _, rfl, fun j y h => absurd h (Nat.not_lt_zero _), Below.refl _ _⟩
  case round =>
    obtain ⟨k, hk, rfl, hcln, hb⟩ := hrel
    have hsw := hb.size
    have hbg : Below g w wr := hbW.trans (hb.mono (by omega))
    by_cases hlt : k < N + 1
    · obtain ⟨y, hy⟩ := hel.out k (by omega)
      have c0 := HX.out k y hy
      rw [← hb.cell (p := ⟨g, k, none⟩) (by show g < g + 1; omega)] at c0
      have hys := HLn.out k y hy
      have HC := HCl.out y wr (by omega)
      by_cases hc : clean y.data.toList
      · have hd : (!decide (clean y.data.toList)) = false := by simp [hc]
        rw [hd] at HC
        have HCO := Lib.hid HC
        have hcln2 : Hid (∀ j y, j < k + 1 → (sts (ps ++ [x]))[j]? = some y → clean y.data.toList) := fun j y' hj hy' => by
          rcases Nat.lt_or_ge j k with h | h
          · exact hcln.out j y' h hy'
          · obtain rfl : j = k := by omega
            rw [hy] at hy'
            cases hy'
            exact hc
        clear hd HC hy hc
        go_wp2_with fail
        refine HCO.out.mono ?_
        rintro e w2 ⟨rfl, b2⟩
        go_wp2_with fail
        go_roundw
        case rel => exact ⟨k + 1, by omega, by go_num, hcln2, hb.trans (b2.mono (by omega))⟩
        case measure => simp [intOf]; omega
      · have hd : (!decide (clean y.data.toList)) = true := by simp [hc]
        rw [hd] at HC
        have HCO := Lib.hid HC
        have hno : Hid (rowsA [] s.data.toList = none) := by
          unfold Hid
          rw [H2.out, if_neg]
          rintro ⟨hall, hxe⟩
          rcases Nat.lt_or_ge k N with hkN | hkN
          · obtain ⟨p, hp, rfl⟩ := hpt.out k y hy hkN
            exact hc (hall _ (List.mem_of_getElem? hp))
          · obtain rfl : k = N := by omega
            have := hlast.out
            rw [hy] at this
            cases this
            subst hxe
            exact hc (fun c hc => by cases hc)
        clear hd HC hy hc
        go_wp2_with fail
        refine HCO.out.mono ?_
        rintro e w2 ⟨rfl, b2⟩
        go_wp2_with fail
        go_ret2
        exact ⟨by rw [HG.out]; exact hbg.trans (b2.mono (by omega)), .inr ⟨hno.out, rfl⟩⟩
    · obtain rfl : k = N + 1 := by omega
      have c0 := HX.out N _ hlast.out
      rw [← hb.cell (p := ⟨g, N, none⟩) (by show g < g + 1; omega)] at c0
      have hclean : Hid (∀ p ∈ ps, clean p) := fun p hp => by
        obtain ⟨j, hj, hjp⟩ := List.mem_iff_getElem.1 hp
        have hjN : j < N := by rw [← HPL.out]; exact hj
        obtain ⟨y, hy⟩ := hel.out j (by omega)
        obtain ⟨p', hp', hyp⟩ := hpt.out j y hy hjN
        rw [List.getElem?_eq_getElem hj, hjp] at hp'
        cases hp'
        rw [← hyp]
        exact hcln.out j y (by omega) hy
      obtain ⟨V, hV⟩ : ∃ V : ByteArray, ⟨x.toArray⟩ = V := ⟨_, rfl⟩
      rw [hV] at c0
      by_cases hx : x = []
      · have hVe : V.toList.isEmpty = true := by rw [Lib.toList_data, ← hV, hx]; rfl
        have hres : Hid (rowsA [] s.data.toList = some ps) := by unfold Hid; rw [H2.out, if_pos ⟨hclean.out, hx⟩]
        have HXk : Hid (∀ j y, (sts ps)[j]? = some y → wr.cell? ⟨g, j, none⟩ = some (.string y)) := fun j y hy => by
          rw [hb.cell (p := ⟨g, j, none⟩) (by show g < g + 1; omega)]
          refine HX.out j y ?_
          unfold sts at hy ⊢
          rw [List.map_append, List.getElem?_append_left]
          · exact hy
          · exact (List.getElem?_eq_some_iff.1 hy).1
        clear hV hx
        go_wp2_with fail
        go_ret2
        exact ⟨by rw [HG.out]; exact hbg, .inl ⟨ps, g, N + 1, hres.out, by rw [HPL.out]; rfl, by rw [HPL.out]; exact hcl, by rw [HPL.out]; exact Nat.le_succ _, by unfold maxLen; omega, by omega, by omega, HXk.out⟩⟩
      · have hVe : V.toList.isEmpty = false := by
          rw [Lib.toList_data, ← hV]
          cases x with
          | nil => exact absurd rfl hx
          | cons a t => rfl
        have hno : Hid (rowsA [] s.data.toList = none) := by unfold Hid; rw [H2.out, if_neg (fun h => hx h.2)]
        clear hV hx
        go_wp2_with fail
        go_ret2
        exact ⟨by rw [HG.out]; exact hbg, .inr ⟨hno.out, rfl⟩⟩
end Go.Proofs.YtphopnfnjnieaaaGreatDoor
/-
  fold.joined, fold.Unfold: what they answer.
-/
namespace Go.Proofs.YtphopnfnjnieaaaGreatDoor
open Go.RowKit Tx

theorem jn_take {xs : List ByteArray} {y : ByteArray} {k : Nat} (h : xs[k]? = some y) (hk : 1 ≤ k) : jn (btl (xs.take (k + 1))) = jn (btl (xs.take k)) ++ y.data.toList.tail := by
  rw [List.take_add_one, h]
  have hne : btl (xs.take k) ≠ [] := by
    intro e
    have := congrArg List.length e
    have hl := (List.getElem?_eq_some_iff.1 h).1
    unfold btl at this
    rw [List.length_map, List.length_take, List.length_nil] at this
    omega
  have : btl (xs.take k ++ [y]) = btl (xs.take k) ++ [y.data.toList] := by simp [btl]
  rw [show (some y).toList = [y] from rfl, this, jn_snoc hne]
theorem jn_size : ∀ xs : List ByteArray, (jn (btl xs)).length ≤ bulk xs
  | [] => by simp [btl, jn]
  | x :: t => by
    have h : ∀ t : List ByteArray, ((btl t).flatMap List.tail).length ≤ bulk t := by
      intro t
      induction t with
      | nil => simp [btl]
      | cons a t ih =>
        simp only [btl, bulk, List.map_cons, List.flatMap_cons, List.length_append, List.length_tail, List.sum_cons] at ih ⊢
        have := Lib.size_eq a
        omega
    have h2 := h t
    have := Lib.size_eq x
    simp only [btl, jn, bulk, List.map_cons, List.length_append, List.sum_cons] at h2 ⊢
    omega

set_option maxHeartbeats 4000000 in
set_option maxRecDepth 100000 in
theorem joined_any (g o cap n : Nat) (xs : List ByteArray) (w : World) (hg : g < w.heap.size) (hx : ∀ j x, xs[j]? = some x → w.cell? ⟨g, o + j, none⟩ = some (.string x)) (hn : xs.length = n) (h1 : 1 ≤ n) (hcap : n ≤ cap) (hcap2 : cap ≤ maxLen)
    (hne : ∀ j x, 1 ≤ j → xs[j]? = some x → 1 ≤ x.size) (hb : bulk xs < 100000000) :
    Calls Tryz.prog 34 #[.slice (some ⟨g, o, none⟩) n cap] w fun e w' => e = .returned (.string ⟨(jn (btl xs)).toArray⟩) ∧ Below w.heap.size w w' := by
  unfold maxLen at hcap2
  have hlen := bulk_len xs
  have B0 := Bld.start w
  have D0 : Below w.heap.size w (w.alloc (.cells #[.pointer none, .slice none 0 0] 83)) := (Below.refl _ _).alloc (Nat.le_refl _) _
  obtain ⟨x0, hx0⟩ : ∃ x0, xs[0]? = some x0 := ⟨_, List.getElem?_eq_getElem (by omega)⟩
  have c0 := hx 0 x0 hx0
  rw [Nat.add_zero] at c0
  have hx0s := bulk_one hx0
  obtain ⟨b, hb'⟩ : ∃ b, w.heap.size = b := ⟨_, rfl⟩
  rw [hb'] at B0 D0 hg
  have c1 := c0
  rw [← D0.cell (p := ⟨g, o, none⟩) hg] at c1
  have HB := Lib.hid hb'
  have HX := Lib.hid hx
  have HNE := Lib.hid hne
  have HW0 := Lib.hid (fun (W : World) h => bld_string b (b + 1) [] x0 W h (by simp; omega))
  have HFirst : Hid (jn (btl (xs.take 1)) = [] ++ x0.data.toList) := by
    unfold Hid
    rw [List.take_one, List.head?_eq_getElem?, hx0]
    simp [btl, jn]
  have HLn := Lib.hid (fun (k : Nat) (h : k < n) => (⟨xs[k], List.getElem?_eq_getElem (by omega)⟩ : ∃ x, xs[k]? = some x))
  have HN := Lib.hid hn
  rw [hn] at hlen
  clear hx hne hx0 hn
  go_enter Tryz.func34, Tryz.ntmps34
  go_wp2_with fail
  refine (HW0.out _ B0).mono ?_
  rintro e w1 ⟨rfl, bl1, t1⟩
  have d1 : Below b w w1 := D0.trans t1.below
  clear B0 D0 t1 c0 c1
  by_cases hc1 : cap = 1
  · obtain rfl : n = 1 := by omega
    subst hc1
    have hall : xs.take 1 = xs := List.take_of_length_le (by rw [HN.out]; exact Nat.le_refl _)
    have bl2 : Bld b (b + 1) (jn (btl xs)) w1 := by rw [← hall, HFirst.out]; exact bl1
    have HS := Lib.hid (bld_String b (b + 1) _ w1 bl2)
    clear hall bl1
    go_wp2_with fail
    go_loopw [13] (fun at_ wr => at_ = .int .i64 0 ∧ wr = w1) (fun _ _ => 0)
    case atStart => exact ⟨rfl, rfl⟩
    case round =>
      obtain ⟨rfl, rfl⟩ := hrel
      go_wp2_with fail
      refine HS.out.mono ?_
      rintro e w5 ⟨rfl, b5⟩
      go_wp2_with fail
      go_ret
      exact ⟨rfl, by rw [HB.out]; exact d1.trans b5⟩
  · go_wp2_with fail
    go_loopw [13] (fun at_ wr => ∃ (k : Nat), k + 1 ≤ n ∧ at_ = .int .i64 k ∧ Bld b (b + 1) (jn (btl (xs.take (k + 1)))) wr ∧ Below b w wr) (fun at_ _ => n - (intOf at_).toNat)
    case atStart => exact ⟨0, h1, rfl, by rw [HFirst.out]; exact bl1, d1⟩
    case round =>
      obtain ⟨k, hk, rfl, hbld, hbw⟩ := hrel
      have hsw := hbw.size
      by_cases hlt : k + 1 < n
      · obtain ⟨y, hy⟩ := HLn.out (k + 1) hlt
        have c0 := HX.out (k + 1) y hy
        rw [← hbw.cell (p := ⟨g, o + (k + 1), none⟩) hg] at c0
        rw [show o + (k + 1) = o + 1 + k by omega] at c0
        have hy1 := HNE.out (k + 1) y (by omega) hy
        have hys := bulk_one hy
        have hnx := Lib.hid (jn_take hy (by omega))
        have hol : (jn (btl (xs.take (k + 1)))).length ≤ 100000000 := by
          have e1 := jn_size (xs.take (k + 1))
          have e2 := bulk_take xs (k + 1)
          omega
        have htl : Hid ((y.extract 1 y.size).data.toList = y.data.toList.tail) := by unfold Hid; rw [Lib.extract_to_end, List.drop_one]
        have hts : (y.extract 1 y.size).size ≤ y.size := by rw [ByteArray.size_extract]; omega
        obtain ⟨out, hout⟩ : ∃ out, jn (btl (xs.take (k + 1))) = out := ⟨_, rfl⟩
        rw [hout] at hbld hnx hol
        have HW := Lib.hid (fun (W : World) h => bld_string b (b + 1) out (y.extract 1 y.size) W h (by omega))
        clear hout hts hy
        go_wp2_with fail
        refine (HW.out _ hbld).mono ?_
        rintro e w3 ⟨rfl, bl3, t3⟩
        go_wp2_with fail
        go_roundw
        case rel => exact ⟨k + 1, by omega, by go_num, by rw [hnx.out, ← htl.out]; exact bl3, hbw.trans t3.below⟩
        case measure => simp [intOf]; omega
      · have hall : xs.take (k + 1) = xs := List.take_of_length_le (by rw [HN.out]; omega)
        rw [hall] at hbld
        have HS := Lib.hid (bld_String b (b + 1) _ wr hbld)
        clear hall
        go_wp2_with fail
        refine HS.out.mono ?_
        rintro e w5 ⟨rfl, b5⟩
        go_wp2_with fail
        go_ret
        exact ⟨rfl, by rw [HB.out]; exact hbw.trans b5⟩
end Go.Proofs.YtphopnfnjnieaaaGreatDoor
/-
  fold.Unfold: what it answers, at every string.
-/
namespace Go.Proofs.YtphopnfnjnieaaaGreatDoor
open Go.RowKit Tx

/-- nothing turns below C where block b is as it was -/
theorem Btw.whole {b C : Nat} {w w' : World} (h : Btw b C w w') (hb : w'.heap[b]? = w.heap[b]?) : Below C w w' :=
  ⟨h.below.os, h.below.tape, h.below.output, h.below.size, fun g hg => by
    rcases Nat.lt_trichotomy g b with h1 | h1 | h1
    · exact h.below.block g h1
    · subst h1; exact hb
    · exact h.mid g h1 hg⟩
theorem jnL (R : List (List UInt8)) (x : Nat × Nat) : jn (btl (piece2 (sts R) x)) = jn (piece2 R x) := by
  have : btl (piece2 (sts R) x) = piece2 R x := by
    unfold btl sts
    rw [piece2_map, List.map_map]
    conv => rhs; rw [← List.map_id R]
    rfl
  rw [this]
/-- what is gathered begins with a part that opens it; all others go on -/
theorem gat_goes : ∀ (rs : List (List UInt8)) (cur : List (List UInt8)), (∀ j x, 1 ≤ j → cur[j]? = some x → cont x = true) → ∀ P ∈ gat cur rs (starts rs), ∀ j x, 1 ≤ j → P[j]? = some x → cont x = true
  | [], cur, h, P, hP, j, x, hj, hx => by
    rw [gat_nil] at hP
    obtain rfl : P = cur := by simpa using hP
    exact h j x hj hx
  | r :: t, cur, h, P, hP, j, x, hj, hx => by
    unfold starts at hP
    rw [List.map_cons] at hP
    cases hc : cont r with
    | true =>
      rw [hc, Bool.not_true, gat_false] at hP
      refine gat_goes t (cur ++ [r]) (fun j x hj hx => ?_) P hP j x hj hx
      rcases Nat.lt_or_ge j cur.length with h1 | h1
      · rw [List.getElem?_append_left h1] at hx
        exact h j x hj hx
      · rw [List.getElem?_append_right h1] at hx
        have hx2 := List.mem_of_getElem? hx
        obtain rfl : x = r := by simpa using hx2
        exact hc
    | false =>
      rw [hc, Bool.not_false, gat_true] at hP
      rcases List.mem_cons.1 hP with rfl | hP
      · exact h j x hj hx
      · refine gat_goes t [r] (fun j x hj hx => ?_) P hP j x hj hx
        rw [List.getElem?_eq_none (by simpa using hj)] at hx
        cases hx
theorem cont_size {x : List UInt8} (h : cont x = true) : 1 ≤ x.length := by
  cases x with
  | nil => cases h
  | cons a t => simp
/-- a part that is not the first one is not empty -/
theorem ivs_first : ∀ (bs : List Bool) (o k : Nat), ∃ e t, ivs o k bs = (o, e) :: t ∧ k ≤ e ∧ ∀ x ∈ t, x.1 < x.2
  | [], o, k => ⟨k, [], rfl, Nat.le_refl _, fun x hx => by cases hx⟩
  | b :: bs, o, k => by
    cases b with
    | true =>
      obtain ⟨e, t, h1, h2, h3⟩ := ivs_first bs k (k + 1)
      refine ⟨k, ivs k (k + 1) bs, rfl, Nat.le_refl _, fun x hx => ?_⟩
      rw [h1] at hx
      rcases List.mem_cons.1 hx with rfl | hx
      · exact h2
      · exact h3 x hx
    | false =>
      obtain ⟨e, t, h1, h2, h3⟩ := ivs_first bs o (k + 1)
      exact ⟨e, t, h1, by omega, h3⟩
theorem bulk_piece (xs : List ByteArray) (x : Nat × Nat) : bulk (piece2 xs x) ≤ bulk xs := by
  have h1 := bulk_take (xs.drop x.1) (x.2 - x.1)
  have h2 : bulk xs = bulk (xs.take x.1) + bulk (xs.drop x.1) := by
    conv => lhs; rw [← List.take_append_drop x.1 xs]
    unfold bulk
    rw [List.map_append, List.sum_append]
  unfold piece2
  omega
theorem ends_bulk : ∀ rs : List (List UInt8), bulk (sts rs) ≤ 2 * (ends rs).length
  | [] => by simp [sts, bulk]
  | r :: t => by
    have ih := ends_bulk t
    have h := Lib.size_eq ⟨r.toArray⟩
    rw [ends_cons]
    simp only [sts, bulk, List.map_cons, List.sum_cons, List.length_append, List.length_cons] at ih h ⊢
    omega
/-- rows with their ends are the text -/
theorem rowsA_back : ∀ (n : Nat) (l cur : List UInt8) (rs : List (List UInt8)), l.length ≤ n → rowsA cur l = some rs → ends rs = cur ++ l
  | n, [], cur, rs, _, h => by
    rw [rowsA_nil] at h
    by_cases hc : cur = []
    · rw [if_pos hc] at h
      obtain rfl : [] = rs := Option.some.inj h
      rw [hc]; rfl
    · rw [if_neg hc] at h; cases h
  | 0, _ :: _, _, _, h, _ => by simp at h
  | n + 1, c :: t, cur, rs, hn, h => by
    by_cases h1 : c = 10
    · subst h1; rw [rowsA_10] at h; cases h
    by_cases h2 : c = 13
    · subst h2
      cases t with
      | nil => rw [rowsA_13] at h; cases h
      | cons d u =>
        by_cases hd : d = 10
        · subst hd
          rw [rowsA_end] at h
          cases hr : rowsA [] u with
          | none => rw [hr] at h; cases h
          | some q =>
            rw [hr] at h
            obtain rfl : cur :: q = rs := Option.some.inj h
            rw [ends_cons, rowsA_back n u [] q (by simp at hn; omega) hr]
            simp
        · rw [rowsA_13x _ _ hd] at h; cases h
    · rw [rowsA_on _ _ h1 h2] at h
      rw [rowsA_back n t _ rs (by simpa using hn) h]
      simp

set_option maxHeartbeats 4000000 in
set_option maxRecDepth 100000 in
theorem unfold_any (s : ByteArray) (w : World) (hT : Tabs w) (hM : MaxL w) (hs : s.size < 1000000000) :
    Calls Tryz.prog 15 #[.string s] w (Unfolded w.heap.size w s.data.toList) := by
  have hsz := Lib.hid (Lib.size_eq s)
  by_cases hbig : 20000 < s.size
  · have HF := Lib.hid (unfA_big (l := s.data.toList) (by rw [← hsz.out]; exact hbig))
    go_enter Tryz.func15, Tryz.ntmps15
    go_wp2_with fail
    go_ret2
    exact Unfolded.err HF.out (Below.refl _ _)
  have hnb : ¬ 20000 < s.data.toList.length := by rw [← hsz.out]; exact hbig
  have HV := Lib.hid (valid_any s w hT (by omega))
  cases hv : valid s.data.toList with
  | false =>
    rw [hv] at HV
    have HF := Lib.hid (unfA_utf hnb hv)
    clear hv hnb
    go_enter Tryz.func15, Tryz.ntmps15
    go_wp2_with fail
    refine HV.out.mono ?_
    rintro e w1 ⟨rfl, b1⟩
    go_wp2_with fail
    go_ret2
    exact Unfolded.err HF.out b1
  | true =>
    rw [hv] at HV
    have HNone := Lib.hid (fun h => unfA_line hnb hv h)
    have HSome := Lib.hid (fun m h => unfA_ok (m := m) hnb hv h)
    have HE := Lib.hid (fun (W : World) h => endedRows_any s W h (by omega))
    have HMb := Lib.hid (fun (W : World) (h : Below w.heap.size w W) => hM.below h)
    have hM0 : 5 < w.heap.size := by obtain ⟨m, hm⟩ := hM; exact World.block_lt_of_cell? _ _ hm
    have HJn := Lib.hid joined_any
    clear hv hnb hM
    go_enter Tryz.func15, Tryz.ntmps15
    go_wp2_with fail
    refine HV.out.mono ?_
    rintro e w1 ⟨rfl, b1⟩
    have hs1 := b1.size
    go_wp2_with fail
    refine (HE.out w1 (HMb.out w1 b1)).mono ?_
    rintro e w2 ⟨b2, hcase⟩
    have hs2 := b2.size
    have bb2 : Below w.heap.size w w2 := b1.trans (b2.mono hs1)
    rcases hcase with ⟨rs, g, cap, hrs, rfl, hl1, hl2, hl3, hg1, hg2, hcells⟩ | ⟨hrs, rfl⟩
    case' inr =>
      have HF := Lib.hid (HNone.out (by unfold Tx.unfold; rw [hrs]; rfl))
      clear hrs
      go_wp2_with fail
      go_ret2
      exact Unfolded.err HF.out bb2
    have hun : Tx.unfold s.data.toList = linesA [] rs := by unfold Tx.unfold; rw [hrs]; rfl
    have hbk : bulk (sts rs) ≤ 100000 := by
      have h1 := ends_bulk rs
      have h2 := rowsA_back _ _ _ _ (Nat.le_refl _) hrs
      rw [h2, List.nil_append, ← hsz.out] at h1
      omega
    have hgl : (starts rs).length = rs.length := List.length_map _
    have hgi := gat_all rs (starts rs) hgl.symm
    have hgo := gat_goes rs [] (fun j x _ hx => by simp at hx)
    rw [hgi] at hgo
    have hhd := fun h t (e : gat [] rs (starts rs) = h :: t) => linesA_hd e
    rw [hgi] at hhd
    obtain ⟨e0, T, hi1, hi2, hi3⟩ := ivs_first (starts rs) 0 0
    have hok := ivs_ok (starts rs) 0 0 (Nat.le_refl _)
    have hil := (ivs_len (starts rs) 0 0).2
    rw [hgl] at hil
    rw [hi1] at hhd hgo hok hil
    have hres := hhd _ _ rfl
    rw [List.map_cons] at hgo
    have HGx := gatherU_any g cap rs.length 5 w2.heap.size (sts rs) (starts rs) (fun _ W => W.heap[5]? = w2.heap[5]?) w2 (Nat.le_refl _) (by omega) hg2 (by omega) hcells (sts_len rs) hgl hl2 hl3 (by omega) rfl
      (fun k W W' h1 h2 => h1.trans h2)
      (fun k x B W hx hB hI hCW _ => by
        unfold sts at hx
        rw [List.getElem?_map] at hx
        obtain ⟨c, hc, rfl⟩ := Option.map_eq_some_iff.1 hx
        have hBe : B = !cont c := by
          unfold starts at hB
          rw [List.getElem?_map, hc] at hB
          exact (Option.some.inj hB).symm
        refine (unfoldFn_any ⟨c.toArray⟩ W).mono fun e W' ⟨h1, h2⟩ => ?_
        subst h2
        exact ⟨by rw [h1, hBe], hI, grown_self _ _⟩)
    rw [hi1] at HGx
    have HG := Lib.hid HGx
    have HC := Lib.hid hcells
    have HUN := Lib.hid hun
    have HRES := Lib.hid hres
    have HGO := Lib.hid hgo
    have HOK := Lib.hid hok
    clear HGx hcells hun hres hgo hok hhd hgi hgl hrs HE HV
    go_wp2_with fail
    refine HG.out.mono ?_
    rintro e w3 ⟨v, rfl, ⟨g3, cap3, rfl, hr1, hr2, hr3, hr4⟩, hI3, t3⟩
    have b3 := t3.whole hI3
    have hs3 := b3.size
    have bb3 : Below w.heap.size w w3 := bb2.trans (b3.mono (by omega))
    have c0 := hr4 0 (0, e0) rfl
    obtain ⟨hok1, hok2⟩ := HOK.out (0, e0) (by simp)
    rw [Nat.zero_add] at hok2
    unfold slv at c0
    simp only [Nat.sub_zero] at c0
    have HR4 := Lib.hid hr4
    clear hr4 t3 hI3
    by_cases he0 : e0 = 0
    case' neg =>
      have HF := Lib.hid (HNone.out (by rw [HUN.out, HRES.out, if_neg]; intro h; have hls : (starts rs).length = rs.length := List.length_map _; have := piece2_len rs (0, e0) (Nat.zero_le _) (by omega); rw [h] at this; simp at this; omega))
      go_wp2_with fail
      go_ret2
      exact Unfolded.err HF.out bb3
    subst he0
    have hlines : Tx.unfold s.data.toList = some ((T.map (piece2 rs)).map jn) := by
      rw [HUN.out, HRES.out, if_pos]
      unfold piece2
      simp
    have HF := Lib.hid (HSome.out _ hlines)
    have hLl : ((T.map (piece2 rs)).map jn).length = T.length := by rw [List.length_map, List.length_map]
    have hLg : Hid (∀ (k : Nat) (x : Nat × Nat), T[k]? = some x → (sts ((T.map (piece2 rs)).map jn))[k]? = some ⟨(jn (piece2 rs x)).toArray⟩) := fun k x hx => by
      unfold sts
      rw [List.getElem?_map, List.getElem?_map, List.getElem?_map, hx]
      rfl
    have hTn : Hid (∀ (k : Nat) (x : Nat × Nat), T[k]? = some x → x.1 < x.2 ∧ x.2 ≤ rs.length) := fun k x hx => by
      have hm := List.mem_of_getElem? hx
      have h2 := (HOK.out x (List.mem_cons_of_mem _ hm)).2
      have hls : (starts rs).length = rs.length := List.length_map _
      exact ⟨hi3 x hm, by omega⟩
    have hTg : Hid (∀ (k : Nat) (x : Nat × Nat), T[k]? = some x → ∀ j y, 1 ≤ j → (piece2 rs x)[j]? = some y → 1 ≤ y.length) := fun k x hx j y hj hy => by
      have hm := List.mem_of_getElem? hx
      exact cont_size (HGO.out _ (List.mem_cons_of_mem _ (List.mem_map_of_mem hm)) j y hj hy)
    have hcl3 : Hid (∀ j x, (sts rs)[j]? = some x → w3.cell? ⟨g, j, none⟩ = some (.string x)) := fun j x hx => by
      rw [b3.cell (p := ⟨g, j, none⟩) hg2]
      exact HC.out j x hx
    obtain ⟨LL, hLL⟩ : ∃ LL, sts ((T.map (piece2 rs)).map jn) = LL := ⟨_, rfl⟩
    have hLLl : LL.length = T.length := by rw [← hLL, sts_len]; exact hLl
    have HLL := Lib.hid hLL
    rw [hLL] at hLg
    obtain ⟨C4, hC4⟩ : ∃ C4, w3.heap.size = C4 := ⟨_, rfl⟩
    rw [hC4] at hr3
    rw [List.length_cons] at hr1 hil ⊢
    clear hlines hLl hLL hi1 hi3 b3 hok1 hok2 HG HRES HUN HGO HOK HC
    by_cases hc3 : cap3 = 1
    · obtain rfl : T = [] := List.eq_nil_of_length_eq_zero (by omega)
      have hLe : Hid (LL = []) := List.eq_nil_of_length_eq_zero hLLl
      subst hc3
      simp only [List.length_nil, Nat.zero_add]
      go_wp2_with fail
      go_loopw [7, 33] (fun lv at_ wr => lv = .slice none 0 0 ∧ at_ = .int .i64 0 ∧ wr = w3) (fun _ _ _ => 0)
      case atStart => exact ⟨rfl, rfl, rfl⟩
      case round =>
        obtain ⟨rfl, rfl, rfl⟩ := hrel
        go_wp2_with fail
        go_ret2
        refine Unfolded.good HF.out ?_ bb3
        rw [HLL.out, hLe.out]
        exact ReadT.nil _ _ _
    · go_wp2_with fail
      go_loopw [7, 33] (fun lv at_ wr => ∃ (k : Nat) (v : Value), lv = v ∧ at_ = .int .i64 k ∧ k ≤ T.length ∧ Hid (OwnT C4 wr v (LL.take k)) ∧ Below C4 w3 wr) (fun _ at_ _ => T.length - (intOf at_).toNat)
      case atStart => exact ⟨0, _, rfl, rfl, Nat.zero_le _, OwnT.nil _ _, Below.refl _ _⟩
      case round =>
        obtain ⟨k, lv, hlv, rfl, hk, hown, hb4⟩ := hrel
        have hlv2 := hlv.symm
        subst hlv2
        have hsw := hb4.size
        rw [hC4] at hsw
        by_cases hlt : k < T.length
        · obtain ⟨x, hx⟩ : ∃ x, T[k]? = some x := ⟨_, List.getElem?_eq_getElem hlt⟩
          have c1 := HR4.out (k + 1) x (by simpa using hx)
          rw [← hb4.cell (p := ⟨g3, k + 1, none⟩) hr3] at c1
          rw [show k + 1 = 1 + k by omega] at c1
          obtain ⟨hx1, hx2⟩ := hTn.out k x hx
          have hpl := piece2_len (sts rs) x (by omega) (by rw [sts_len]; exact hx2)
          have hJx := HJn.out g x.1 (cap - x.1) (x.2 - x.1) (piece2 (sts rs) x) wr (by omega) (fun j y hy => by
              have hj : j < x.2 - x.1 := by rw [← hpl]; exact (List.getElem?_eq_some_iff.1 hy).1
              rw [piece2_get _ _ _ hj] at hy
              rw [hb4.cell (p := ⟨g, x.1 + j, none⟩) (by show g < C4; omega)]
              exact hcl3.out _ _ hy) hpl (by omega) (by omega) (by unfold maxLen at hl3 ⊢; omega)
            (fun j y hj hy => by
              unfold sts at hy
              rw [← piece2_map, List.getElem?_map] at hy
              obtain ⟨z, hz, rfl⟩ := Option.map_eq_some_iff.1 hy
              rw [Lib.size_eq]
              exact hTg.out k x hx j z hj hz)
            (by have := bulk_piece (sts rs) x; omega)
          rw [jnL] at hJx
          have HJx := Lib.hid hJx
          have htk : Hid (LL.take (k + 1) = LL.take k ++ [⟨(jn (piece2 rs x)).toArray⟩]) := by
            unfold Hid
            rw [List.take_add_one, hLg.out k x hx]
            rfl
          have HAL : Hid ((LL.take k).length ≤ 1000000000000) := by unfold Hid; rw [List.length_take]; omega
          obtain ⟨P, hP⟩ : ∃ P : ByteArray, ⟨(jn (piece2 rs x)).toArray⟩ = P := ⟨_, rfl⟩
          rw [hP] at HJx htk
          unfold slv at c1
          clear hx hpl hJx hP
          go_wp2_with fail
          refine HJx.out.mono ?_
          rintro e w5 ⟨rfl, b5⟩
          have hb5 : Below C4 w3 w5 := hb4.trans (b5.mono hsw)
          have hsw5 := hb5.size
          rw [hC4] at hsw5
          have hown5 := Lib.hid (hown.out.below b5)
          clear b5
          go_wp2_with (at_builtin; refine push_str rfl _ _ rfl C4 lv _ P w5 rfl hown5.out rfl HAL.out hsw5 ?_)
          intro v' w6 h1 h2
          have R1 : Hid (OwnT C4 w6 v' (LL.take (k + 1))) := by unfold Hid; rw [htk.out]; exact h1
          clear h1
          go_wp2_with fail
          go_roundw
          case rel => exact ⟨k + 1, _, rfl, by go_num, by omega, R1, hb5.trans h2⟩
          case measure => simp [intOf]; omega
        · have ho := hown.out
          rw [List.take_of_length_le (by omega)] at ho
          have HOO := Lib.hid ho
          clear ho
          go_wp2_with fail
          go_ret2
          refine Unfolded.good HF.out ?_ (bb3.trans (hb4.mono (by omega)))
          rw [HLL.out]
          exact HOO.out.reads
end Go.Proofs.YtphopnfnjnieaaaGreatDoor
