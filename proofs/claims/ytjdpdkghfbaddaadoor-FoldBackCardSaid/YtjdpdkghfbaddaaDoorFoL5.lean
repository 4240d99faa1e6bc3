/-
  THE LAW FoldBack: it answers true, whatever lines it is handed.
-/
import Derived.Test.YtjdpdkghfbaddaaDoorFoL1
import Derived.Test.YtjdpdkghfbaddaaDoorFldB
namespace Go.Proofs.YtjdpdkghfbaddaaDoor
open Go.RowKit Tx

/-- a line without a part of an end -/
def bare (l : List UInt8) : List UInt8 := l.filter (fun c => !(c == 10) && !(c == 13))
theorem bare_next {l : List UInt8} {k : Nat} {c : UInt8} (h : l[k]? = some c) : bare (l.take (k + 1)) = bare (l.take k) ++ (if c = 10 ∨ c = 13 then [] else [c]) := by
  rw [List.take_add_one, h, Option.toList_some]
  unfold bare
  rw [List.filter_append]
  by_cases hc : c = 10 ∨ c = 13
  · rw [if_pos hc]
    rcases hc with rfl | rfl <;> rfl
  · rw [if_neg hc]
    have h1 : c ≠ 10 := fun e => hc (.inl e)
    have h2 : c ≠ 13 := fun e => hc (.inr e)
    simp [h1, h2]
theorem bare_len (l : List UInt8) : (bare l).length ≤ l.length := List.length_filter_le _ _
theorem bare_clean (l : List UInt8) : clean (bare l) := fun c hc => by
  have := (List.mem_filter.1 hc).2
  simpa using this
theorem bare_append (a b : List UInt8) : bare (a ++ b) = bare a ++ bare b := List.filter_append _ _
theorem bare_high : ∀ {l : List UInt8}, (∀ b ∈ l, 128 ≤ b.toNat) → bare l = l := fun {l} h => by
  unfold bare
  rw [List.filter_eq_self]
  intro c hc
  have := h c hc
  have h1 : c ≠ 10 := fun e => by rw [e] at this; exact absurd this (by decide)
  have h2 : c ≠ 13 := fun e => by rw [e] at this; exact absurd this (by decide)
  simp [h1, h2]
theorem bare_valid (l : List UInt8) : valid l = true → valid (bare l) = true := by
  induction l using len_ind with
  | h l ih =>
    intro hv
    by_cases hl : l = []
    · subst hl; exact hv
    · obtain ⟨p, r, e, hlt, vp, vr, hp⟩ := piece hl hv
      rw [e, bare_append]
      refine (valid_append ?_ (ih r hlt vr)).1
      rcases hp with ⟨b, rfl, _, _⟩ | hp
      · by_cases hb : b = 10 ∨ b = 13
        · have : bare [b] = [] := by rcases hb with rfl | rfl <;> rfl
          rw [this]
          exact valid_some ch_nil
        · have h1 : b ≠ 10 := fun e => hb (.inl e)
          have h2 : b ≠ 13 := fun e => hb (.inr e)
          have : bare [b] = [b] := by unfold bare; simp [h1, h2]
          rw [this]
          exact vp
      · rw [bare_high hp]
        exact vp
/-- what is folded is not much -/
theorem foldL_small (xs : List ByteArray) (h : bulk xs ≤ 3000) : (foldL (bts xs)).length ≤ 12000 := by
  have := foldL_size xs
  omega
/-! ### how the rows of a folded text are held against their bound -/
/-- done are behind, todo ahead: the row that is looked at begins at f -/
def RStand (l : List UInt8) (rs : List (List UInt8)) (f i : Nat) : Prop := ∃ done todo, rs = done ++ todo ∧ f = (ends done).length ∧ l = ends done ++ ends todo ∧ f ≤ i + 1 ∧ (todo = [] ∨ ∃ r t, todo = r :: t ∧ i ≤ f + r.length)
theorem RStand.start (rs : List (List UInt8)) : RStand (ends rs) rs 0 0 := ⟨[], rs, rfl, rfl, rfl, by omega, by
  cases rs with
  | nil => exact .inl rfl
  | cons r t => exact .inr ⟨r, t, rfl, by omega⟩⟩
/-- what stands at place i -/
theorem RStand.look {l : List UInt8} {rs : List (List UInt8)} {f i : Nat} (h : RStand l rs f i) (hc : ∀ r ∈ rs, clean r) (hi : i + 1 < l.length) :
    (l[i]? = some 13 ∧ l[i + 1]? = some 10 ∧ f ≤ i ∧ ((l.drop f).take (i - f)) ∈ rs ∧ RStand l rs (i + 2) (i + 1)) ∨ (∃ c, l[i]? = some c ∧ c ≠ 13 ∧ RStand l rs f (i + 1)) := by
  obtain ⟨done, todo, hrs, hf, hl, hfi, ht⟩ := h
  rcases ht with rfl | ⟨r, t, rfl, hir⟩
  · rw [hl, ends_nil, List.append_nil] at hi
    omega
  · have hlf : l = ends done ++ (r ++ 13 :: 10 :: ends t) := by rw [hl, ends_cons]
    rcases Nat.lt_or_ge i f with h1 | h1
    · -- the sign behind a row's 13
      right
      have hfd : f = i + 1 := by omega
      have hdn : done ≠ [] := by
        intro e
        rw [e] at hf
        have : (ends ([] : List (List UInt8))).length = 0 := rfl
        omega
      obtain ⟨d, x, rfl⟩ : ∃ d x, done = d ++ [x] := ⟨done.dropLast, done.getLast hdn, (List.dropLast_concat_getLast hdn).symm⟩
      have he : ends (d ++ [x]) = (ends d ++ x ++ [13]) ++ [10] := by rw [ends_append, ends_cons, ends_nil]; simp
      refine ⟨10, ?_, by decide, ?_⟩
      · rw [hlf, List.getElem?_append_left (by omega), he, List.getElem?_append_right (by have := congrArg List.length he; rw [List.length_append] at this; simp at this ⊢; omega)]
        have := congrArg List.length he
        rw [List.length_append, ← hf, hfd] at this
        simp only [List.length_singleton] at this
        have e0 : i - (ends d ++ x ++ ([13] : List UInt8)).length = 0 := by omega
        rw [e0]
        rfl
      · exact ⟨d ++ [x], r :: t, hrs, hf, hl, by omega, .inr ⟨r, t, rfl, by omega⟩⟩
    · have hgi : l[i]? = (r ++ 13 :: 10 :: ends t)[i - f]? := by rw [hlf, List.getElem?_append_right (by omega), hf]
      rcases Nat.lt_or_ge (i - f) r.length with h2 | h2
      · right
        refine ⟨r[i - f], ?_, ?_, ?_⟩
        · rw [hgi, List.getElem?_append_left h2, List.getElem?_eq_getElem h2]
        · exact (hc r (by rw [hrs]; simp) _ (List.getElem_mem h2)).2
        · exact ⟨done, r :: t, hrs, hf, hl, by omega, .inr ⟨r, t, rfl, by omega⟩⟩
      · left
        have hie : i = f + r.length := by omega
        have hgi2 : l[i + 1]? = (r ++ 13 :: 10 :: ends t)[i + 1 - f]? := by rw [hlf, List.getElem?_append_right (by omega), hf]
        refine ⟨?_, ?_, h1, ?_, ?_⟩
        · rw [hgi, List.getElem?_append_right h2, show i - f - r.length = 0 by omega]
          rfl
        · rw [hgi2, List.getElem?_append_right (by omega), show i + 1 - f - r.length = 1 by omega]
          rfl
        · have : (l.drop f).take (i - f) = r := by
            rw [hlf, hf, List.drop_left, show i - (ends done).length = r.length by omega, List.take_left]
          rw [this, hrs]
          simp
        · refine ⟨done ++ [r], t, by rw [hrs]; simp, ?_, ?_, by omega, ?_⟩
          · rw [ends_append, List.length_append, ends_cons, ends_nil, ← hf]
            simp
            omega
          · rw [hl, ends_append, ends_cons r t, ends_cons r [], ends_nil]
            simp
          · cases t with
            | nil => exact .inl rfl
            | cons r' t' => exact .inr ⟨r', t', rfl, by omega⟩
theorem RStand.done {l : List UInt8} {rs : List (List UInt8)} {f i : Nat} (h : RStand l rs f i) (hi : l.length ≤ i + 1) : f = l.length := by
  obtain ⟨done, todo, hrs, hf, hl, hfi, ht⟩ := h
  rcases ht with rfl | ⟨r, t, rfl, hir⟩
  · rw [hl, ends_nil, List.append_nil]
    exact hf
  · have := congrArg List.length hl
    rw [List.length_append, ends_cons] at this
    simp at this
    omega
theorem RStand.le {l : List UInt8} {rs : List (List UInt8)} {f i : Nat} (h : RStand l rs f i) : f ≤ l.length := by
  obtain ⟨done, todo, hrs, hf, hl, hfi, ht⟩ := h
  have := congrArg List.length hl
  rw [List.length_append] at this
  omega

set_option maxHeartbeats 8000000 in
set_option maxRecDepth 100000 in
theorem foldBack_any (l : Value) (xs : List ByteArray) (w : World) (hO : Okw w) (hx : ReadT w.heap.size w l xs) (hxl : xs.length ≤ 140737488355328) (hxs : ∀ (k : Nat) (p : ByteArray), xs[k]? = some p → p.size ≤ 140737488355328) :
    Calls Tryd.prog 4 #[l] w (Holds w) := by
  have HA := Lib.hid (fun (W : World) h => awake_any W h)
  have HOK := Lib.hid (fun (W : World) (h : Below w.heap.size w W) => hO.below h)
  obtain ⟨A, cap, rfl, hx2⟩ := hx
  have HX2 := Lib.hid hx2
  have HXS := Lib.hid hxs
  have HRV := Lib.hid (fun (s : ByteArray) (W : World) h => rvalid_any s W h)
  have HFo := Lib.hid (fun (v : Value) (M : List ByteArray) (W : World) h1 h2 h3 => fold_any v M W h1 h2 h3)
  have HUn := Lib.hid (fun (s : ByteArray) (W : World) h1 h2 h3 => unfold_any s W h1 h2 h3)
  have HPl := Lib.hid plainT_any
  have hO0 : Hid (OwnT w.heap.size w (.slice none 0 0) []) := OwnT.nil _ _
  clear hx2 hxs hO
  go_enter Tryd.func4, Tryd.ntmps4
  go_wp2_with fail
  go_loopw [3, 4, 5] (fun mv nv iv wr => ∃ (k N : Nat) (M : List ByteArray) (v : Value), k ≤ xs.length ∧ k ≤ 20 ∧ N ≤ 3000 ∧ mv = v ∧ nv = .int .i64 N ∧ iv = .int .i64 k ∧ Hid (bulk M ≤ N) ∧ Hid (∀ b ∈ M, Fine b.data.toList) ∧ Hid (OwnT w.heap.size wr v M) ∧ Below w.heap.size w wr) (fun _ _ iv _ => 20 - (intOf iv).toNat)
  case atStart => exact ⟨0, 0, [], _, Nat.zero_le _, Nat.zero_le _, Nat.zero_le _, rfl, rfl, rfl, Nat.le_refl _, fun b hb => (by cases hb), hO0, Below.refl _ _⟩
  case round =>
    obtain ⟨k, N, M, lv, hk, hk20, hN, hlv, rfl, rfl, hbk, hfine, hown, hb⟩ := hrel
    have hlv2 := hlv.symm
    subst hlv2
    have hsw := hb.size
    by_cases hlt : k < xs.length ∧ k < 20
    · obtain ⟨hlt1, hlt2⟩ := hlt
      obtain ⟨ad, rfl, hlb, hcl⟩ := HX2.out (by omega)
      obtain ⟨p, hp⟩ : ∃ p, xs[k]? = some p := ⟨_, List.getElem?_eq_getElem hlt1⟩
      have c0 := hcl k p hp
      have hps := HXS.out k p hp
      rw [← hb.cell (p := ad.add k) (by rw [addBlock]; exact hlb)] at c0
      clear hcl hp
      by_cases hbig : 3000 < N + 10 + p.size
      · go_wp2_with fail
        refine (HA.out wr (HOK.out wr hb)).mono ?_
        rintro e w1 ⟨rfl, b1⟩
        go_wp2_with fail
        go_ret
        exact ⟨rfl, hb.trans (b1.mono hsw)⟩
      · have HVp := HRV.out p wr (by omega)
        cases hv : valid p.data.toList with
        | false =>
          rw [hv] at HVp
          have HVO := Lib.hid HVp
          clear hv HVp
          go_wp2_with fail
          refine HVO.out.mono ?_
          rintro e w1 ⟨rfl, rfl⟩
          go_wp2_with fail
          refine (HA.out wr (HOK.out wr hb)).mono ?_
          rintro e w1 ⟨rfl, b1⟩
          go_wp2_with fail
          go_ret
          exact ⟨rfl, hb.trans (b1.mono hsw)⟩
        | true =>
          rw [hv] at HVp
          have HVO := Lib.hid HVp
          have HBV := Lib.hid (bare_valid _ hv)
          have HBC := Lib.hid (bare_clean p.data.toList)
          have hpz := Lib.hid (Lib.size_eq p)
          have HAL : Hid (M.length ≤ 1000000000000) := by unfold Hid; have := bulk_len M; have := hbk.out; omega
          clear hv HVp
          go_wp2_with fail
          refine HVO.out.mono ?_
          rintro e w1 ⟨rfl, rfl⟩
          go_wp2_with fail
          go_loop [6, 7] (fun bv jv => ∃ (j : Nat) (B : ByteArray), j ≤ p.size ∧ bv = .string B ∧ jv = .int .i64 j ∧ B.size ≤ j ∧ Hid (B.data.toList = bare (p.data.toList.take j))) (fun _ jv => p.size - (intOf jv).toNat)
          case atStart => exact ⟨0, ⟨#[]⟩, Nat.zero_le _, rfl, rfl, Nat.le_refl _, rfl⟩
          case round =>
            obtain ⟨j, B, hj, rfl, rfl, hBs, hB⟩ := hrel
            by_cases hlj : j < p.size
            · have hnx := bare_next (Lib.data_getElem? p j hlj)
              have hcut := one_cut hlj
              obtain ⟨y, hy⟩ : ∃ y : Int, ((p[j]'hlj).toNat : Int) = y := ⟨_, rfl⟩
              by_cases h10 : (p[j]'hlj) = 10
              · rw [if_pos (.inl h10), List.append_nil] at hnx
                obtain rfl : y = 10 := by rw [← hy, h10]; rfl
                have HNX := Lib.hid hnx
                clear hnx h10 hcut
                go_wp2_with fail
                go_round
                case rel => exact ⟨j + 1, B, by omega, rfl, by go_num, by omega, by unfold Hid; rw [HNX.out]; exact hB.out⟩
                case measure => simp [intOf]; omega
              have f10 : (y == 10) = false := byte_ne hy h10
              have g10 : (y != 10) = true := by simp only [bne, f10, Bool.not_false]
              by_cases h13 : (p[j]'hlj) = 13
              · rw [if_pos (.inr h13), List.append_nil] at hnx
                obtain rfl : y = 13 := by rw [← hy, h13]; rfl
                have HNX := Lib.hid hnx
                clear hnx h10 h13 hcut
                go_wp2_with fail
                go_round
                case rel => exact ⟨j + 1, B, by omega, rfl, by go_num, by omega, by unfold Hid; rw [HNX.out]; exact hB.out⟩
                case measure => simp [intOf]; omega
              · rw [if_neg (fun h => h.elim h10 h13), ← hcut] at hnx
                have f13 : (y == 13) = false := byte_ne hy h13
                have g13 : (y != 13) = true := by simp only [bne, f13, Bool.not_false]
                have HNX := Lib.hid hnx
                clear hnx h10 h13 hcut
                go_wp2_with fail
                go_round
                case rel => exact ⟨j + 1, _, by omega, rfl, by go_num, by rw [ByteArray.size_append, ByteArray.size_extract]; omega, by unfold Hid; rw [HNX.out, cat_list, hB.out]⟩
                case measure => simp [intOf]; omega
            · have hBall : B.data.toList = bare p.data.toList := by
                have := hB.out
                rwa [List.take_of_length_le (by rw [← hpz.out]; omega)] at this
              have hBc : clean B.data.toList := by rw [hBall]; exact HBC.out
              have hBv : valid B.data.toList = true := by rw [hBall]; exact HBV.out
              have hbk2 : Hid (bulk (M ++ [B]) ≤ N + 10 + p.size) := by unfold Hid; rw [bulk_snoc]; have := hbk.out; omega
              have hbk3 : Hid (bulk M ≤ N + 10 + p.size) := by unfold Hid; have := hbk.out; omega
              have HFN := Lib.hid (fun (h : cont B.data.toList = false) => (fun b hbm => by
                rw [List.mem_append, List.mem_singleton] at hbm
                rcases hbm with hbm | rfl
                · exact hfine.out b hbm
                · exact ⟨hBc, hBv, h⟩ : ∀ b ∈ M ++ [B], Fine b.data.toList))
              clear hBall hBc hBv
              rcases cont_cases B.data.toList with ⟨h1, h2⟩ | ⟨c, t, h1, h2⟩
              · have hBe : B.toList.isEmpty = true := by rw [Lib.toList_data, h1]; rfl
                have HF2 := Lib.hid (HFN.out h2)
                clear h1 h2
                go_wp2_with (at_builtin; refine push_str rfl _ _ rfl w.heap.size lv _ B wr rfl hown.out rfl HAL.out hsw ?_)
                intro v' w4 h1 h2
                have R1 := Lib.hid h1
                clear h1
                go_wp2_with fail
                go_roundw
                case rel => exact ⟨k + 1, N + 10 + p.size, M ++ [B], v', by omega, by omega, by omega, rfl, by go_num, by go_num, hbk2, HF2, R1, hb.trans h2⟩
                case measure => simp [intOf]; omega
              · have hBe : B.toList.isEmpty = false := by rw [Lib.toList_data, h1]; rfl
                have hB0 : 0 < B.size := by rw [Lib.size_eq, h1]; simp
                have hBc : (B[0]'hB0) = c := by
                  have := Lib.data_getElem? B 0 hB0
                  rw [h1] at this
                  exact (Option.some.inj this).symm
                obtain ⟨y, hy⟩ : ∃ y : Int, ((B[0]'hB0).toNat : Int) = y := ⟨_, rfl⟩
                rcases h2 with ⟨h2, _⟩ | ⟨h2, _⟩ | ⟨h2, h3, h4⟩
                · obtain rfl : y = 32 := by rw [← hy, hBc, h2]; rfl
                  clear h1 h2 hBc
                  go_wp2_with fail
                  go_roundw
                  case rel => exact ⟨k + 1, N + 10 + p.size, M, lv, by omega, by omega, by omega, rfl, by go_num, by go_num, hbk3, hfine, hown, hb⟩
                  case measure => simp [intOf]; omega
                · obtain rfl : y = 9 := by rw [← hy, hBc, h2]; rfl
                  clear h1 h2 hBc
                  go_wp2_with fail
                  go_roundw
                  case rel => exact ⟨k + 1, N + 10 + p.size, M, lv, by omega, by omega, by omega, rfl, by go_num, by go_num, hbk3, hfine, hown, hb⟩
                  case measure => simp [intOf]; omega
                · have f32 : (y == 32) = false := byte_ne (d := 32) hy (by rw [hBc]; exact h2)
                  have g32 : (y != 32) = true := by simp only [bne, f32, Bool.not_false]
                  have f9 : (y == 9) = false := byte_ne (d := 9) hy (by rw [hBc]; exact h3)
                  have g9 : (y != 9) = true := by simp only [bne, f9, Bool.not_false]
                  have HF2 := Lib.hid (HFN.out h4)
                  clear h1 h2 h3 h4 hBc
                  go_wp2_with (at_builtin; refine push_str rfl _ _ rfl w.heap.size lv _ B wr rfl hown.out rfl HAL.out hsw ?_)
                  intro v' w4 h1 h2
                  have R1 := Lib.hid h1
                  clear h1
                  go_wp2_with fail
                  go_roundw
                  case rel => exact ⟨k + 1, N + 10 + p.size, M ++ [B], v', by omega, by omega, by omega, rfl, by go_num, by go_num, hbk2, HF2, R1, hb.trans h2⟩
                  case measure => simp [intOf]; omega
    · have hstop : (k : Int) = xs.length ∨ ((k : Int) < xs.length ∧ (k : Int) = 20) := by omega
      have hbk1 := hbk.out
      have hfl := foldL_small M (by omega)
      have hmf : ∀ x ∈ bts M, Fine x := fun x hx => by
        unfold bts at hx
        obtain ⟨b, hbm, rfl⟩ := List.mem_map.1 hx
        exact hfine.out b hbm
      obtain ⟨u1, u2⟩ := fold_unfold hmf
      have hrg := rows_fine hmf
      have hre := foldL_ends (bts M)
      obtain ⟨F, hF⟩ : ∃ F : ByteArray, ⟨(foldL (bts M)).toArray⟩ = F := ⟨_, rfl⟩
      have hFl : F.data.toList = foldL (bts M) := by rw [← hF]
      have hFs : F.size ≤ 12000 := by rw [Lib.size_eq, hFl]; exact hfl
      rw [← hFl] at u1 u2 hre
      have huf : unfA F.data.toList = (bts M, 0) := unfA_ok (by rw [← Lib.size_eq]; omega) u2 u1
      have hst : sts (bts M) = M := by
        unfold sts bts
        rw [List.map_map]
        conv => rhs; rw [← List.map_id M]
        rfl
      have hHF := HFo.out lv M wr (HOK.out wr hb).1 (hown.out.reads) (by omega)
      rw [hF] at hHF
      have HFx := Lib.hid hHF
      have HUx := Lib.hid (fun (W : World) h1 h2 => HUn.out F W h1 h2 (by omega))
      have HUF := Lib.hid huf
      have HST := Lib.hid hst
      obtain ⟨rs, hrs⟩ : ∃ rs, (bts M).flatMap rowsOf = rs := ⟨_, rfl⟩
      rw [hrs] at hrg hre
      have HRG := Lib.hid hrg
      have HRC := Lib.hid (fun r hr => (hrg r hr).1 : ∀ r ∈ rs, clean r)
      have HR0 : Hid (RStand F.data.toList rs 0 0) := by unfold Hid; rw [hre]; exact RStand.start rs
      have hFz := Lib.hid (Lib.size_eq F)
      have HRVF := Lib.hid (fun (f i : Nat) (W : World) (h : i ≤ F.size) => HRV.out (F.extract f i) W (by rw [ByteArray.size_extract]; omega))
      have HM := Lib.hid hown.out.reads
      have HAM : Hid (M.length ≤ 3000) := by unfold Hid; have := bulk_len M; omega
      clear hfl hmf u1 u2 hrg hre hF hFl huf hst hHF hrs hbk1
      rcases hstop with hstop | ⟨hst1, hst2⟩
      all_goals
        go_wp2_with fail
        refine HFx.out.mono ?_
        rintro e w1 ⟨rfl, b1⟩
        have c1 : Below w.heap.size w w1 := hb.trans (b1.mono hsw)
        have m1 := Lib.hid ((HM.out.below b1).more b1.size)
        clear b1
        go_wp2_with fail
        refine (HUx.out w1 (HOK.out w1 c1).1 (HOK.out w1 c1).2).mono ?_
        rintro e w2 ⟨v2, rfl, hv2, b2⟩
        rw [HUF.out, HST.out] at hv2
        rw [HUF.out]
        have c2 : Below w.heap.size w w2 := c1.trans (b2.mono c1.size)
        have m2 := Lib.hid ((m1.out.below b2).more b2.size)
        have V2 := Lib.hid hv2
        clear hv2 b2
        go_wp2_with fail
        go_loop [11, 12] (fun fv iv => ∃ (f i : Nat), f ≤ F.size ∧ i ≤ F.size + 1 ∧ fv = .int .i64 f ∧ iv = .int .i64 i ∧ Hid (RStand F.data.toList rs f i)) (fun _ iv => F.size + 1 - (intOf iv).toNat)
        case atStart => exact ⟨0, 0, Nat.zero_le _, Nat.zero_le _, rfl, rfl, HR0⟩
        case round =>
          obtain ⟨f, i, hf, hi, rfl, rfl, hrst⟩ := hrel
          by_cases hli : i + 1 < F.size
          · have hi0 : i < F.size := by omega
            have d0 := Lib.data_getElem? F i hi0
            have d1 := Lib.data_getElem? F (i + 1) hli
            obtain ⟨y, hy⟩ : ∃ y : Int, ((F[i]'hi0).toNat : Int) = y := ⟨_, rfl⟩
            obtain ⟨z, hz⟩ : ∃ z : Int, ((F[i + 1]'hli).toNat : Int) = z := ⟨_, rfl⟩
            rcases hrst.out.look HRC.out (by rw [← hFz.out]; exact hli) with ⟨l1, l2, l3, l4, l5⟩ | ⟨c, l1, l2, l3⟩
            · rw [d0] at l1
              rw [d1] at l2
              have e0 : (F[i]'hi0) = 13 := Option.some.inj l1
              have e1 : (F[i + 1]'hli) = 10 := Option.some.inj l2
              obtain rfl : y = 13 := by rw [← hy, e0]; rfl
              obtain rfl : z = 10 := by rw [← hz, e1]; rfl
              have l4' : (F.extract f i).data.toList ∈ rs := by rw [mid_cut]; exact l4
              obtain ⟨q1, q2, q3⟩ := HRG.out _ l4'
              rw [← Lib.size_eq, ByteArray.size_extract] at q3
              have q4 : (i : Int) - (f : Int) ≤ 75 := by omega
              have HVx := HRVF.out f i w2 (by omega)
              rw [q2] at HVx
              have HVy := Lib.hid HVx
              have HS := Lib.hid l5
              clear l1 l2 l4 l4' l5 d0 d1 e0 e1 q1 q2 q3 HVx
              go_wp2_with fail
              refine HVy.out.mono ?_
              rintro e w3 ⟨rfl, rfl⟩
              go_wp2_with fail
              go_round
              case rel => exact ⟨i + 2, i + 1, by omega, by omega, by go_num, by go_num, HS⟩
              case measure => simp [intOf]; omega
            · rw [d0] at l1
              have e0 : (F[i]'hi0) = c := Option.some.inj l1
              have f13 : (y == 13) = false := byte_ne (d := 13) hy (by rw [e0]; exact l2)
              have HS := Lib.hid l3
              clear l1 l2 l3 d0 d1 e0
              go_wp2_with fail
              go_round
              case rel => exact ⟨f, i + 1, hf, by omega, rfl, by go_num, HS⟩
              case measure => simp [intOf]; omega
          · have hfe : f = F.size := by rw [hFz.out]; exact hrst.out.done (by rw [← hFz.out]; omega)
            subst hfe
            go_wp2_with fail
            refine (HA.out w2 (HOK.out w2 c2)).mono ?_
            rintro e w3 ⟨rfl, b3⟩
            have c3 : Below w.heap.size w w3 := c2.trans (b3.mono c2.size)
            have m3 := Lib.hid ((m2.out.below b3).more b3.size)
            have V3 := Lib.hid ((V2.out.below b3).more b3.size)
            have hMl : M.length ≤ 140737488355328 := by have := HAM.out; omega
            clear b3
            go_wp2_with fail
            refine (HPl.out w3.heap.size v2 _ M M w3 V3.out m3.out hMl hMl).mono ?_
            rintro e w4 ⟨rfl, b4⟩
            rw [decide_eq_true (rfl : M = M)]
            go_wp2_with fail
            go_ret
            exact ⟨rfl, c3.trans (b4.mono c3.size)⟩
end Go.Proofs.YtjdpdkghfbaddaaDoor
