/-
  fold.Unfold: what it answers, at every string.
-/
import Derived.Test.YtjdpdkghfbaddaaDoorFoJo
namespace Go.Proofs.YtjdpdkghfbaddaaDoor
open Go.RowKit Tx

/-- nothing turns below C where block b is as it was -/
theorem Btw.whole {b C : Nat} {w w' : World} (h : Btw b C w w') (hb : w'.heap[b]? = w.heap[b]?) : Below C w w' :=
  ⟨h.below.os, h.below.tape, h.below.output, h.below.size, fun g hg => by
    rcases Nat.lt_trichotomy g b with h1 | h1 | h1
    · exact h.below.block g h1
    · subst h1; exact hb
    · exact h.mid g h1 hg⟩
theorem jnL (R : List (List UInt8)) (x : Nat × Nat) : jn (bts (piece2 (sts R) x)) = jn (piece2 R x) := by
  have : bts (piece2 (sts R) x) = piece2 R x := by
    unfold bts sts
    rw [piece2_map, List.map_map]
    conv => rhs; rw [← List.map_id R]
    rfl
  rw [this]
/-- what is gathered begins with a part that opens it; all others go on -/
theorem gat_goes : ∀ (rs : List (List UInt8)) (cur : List (List UInt8)), (∀ j x, 1 ≤ j → cur[j]? = some x → cont x = true) → ∀ P ∈ gat cur rs (starts rs), ∀ j x, 1 ≤ j → P[j]? = some x → cont x = true
  | [], cur, h, P, hP, j, x, hj, hx => by
    rw [gat_nil] at hP
    obtain rfl : P = cur := by simpa using hP
    exact h j x hj hx
  | r :: t, cur, h, P, hP, j, x, hj, hx => by
    unfold starts at hP
    rw [List.map_cons] at hP
    cases hc : cont r with
    | true =>
      rw [hc, Bool.not_true, gat_false] at hP
      refine gat_goes t (cur ++ [r]) (fun j x hj hx => ?_) P hP j x hj hx
      rcases Nat.lt_or_ge j cur.length with h1 | h1
      · rw [List.getElem?_append_left h1] at hx
        exact h j x hj hx
      · rw [List.getElem?_append_right h1] at hx
        have hx2 := List.mem_of_getElem? hx
        obtain rfl : x = r := by simpa using hx2
        exact hc
    | false =>
      rw [hc, Bool.not_false, gat_true] at hP
      rcases List.mem_cons.1 hP with rfl | hP
      · exact h j x hj hx
      · refine gat_goes t [r] (fun j x hj hx => ?_) P hP j x hj hx
        rw [List.getElem?_eq_none (by simpa using hj)] at hx
        cases hx
theorem cont_size {x : List UInt8} (h : cont x = true) : 1 ≤ x.length := by
  cases x with
  | nil => cases h
  | cons a t => simp
/-- a part that is not the first one is not empty -/
theorem ivs_first : ∀ (bs : List Bool) (o k : Nat), ∃ e t, ivs o k bs = (o, e) :: t ∧ k ≤ e ∧ ∀ x ∈ t, x.1 < x.2
  | [], o, k => ⟨k, [], rfl, Nat.le_refl _, fun x hx => by cases hx⟩
  | b :: bs, o, k => by
    cases b with
    | true =>
      obtain ⟨e, t, h1, h2, h3⟩ := ivs_first bs k (k + 1)
      refine ⟨k, ivs k (k + 1) bs, rfl, Nat.le_refl _, fun x hx => ?_⟩
      rw [h1] at hx
      rcases List.mem_cons.1 hx with rfl | hx
      · exact h2
      · exact h3 x hx
    | false =>
      obtain ⟨e, t, h1, h2, h3⟩ := ivs_first bs o (k + 1)
      exact ⟨e, t, h1, by omega, h3⟩
theorem bulk_piece (xs : List ByteArray) (x : Nat × Nat) : bulk (piece2 xs x) ≤ bulk xs := by
  have h1 := bulk_take (xs.drop x.1) (x.2 - x.1)
  have h2 : bulk xs = bulk (xs.take x.1) + bulk (xs.drop x.1) := by
    conv => lhs; rw [← List.take_append_drop x.1 xs]
    unfold bulk
    rw [List.map_append, List.sum_append]
  unfold piece2
  omega
theorem ends_bulk : ∀ rs : List (List UInt8), bulk (sts rs) ≤ 2 * (ends rs).length
  | [] => by simp [sts, bulk]
  | r :: t => by
    have ih := ends_bulk t
    have h := Lib.size_eq ⟨r.toArray⟩
    rw [ends_cons]
    simp only [sts, bulk, List.map_cons, List.sum_cons, List.length_append, List.length_cons] at ih h ⊢
    omega
/-- rows with their ends are the text -/
theorem rowsA_back : ∀ (n : Nat) (l cur : List UInt8) (rs : List (List UInt8)), l.length ≤ n → rowsA cur l = some rs → ends rs = cur ++ l
  | n, [], cur, rs, _, h => by
    rw [rowsA_nil] at h
    by_cases hc : cur = []
    · rw [if_pos hc] at h
      obtain rfl : [] = rs := Option.some.inj h
      rw [hc]; rfl
    · rw [if_neg hc] at h; cases h
  | 0, _ :: _, _, _, h, _ => by simp at h
  | n + 1, c :: t, cur, rs, hn, h => by
    by_cases h1 : c = 10
    · subst h1; rw [rowsA_10] at h; cases h
    by_cases h2 : c = 13
    · subst h2
      cases t with
      | nil => rw [rowsA_13] at h; cases h
      | cons d u =>
        by_cases hd : d = 10
        · subst hd
          rw [rowsA_end] at h
          cases hr : rowsA [] u with
          | none => rw [hr] at h; cases h
          | some q =>
            rw [hr] at h
            obtain rfl : cur :: q = rs := Option.some.inj h
            rw [ends_cons, rowsA_back n u [] q (by simp at hn; omega) hr]
            simp
        · rw [rowsA_13x _ _ hd] at h; cases h
    · rw [rowsA_on _ _ h1 h2] at h
      rw [rowsA_back n t _ rs (by simpa using hn) h]
      simp

set_option maxHeartbeats 4000000 in
set_option maxRecDepth 100000 in
theorem unfold_any (s : ByteArray) (w : World) (hT : Tabs w) (hM : MaxL w) (hs : s.size < 1000000000) :
    Calls Tryd.prog 10 #[.string s] w (Unfolded w.heap.size w s.data.toList) := by
  have hsz := Lib.hid (Lib.size_eq s)
  by_cases hbig : 20000 < s.size
  · have HF := Lib.hid (unfA_big (l := s.data.toList) (by rw [← hsz.out]; exact hbig))
    go_enter Tryd.func10, Tryd.ntmps10
    go_wp2_with fail
    go_ret2
    exact Unfolded.err HF.out (Below.refl _ _)
  have hnb : ¬ 20000 < s.data.toList.length := by rw [← hsz.out]; exact hbig
  have HV := Lib.hid (valid_any s w hT (by omega))
  cases hv : valid s.data.toList with
  | false =>
    rw [hv] at HV
    have HF := Lib.hid (unfA_utf hnb hv)
    clear hv hnb
    go_enter Tryd.func10, Tryd.ntmps10
    go_wp2_with fail
    refine HV.out.mono ?_
    rintro e w1 ⟨rfl, b1⟩
    go_wp2_with fail
    go_ret2
    exact Unfolded.err HF.out b1
  | true =>
    rw [hv] at HV
    have HNone := Lib.hid (fun h => unfA_line hnb hv h)
    have HSome := Lib.hid (fun m h => unfA_ok (m := m) hnb hv h)
    have HE := Lib.hid (fun (W : World) h => endedRows_any s W h (by omega))
    have HMb := Lib.hid (fun (W : World) (h : Below w.heap.size w W) => hM.below h)
    have hM0 : 0 < w.heap.size := by obtain ⟨m, hm⟩ := hM; exact World.block_lt_of_cell? _ _ hm
    have HJn := Lib.hid joined_any
    clear hv hnb hM
    go_enter Tryd.func10, Tryd.ntmps10
    go_wp2_with fail
    refine HV.out.mono ?_
    rintro e w1 ⟨rfl, b1⟩
    have hs1 := b1.size
    go_wp2_with fail
    refine (HE.out w1 (HMb.out w1 b1)).mono ?_
    rintro e w2 ⟨b2, hcase⟩
    have hs2 := b2.size
    have bb2 : Below w.heap.size w w2 := b1.trans (b2.mono hs1)
    rcases hcase with ⟨rs, g, cap, hrs, rfl, hl1, hl2, hl3, hg1, hg2, hcells⟩ | ⟨hrs, rfl⟩
    case' inr =>
      have HF := Lib.hid (HNone.out (by unfold Tx.unfold; rw [hrs]; rfl))
      clear hrs
      go_wp2_with fail
      go_ret2
      exact Unfolded.err HF.out bb2
    have hun : Tx.unfold s.data.toList = linesA [] rs := by unfold Tx.unfold; rw [hrs]; rfl
    have hbk : bulk (sts rs) ≤ 100000 := by
      have h1 := ends_bulk rs
      have h2 := rowsA_back _ _ _ _ (Nat.le_refl _) hrs
      rw [h2, List.nil_append, ← hsz.out] at h1
      omega
    have hgl : (starts rs).length = rs.length := List.length_map _
    have hgi := gat_all rs (starts rs) hgl.symm
    have hgo := gat_goes rs [] (fun j x _ hx => by simp at hx)
    rw [hgi] at hgo
    have hhd := fun h t (e : gat [] rs (starts rs) = h :: t) => linesA_hd e
    rw [hgi] at hhd
    obtain ⟨e0, T, hi1, hi2, hi3⟩ := ivs_first (starts rs) 0 0
    have hok := ivs_ok (starts rs) 0 0 (Nat.le_refl _)
    have hil := (ivs_len (starts rs) 0 0).2
    rw [hgl] at hil
    rw [hi1] at hhd hgo hok hil
    have hres := hhd _ _ rfl
    rw [List.map_cons] at hgo
    have HGx := gatherU_any g cap rs.length 0 w2.heap.size (sts rs) (starts rs) (fun _ W => W.heap[0]? = w2.heap[0]?) w2 (Nat.le_refl _) (by omega) hg2 (by omega) hcells (sts_len rs) hgl hl2 hl3 (by omega) rfl
      (fun k W W' h1 h2 => h1.trans h2)
      (fun k x B W hx hB hI hCW _ => by
        unfold sts at hx
        rw [List.getElem?_map] at hx
        obtain ⟨c, hc, rfl⟩ := Option.map_eq_some_iff.1 hx
        have hBe : B = !cont c := by
          unfold starts at hB
          rw [List.getElem?_map, hc] at hB
          exact (Option.some.inj hB).symm
        refine (unfoldFn_any ⟨c.toArray⟩ W).mono fun e W' ⟨h1, h2⟩ => ?_
        subst h2
        exact ⟨by rw [h1, hBe], hI, grown_self _ _⟩)
    rw [hi1] at HGx
    have HG := Lib.hid HGx
    have HC := Lib.hid hcells
    have HUN := Lib.hid hun
    have HRES := Lib.hid hres
    have HGO := Lib.hid hgo
    have HOK := Lib.hid hok
    clear HGx hcells hun hres hgo hok hhd hgi hgl hrs HE HV
    go_wp2_with fail
    refine HG.out.mono ?_
    rintro e w3 ⟨v, rfl, ⟨g3, cap3, rfl, hr1, hr2, hr3, hr4⟩, hI3, t3⟩
    have b3 := t3.whole hI3
    have hs3 := b3.size
    have bb3 : Below w.heap.size w w3 := bb2.trans (b3.mono (by omega))
    have c0 := hr4 0 (0, e0) rfl
    obtain ⟨hok1, hok2⟩ := HOK.out (0, e0) (by simp)
    rw [Nat.zero_add] at hok2
    unfold slv at c0
    simp only [Nat.sub_zero] at c0
    have HR4 := Lib.hid hr4
    clear hr4 t3 hI3
    by_cases he0 : e0 = 0
    case' neg =>
      have HF := Lib.hid (HNone.out (by rw [HUN.out, HRES.out, if_neg]; intro h; have hls : (starts rs).length = rs.length := List.length_map _; have := piece2_len rs (0, e0) (Nat.zero_le _) (by omega); rw [h] at this; simp at this; omega))
      go_wp2_with fail
      go_ret2
      exact Unfolded.err HF.out bb3
    subst he0
    have hlines : Tx.unfold s.data.toList = some ((T.map (piece2 rs)).map jn) := by
      rw [HUN.out, HRES.out, if_pos]
      unfold piece2
      simp
    have HF := Lib.hid (HSome.out _ hlines)
    have hLl : ((T.map (piece2 rs)).map jn).length = T.length := by rw [List.length_map, List.length_map]
    have hLg : Hid (∀ (k : Nat) (x : Nat × Nat), T[k]? = some x → (sts ((T.map (piece2 rs)).map jn))[k]? = some ⟨(jn (piece2 rs x)).toArray⟩) := fun k x hx => by
      unfold sts
      rw [List.getElem?_map, List.getElem?_map, List.getElem?_map, hx]
      rfl
    have hTn : Hid (∀ (k : Nat) (x : Nat × Nat), T[k]? = some x → x.1 < x.2 ∧ x.2 ≤ rs.length) := fun k x hx => by
      have hm := List.mem_of_getElem? hx
      have h2 := (HOK.out x (List.mem_cons_of_mem _ hm)).2
      have hls : (starts rs).length = rs.length := List.length_map _
      exact ⟨hi3 x hm, by omega⟩
    have hTg : Hid (∀ (k : Nat) (x : Nat × Nat), T[k]? = some x → ∀ j y, 1 ≤ j → (piece2 rs x)[j]? = some y → 1 ≤ y.length) := fun k x hx j y hj hy => by
      have hm := List.mem_of_getElem? hx
      exact cont_size (HGO.out _ (List.mem_cons_of_mem _ (List.mem_map_of_mem hm)) j y hj hy)
    have hcl3 : Hid (∀ j x, (sts rs)[j]? = some x → w3.cell? ⟨g, j, none⟩ = some (.string x)) := fun j x hx => by
      rw [b3.cell (p := ⟨g, j, none⟩) hg2]
      exact HC.out j x hx
    obtain ⟨LL, hLL⟩ : ∃ LL, sts ((T.map (piece2 rs)).map jn) = LL := ⟨_, rfl⟩
    have hLLl : LL.length = T.length := by rw [← hLL, sts_len]; exact hLl
    have HLL := Lib.hid hLL
    rw [hLL] at hLg
    obtain ⟨C4, hC4⟩ : ∃ C4, w3.heap.size = C4 := ⟨_, rfl⟩
    rw [hC4] at hr3
    rw [List.length_cons] at hr1 hil ⊢
    clear hlines hLl hLL hi1 hi3 b3 hok1 hok2 HG HRES HUN HGO HOK HC
    by_cases hc3 : cap3 = 1
    · obtain rfl : T = [] := List.eq_nil_of_length_eq_zero (by omega)
      have hLe : Hid (LL = []) := List.eq_nil_of_length_eq_zero hLLl
      subst hc3
      simp only [List.length_nil, Nat.zero_add]
      go_wp2_with fail
      go_loopw [7, 33] (fun lv at_ wr => lv = .slice none 0 0 ∧ at_ = .int .i64 0 ∧ wr = w3) (fun _ _ _ => 0)
      case atStart => exact ⟨rfl, rfl, rfl⟩
      case round =>
        obtain ⟨rfl, rfl, rfl⟩ := hrel
        go_wp2_with fail
        go_ret2
        refine Unfolded.good HF.out ?_ bb3
        rw [HLL.out, hLe.out]
        exact ReadT.nil _ _ _
    · go_wp2_with fail
      go_loopw [7, 33] (fun lv at_ wr => ∃ (k : Nat) (v : Value), lv = v ∧ at_ = .int .i64 k ∧ k ≤ T.length ∧ Hid (OwnT C4 wr v (LL.take k)) ∧ Below C4 w3 wr) (fun _ at_ _ => T.length - (intOf at_).toNat)
      case atStart => exact ⟨0, _, rfl, rfl, Nat.zero_le _, OwnT.nil _ _, Below.refl _ _⟩
      case round =>
        obtain ⟨k, lv, hlv, rfl, hk, hown, hb4⟩ := hrel
        have hlv2 := hlv.symm
        subst hlv2
        have hsw := hb4.size
        rw [hC4] at hsw
        by_cases hlt : k < T.length
        · obtain ⟨x, hx⟩ : ∃ x, T[k]? = some x := ⟨_, List.getElem?_eq_getElem hlt⟩
          have c1 := HR4.out (k + 1) x (by simpa using hx)
          rw [← hb4.cell (p := ⟨g3, k + 1, none⟩) hr3] at c1
          rw [show k + 1 = 1 + k by omega] at c1
          obtain ⟨hx1, hx2⟩ := hTn.out k x hx
          have hpl := piece2_len (sts rs) x (by omega) (by rw [sts_len]; exact hx2)
          have hJx := HJn.out g x.1 (cap - x.1) (x.2 - x.1) (piece2 (sts rs) x) wr (by omega) (fun j y hy => by
              have hj : j < x.2 - x.1 := by rw [← hpl]; exact (List.getElem?_eq_some_iff.1 hy).1
              rw [piece2_get _ _ _ hj] at hy
              rw [hb4.cell (p := ⟨g, x.1 + j, none⟩) (by show g < C4; omega)]
              exact hcl3.out _ _ hy) hpl (by omega) (by omega) (by unfold maxLen at hl3 ⊢; omega)
            (fun j y hj hy => by
              unfold sts at hy
              rw [← piece2_map, List.getElem?_map] at hy
              obtain ⟨z, hz, rfl⟩ := Option.map_eq_some_iff.1 hy
              rw [Lib.size_eq]
              exact hTg.out k x hx j z hj hz)
            (by have := bulk_piece (sts rs) x; omega)
          rw [jnL] at hJx
          have HJx := Lib.hid hJx
          have htk : Hid (LL.take (k + 1) = LL.take k ++ [⟨(jn (piece2 rs x)).toArray⟩]) := by
            unfold Hid
            rw [List.take_add_one, hLg.out k x hx]
            rfl
          have HAL : Hid ((LL.take k).length ≤ 1000000000000) := by unfold Hid; rw [List.length_take]; omega
          obtain ⟨P, hP⟩ : ∃ P : ByteArray, ⟨(jn (piece2 rs x)).toArray⟩ = P := ⟨_, rfl⟩
          rw [hP] at HJx htk
          unfold slv at c1
          clear hx hpl hJx hP
          go_wp2_with fail
          refine HJx.out.mono ?_
          rintro e w5 ⟨rfl, b5⟩
          have hb5 : Below C4 w3 w5 := hb4.trans (b5.mono hsw)
          have hsw5 := hb5.size
          rw [hC4] at hsw5
          have hown5 := Lib.hid (hown.out.below b5)
          clear b5
          go_wp2_with (at_builtin; refine push_str rfl _ _ rfl C4 lv _ P w5 rfl hown5.out rfl HAL.out hsw5 ?_)
          intro v' w6 h1 h2
          have R1 : Hid (OwnT C4 w6 v' (LL.take (k + 1))) := by unfold Hid; rw [htk.out]; exact h1
          clear h1
          go_wp2_with fail
          go_roundw
          case rel => exact ⟨k + 1, _, rfl, by go_num, by omega, R1, hb5.trans h2⟩
          case measure => simp [intOf]; omega
        · have ho := hown.out
          rw [List.take_of_length_le (by omega)] at ho
          have HOO := Lib.hid ho
          clear ho
          go_wp2_with fail
          go_ret2
          refine Unfolded.good HF.out ?_ (bb3.trans (hb4.mono (by omega)))
          rw [HLL.out]
          exact HOO.out.reads
end Go.Proofs.YtjdpdkghfbaddaaDoor
