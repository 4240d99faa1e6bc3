/-
  fold.rowsOf, fold.Fold: what they answer.
-/
import Derived.Test.YtjdpdkghfbaddaaDoorFoCh
import Derived.Laws.OwnMore
namespace Go.Proofs.YtjdpdkghfbaddaaDoor
open Go.RowKit Tx

/-- how many bytes the open row has behind k characters -/
def siz : Nat → List (List UInt8) → Nat → Nat
  | n, _, 0 => n
  | n, [], _ + 1 => n
  | n, c :: t, k + 1 => siz (if n + c.length ≤ 75 then n + c.length else 1 + c.length) t k
theorem siz_zero (n : Nat) (cs : List (List UInt8)) : siz n cs 0 = n := by cases cs <;> rfl
theorem siz_cons (n : Nat) (c : List UInt8) (t : List (List UInt8)) (k : Nat) : siz n (c :: t) (k + 1) = siz (if n + c.length ≤ 75 then n + c.length else 1 + c.length) t k := rfl
theorem siz_next : ∀ (cs : List (List UInt8)) (n k : Nat) (c : List UInt8), cs[k]? = some c → siz n cs (k + 1) = (if siz n cs k + c.length ≤ 75 then siz n cs k + c.length else 1 + c.length) ∧ (brk n cs)[k]? = some (!decide (siz n cs k + c.length ≤ 75))
  | [], _, k, c, h => by simp at h
  | d :: t, n, 0, c, h => by
    obtain rfl : d = c := by simpa using h
    refine ⟨by rw [siz_cons, siz_zero, siz_zero], ?_⟩
    rw [siz_zero]
    unfold brk
    by_cases h : n + d.length ≤ 75
    · simp [h]
    · simp [h]
  | d :: t, n, k + 1, c, h => by
    have ih := siz_next t (if n + d.length ≤ 75 then n + d.length else 1 + d.length) k c (by simpa using h)
    refine ⟨ih.1, ?_⟩
    have e : siz n (d :: t) (k + 1) = siz (if n + d.length ≤ 75 then n + d.length else 1 + d.length) t k := rfl
    rw [e]
    unfold brk
    by_cases hh : n + d.length ≤ 75
    · rw [if_pos hh] at ih ⊢
      rw [if_pos hh]
      simpa using ih.2
    · rw [if_neg hh] at ih ⊢
      rw [if_neg hh]
      simpa using ih.2
theorem siz_le : ∀ (cs : List (List UInt8)) (n k : Nat), n ≤ 75 → (∀ c ∈ cs, c.length ≤ 4) → siz n cs k ≤ 75
  | _, n, 0, h, _ => by unfold siz; exact h
  | [], n, _ + 1, h, _ => by unfold siz; exact h
  | c :: t, n, k + 1, h, hc => by
    unfold siz
    have := hc c (by simp)
    refine siz_le t _ k ?_ (fun d hd => hc d (by simp [hd]))
    split <;> omega

set_option maxHeartbeats 1000000 in
set_option maxRecDepth 100000 in
/-- rowsOf's function: does the character begin a row? -/
theorem rowsFn_any (b : Nat) (c : ByteArray) (n : Nat) (W : World) (hn : n ≤ 75) (hc : c.size ≤ 4) (hB : Bk W b 3 #[.int .i64 n]) :
    Calls Tryd.prog 52 #[.string c, .pointer (some ⟨b, 0, none⟩)] W fun e W' => e = .returned (.bool (!decide (n + c.size ≤ 75))) ∧ Bk W' b 3 #[.int .i64 ((if n + c.size ≤ 75 then n + c.size else 1 + c.size : Nat) : Int)] ∧ W.grownBy W' (some b) := by
  have c0 := hB.cell 0
  have f0 := hB.free 0
  simp only [Nat.reduceLT, List.size_toArray, List.length_cons, List.length_nil, getElem?_pos, Nat.reduceAdd, List.getElem_toArray, List.getElem_cons_zero] at c0
  have HB := Lib.hid hB
  by_cases h : n + c.size ≤ 75
  · have d : (!decide (n + c.size ≤ 75)) = false := by simp [h]
    rw [d, if_pos h]
    clear d hB
    go_enter Tryd.func52, Tryd.ntmps52
    go_wp2_with fail
    go_ret
    refine ⟨rfl, ?_, grown_set _⟩
    have := HB.out.put 0 (.int .i64 ((n + c.size : Nat) : Int))
    simpa using this
  · have d : (!decide (n + c.size ≤ 75)) = true := by simp [h]
    rw [d, if_neg h]
    clear d hB
    go_enter Tryd.func52, Tryd.ntmps52
    go_wp2_with fail
    go_ret
    refine ⟨rfl, ?_, ⟨rfl, rfl, rfl, by simp [World.setCell], fun k _ hk => ?_⟩⟩
    · have := (HB.out.put 0 (.int .i64 ((n + c.size : Nat) : Int))).put 0 (.int .i64 ((1 + c.size : Nat) : Int))
      simpa using this
    · rw [Below.heap_setCell _ _ _ _ (fun e => hk (by simp [e])), Below.heap_setCell _ _ _ _ (fun e => hk (by simp [e]))]

theorem OwnT.weak {B B' : Nat} {w : World} {v : Value} {x : List ByteArray} (h : OwnT B w v x) (hB : B' ≤ B) : OwnT B' w v x :=
  ⟨h.1, h.2.imp id fun ⟨g, cap, cur, h1, h2, h3⟩ => ⟨g, cap, cur, h1, Nat.le_trans hB h2, h3⟩⟩
/-- what the gathered rows hold: their characters, joined -/
theorem join_none (xs : List (List UInt8)) : Lib.join xs [] = xs.flatten := by
  cases xs with
  | nil => rfl
  | cons x t =>
    rw [Lib.join_cons]
    unfold Lib.joinTail
    simp
def rowsL (l : List UInt8) : List (List UInt8) := (gat [] (chs l) (brk 0 (chs l))).map List.flatten
theorem piece2_len {α : Type} (ps : List α) (x : Nat × Nat) (h : x.1 ≤ x.2) (h2 : x.2 ≤ ps.length) : (piece2 ps x).length = x.2 - x.1 := by
  unfold piece2
  rw [List.length_take, List.length_drop]
  omega
theorem piece2_get {α : Type} (ps : List α) (x : Nat × Nat) (i : Nat) (h : i < x.2 - x.1) : (piece2 ps x)[i]? = ps[x.1 + i]? := by
  unfold piece2
  rw [List.getElem?_take_of_lt h, List.getElem?_drop]
theorem piece2_map {α β : Type} (f : α → β) (ps : List α) (x : Nat × Nat) : (piece2 ps x).map f = piece2 (ps.map f) x := by
  unfold piece2
  rw [List.map_take, List.map_drop]
theorem rowsL_ivs (l : List UInt8) : rowsL l = (ivs 0 0 (brk 0 (chs l))).map fun x => (piece2 (chs l) x).flatten := by
  unfold rowsL
  rw [gat_all _ _ (brk_len _ _).symm, List.map_map]
  rfl
theorem flat_le : ∀ (a b : List (List UInt8)) (cs : List (List UInt8)), cs = a ++ b → (b.flatten).length ≤ cs.flatten.length := by
  intro a b cs h
  subst h
  simp
theorem piece_flat (l : List UInt8) (x : Nat × Nat) : ((piece2 (chs l) x).flatten).length ≤ l.length := by
  have h1 : (piece2 (chs l) x).flatten.length ≤ ((chs l).drop x.1).flatten.length := by
    unfold piece2
    conv => rhs; rw [← List.take_append_drop (x.2 - x.1) ((chs l).drop x.1)]
    simp
  have h2 : ((chs l).drop x.1).flatten.length ≤ (chs l).flatten.length := flat_le ((chs l).take x.1) _ _ (List.take_append_drop _ _).symm
  rw [chs_flat] at h2
  omega

set_option maxHeartbeats 4000000 in
set_option maxRecDepth 100000 in
theorem rowsOf_any (s : ByteArray) (w : World) (hT : Tabs w) (hs : s.size < 1000000000) :
    Calls Tryd.prog 35 #[.string s] w fun e w' => ∃ v, e = .returned v ∧ OwnT w.heap.size w' v (sts (rowsL s.data.toList)) ∧ Below w.heap.size w w' := by
  obtain ⟨L, hL⟩ : ∃ L, chs s.data.toList = L := ⟨_, rfl⟩
  have hLc := chs_size s.data.toList
  have hLl := chs_len s.data.toList
  have hiv := rowsL_ivs s.data.toList
  have hpf := piece_flat s.data.toList
  rw [hL] at hLc hLl hiv hpf
  rw [← Lib.size_eq] at hLl
  have hsz := Lib.size_eq s
  obtain ⟨b, hb⟩ : ∃ b, w.heap.size = b := ⟨_, rfl⟩
  obtain ⟨W0, hW0⟩ : ∃ W0, w.alloc (.cells #[.int .i64 0] 3) = W0 := ⟨_, rfl⟩
  have hB0 : Bk W0 b 3 #[.int .i64 0] := by
    rw [← hW0, ← hb]
    exact Bk.new w 3 #[.int .i64 0]
  have b0 : Below b w W0 := by
    rw [← hW0, ← hb]
    exact (Below.refl _ _).alloc (Nat.le_refl _) _
  have hs0 : W0.heap.size = b + 1 := by rw [← hW0, ← hb]; simp
  have hCh := characters_any s W0 (hT.below (by rw [hb]; exact b0)) (by omega)
  rw [hL, hs0] at hCh
  have HCh := Lib.hid hCh
  have HJ := Lib.hid (fun bk o c xs W h1 h2 h3 h4 h5 => Tryd.strings_Join bk o c xs ⟨#[]⟩ W h1 h2 h3 h4 h5)
  have HW0 := Lib.hid hW0
  have HBk := Lib.hid hB0
  have HIV := Lib.hid hiv
  have HPF := Lib.hid hpf
  have HLc := Lib.hid hLc
  have hal : (w.alloc (.cells #[.int .i64 0] 3)).cell? ⟨w.heap.size, 0, none⟩ = some (.int .i64 0) := cell_of_row _ _ 0 _ 3 (0, 0) (heap_alloc_new w _)
  have hfr : (w.alloc (.cells #[.int .i64 0] 3)).frozen? ⟨w.heap.size, 0, none⟩ = false := World.frozen?_alloc_new w _ _ _
  rw [hb] at hal hfr
  clear hW0 hB0 hCh hL hiv hpf hLc
  go_enter Tryd.func35, Tryd.ntmps35
  go_wp2_with fail
  rw [HW0.out]
  refine HCh.out.mono ?_
  rintro e w1 ⟨g, cap, rfl, hc1, hc2, hg1, hg2, hcells, b1⟩
  have hs1 := b1.size
  have hxl : (sts L).length = L.length := sts_len L
  have hbl := brk_len L 0
  obtain ⟨C, hC⟩ : ∃ C, w1.heap.size = C := ⟨_, rfl⟩
  have hB1 : Bk w1 b 3 #[.int .i64 (siz 0 L 0 : Nat)] := by
    rw [siz_zero]
    exact HBk.out.below b1 (by omega)
  have HG := gatherR_any g cap L.length b C (sts L) (brk 0 L) (fun k W => Bk W b 3 #[.int .i64 (siz 0 L k : Nat)]) w1 (by omega) (by omega) (by omega) (by omega) hcells hxl hbl hc1 hc2 (by omega) hB1
    (fun k W W' h1 h2 => (show W'.heap[b]? = _ from h1.trans h2))
    (fun k x B W hx hB hI hCW _ => by
      unfold sts at hx
      rw [List.getElem?_map] at hx
      obtain ⟨c, hc, rfl⟩ := Option.map_eq_some_iff.1 hx
      obtain ⟨n1, n2⟩ := siz_next L 0 k c hc
      have hc4 := (HLc.out c (List.mem_of_getElem? hc)).2
      have h75 := siz_le L 0 k (by omega) (fun d hd => (HLc.out d hd).2)
      rw [hB] at n2
      have hBe : B = !decide (siz 0 L k + c.length ≤ 75) := Option.some.inj n2
      have := rowsFn_any b ⟨c.toArray⟩ (siz 0 L k) W h75 (by rw [Lib.size_eq]; exact hc4) hI
      rw [show (⟨c.toArray⟩ : ByteArray).size = c.length from Lib.size_eq _] at this
      rw [hBe, n1]
      exact this)
  have HGO := Lib.hid HG
  have Hcells := Lib.hid hcells
  have HC1 : Hid (∀ x ∈ ivs 0 0 (brk 0 L), x.1 ≤ x.2 ∧ x.2 ≤ L.length) := fun x hx => by
    have := ivs_ok (brk 0 L) 0 0 (Nat.le_refl _) x hx
    rw [hbl, Nat.zero_add] at this
    exact this
  have hIl := (ivs_len (brk 0 L) 0 0).2
  rw [hbl] at hIl
  clear HG hcells hB1 hxl hbl HBk HCh
  go_wp2_with fail
  refine HGO.out.mono ?_
  rintro e w2 ⟨v, rfl, ⟨g2, cap2, rfl, hr1, hr2, hr3, hr4⟩, -, t2⟩
  obtain ⟨I, hI⟩ : ∃ I, ivs 0 0 (brk 0 L) = I := ⟨_, rfl⟩
  rw [hI] at HIV HC1 hIl hr1 hr4 ⊢
  have HI := Lib.hid hI
  have HR4 := Lib.hid hr4
  have ht2 := t2.below
  have hs2 := ht2.size
  have b2 : Below b w w2 := (b0.trans (b1.mono (by omega))).trans ht2
  have hcell2 : Hid (∀ j x, (sts L)[j]? = some x → w2.cell? ⟨g, j, none⟩ = some (.string x)) := fun j x hx => by
    rw [World.cell?_of_block (w := w1) (w' := w2) (a := ⟨g, j, none⟩) (t2.keeps (g := g) (by omega) (by omega))]
    exact Hcells.out j x hx
  obtain ⟨C2, hC2⟩ : ∃ C2, w2.heap.size = C2 := ⟨_, rfl⟩
  rw [hC2] at hr3
  have HBw := Lib.hid b2
  clear hI hr4 t2 ht2 b2 HGO Hcells
  go_wp2_with fail
  go_loopw [5, 14] (fun lv at_ wr => ∃ (k : Nat) (v : Value), lv = v ∧ at_ = .int .i64 k ∧ k ≤ I.length ∧ Hid (OwnT C2 wr v ((sts (rowsL s.data.toList)).take k)) ∧ Below C2 w2 wr) (fun _ at_ _ => I.length - (intOf at_).toNat)
  case atStart => exact ⟨0, _, rfl, rfl, Nat.zero_le _, OwnT.nil _ _, Below.refl _ _⟩
  case round =>
    obtain ⟨k, lv, hlv, rfl, hk, hown, hb3⟩ := hrel
    have hlv2 := hlv.symm
    subst hlv2
    have hsw := hb3.size
    rw [hC2] at hsw
    by_cases hlt : k < I.length
    · obtain ⟨x, hx⟩ : ∃ x, I[k]? = some x := ⟨_, List.getElem?_eq_getElem hlt⟩
      have c0 := HR4.out k x hx
      rw [← hb3.cell (p := ⟨g2, k, none⟩) hr3] at c0
      obtain ⟨hx1, hx2⟩ := HC1.out x (List.mem_of_getElem? hx)
      have hpl := piece2_len (sts L) x hx1 (by rw [sts_len]; exact hx2)
      have hmap : (piece2 (sts L) x).map (·.data.toList) = piece2 L x := by
        rw [piece2_map]
        unfold sts
        rw [List.map_map]
        conv => rhs; rw [← List.map_id L]
        rfl
      have hJx := HJ.out g x.1 (cap - x.1) (piece2 (sts L) x) wr (fun j y hy => by
          have hj : j < x.2 - x.1 := by rw [← hpl]; exact (List.getElem?_eq_some_iff.1 hy).1
          rw [piece2_get _ _ _ hj] at hy
          rw [hb3.cell (p := ⟨g, x.1 + j, none⟩) (by show g < C2; omega)]
          exact hcell2.out _ _ hy) (by omega) (by rw [hpl]; omega) (by rw [hpl]; omega)
        (by rw [hmap, join_none]; have := HPF.out x; omega)
      rw [hmap, hpl, join_none] at hJx
      have HJx := Lib.hid hJx
      have hrow : (rowsL s.data.toList)[k]? = some (piece2 L x).flatten := by rw [HIV.out, List.getElem?_map, hx]; rfl
      have htk : Hid ((sts (rowsL s.data.toList)).take (k + 1) = (sts (rowsL s.data.toList)).take k ++ [⟨((piece2 L x).flatten).toArray⟩]) := by
        unfold Hid
        rw [List.take_add_one]
        unfold sts
        rw [List.getElem?_map, hrow]
        rfl
      have HAL : Hid (((sts (rowsL s.data.toList)).take k).length ≤ 1000000000000) := by unfold Hid; rw [List.length_take]; omega
      obtain ⟨P, hP⟩ : ∃ P : ByteArray, ⟨((piece2 L x).flatten).toArray⟩ = P := ⟨_, rfl⟩
      rw [hP] at HJx htk
      unfold slv at c0
      clear hx hpl hmap hJx hrow hP
      go_wp2_with fail
      refine HJx.out.mono ?_
      rintro e w4 ⟨rfl, b4⟩
      have hb4 : Below C2 w2 w4 := hb3.trans (b4.mono hsw)
      have hsw4 := hb4.size
      rw [hC2] at hsw4
      have hown4 := Lib.hid (hown.out.below b4)
      clear b4
      go_wp2_with (at_builtin; refine push_str rfl _ _ rfl C2 lv _ P w4 rfl hown4.out rfl HAL.out hsw4 ?_)
      intro v' w5 h1 h2
      have R1 : Hid (OwnT C2 w5 v' ((sts (rowsL s.data.toList)).take (k + 1))) := by unfold Hid; rw [htk.out]; exact h1
      clear h1
      go_wp2_with fail
      go_roundw
      case rel => exact ⟨k + 1, _, rfl, by go_num, by omega, R1, hb4.trans h2⟩
      case measure => simp [intOf]; omega
    · have hke : (sts (rowsL s.data.toList)).length ≤ k := by rw [sts_len, HIV.out, List.length_map]; omega
      have ho := hown.out
      rw [List.take_of_length_le hke] at ho
      have HOO := Lib.hid (ho.weak (B' := b) (by omega))
      clear hke ho
      go_wp2_with fail
      go_ret
      exact ⟨lv, rfl, HOO.out, HBw.out.trans (hb3.mono (by omega))⟩
end Go.Proofs.YtjdpdkghfbaddaaDoor
