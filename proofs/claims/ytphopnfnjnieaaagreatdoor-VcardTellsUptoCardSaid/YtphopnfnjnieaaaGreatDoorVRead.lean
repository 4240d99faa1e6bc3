/-
  package vcard: the cards as they are handed out (told); Read: what it answers, at every string.
-/
import Derived.Test.YtphopnfnjnieaaaGreatDoorVTak
import Derived.Test.YtphopnfnjnieaaaGreatDoorFoEn
namespace Go.Proofs.YtphopnfnjnieaaaGreatDoor
open Go.RowKit Vc

/-! ### lengths -/
def totL (m : List (List UInt8)) : Nat := (m.map List.length).sum
theorem tot_cons (x : List UInt8) (m : List (List UInt8)) : totL (x :: m) = x.length + totL m := by simp [totL]
theorem tot_append (a b : List (List UInt8)) : totL (a ++ b) = totL a + totL b := by simp [totL]
theorem tot_mem {m : List (List UInt8)} {x : List UInt8} (h : x ∈ m) : x.length ≤ totL m := by
  induction m with
  | nil => cases h
  | cons y m ih =>
    rw [tot_cons]
    rcases List.mem_cons.1 h with rfl | h
    · omega
    · have := ih h; omega
theorem lines_tot : ∀ (rs acc ls : List (List UInt8)), Tx.linesA acc rs = some ls → totL ls ≤ totL acc + totL rs ∧ ls.length ≤ acc.length + rs.length
  | [], acc, ls, h => by
    rw [Tx.linesA_nil] at h
    obtain rfl : acc = ls := Option.some.inj h
    exact ⟨by simp [totL], by simp⟩
  | r :: t, acc, ls, h => by
    cases hc : Tx.cont r with
    | true =>
      by_cases ha : acc = []
      · subst ha
        rw [Tx.linesA_bad t hc] at h
        cases h
      · rw [Tx.linesA_more t hc ha] at h
        obtain ⟨h1, h2⟩ := lines_tot t _ ls h
        rw [Tx.addLast_len ha] at h2
        have h3 : totL (Tx.addLast acc r.tail) = totL acc + r.tail.length := by
          obtain ⟨a, y, rfl⟩ : ∃ a y, acc = a ++ [y] := ⟨acc.dropLast, acc.getLast ha, (List.dropLast_concat_getLast ha).symm⟩
          rw [Tx.addLast_snoc, tot_append, tot_append, tot_cons, tot_cons]
          simp only [List.length_append]
          omega
        rw [h3] at h1
        rw [tot_cons]
        simp only [List.length_tail, List.length_cons] at h1 ⊢
        exact ⟨by omega, by omega⟩
    | false =>
      rw [Tx.linesA_new acc t hc] at h
      obtain ⟨h1, h2⟩ := lines_tot t _ ls h
      rw [tot_append] at h1
      rw [tot_cons]
      simp only [List.length_append, List.length_cons, List.length_nil] at h2 ⊢
      have : totL [r] = r.length := by simp [totL]
      exact ⟨by omega, by omega⟩
theorem ends_tot : ∀ rs : List (List UInt8), (Tx.ends rs).length = totL rs + 2 * rs.length
  | [] => rfl
  | r :: t => by
    rw [Tx.ends_cons, tot_cons]
    simp only [List.length_append, List.length_cons]
    have := ends_tot t
    omega
theorem unfold_tot {l : List UInt8} {ls : List (List UInt8)} (h : Tx.unfold l = some ls) : totL ls ≤ l.length ∧ ls.length ≤ l.length := by
  unfold Tx.unfold at h
  cases hr : Tx.rowsA [] l with
  | none => rw [hr] at h; cases h
  | some rs =>
    rw [hr] at h
    have h1 := rowsA_back _ _ _ _ (Nat.le_refl _) hr
    rw [List.nil_append] at h1
    have h2 := ends_tot rs
    rw [h1] at h2
    obtain ⟨h3, h4⟩ := lines_tot rs [] ls h
    have : totL [] = 0 := rfl
    simp only [List.length_nil] at h4
    exact ⟨by omega, by omega⟩

/-! ### rows of rows that can be read -/
/-- A slice of slices of properties that can be read. -/
def ReadV (w : World) (v : Value) (cs : List (List Pr)) : Prop := ∃ A cap, v = .slice A cs.length cap ∧ (0 < cs.length → ∃ ad : Addr, A = some ad ∧ ad.block < w.heap.size ∧ ∀ i c, cs[i]? = some c → ∃ u, w.cell? (ad.add i) = some u ∧ ReadP w u c)
theorem ReadV.below {w w' : World} {v : Value} {cs : List (List Pr)} (h : ReadV w v cs) (hb : Below w.heap.size w w') : ReadV w' v cs := by
  obtain ⟨A, cap, rfl, h2⟩ := h
  refine ⟨A, cap, rfl, fun h0 => ?_⟩
  obtain ⟨ad, rfl, hl, hc⟩ := h2 h0
  refine ⟨ad, rfl, Nat.lt_of_lt_of_le hl hb.size, fun i c hi => ?_⟩
  obtain ⟨u, h3, h4⟩ := hc i c hi
  exact ⟨u, by rw [hb.cell (by rw [addBlock]; exact hl)]; exact h3, h4.below hb⟩
theorem ReadV.nil (w : World) : ReadV w (.slice none 0 0) [] := ⟨none, 0, rfl, fun h => absurd h (Nat.not_lt_zero _)⟩
theorem ReadV.slice {w : World} {v : Value} {cs : List (List Pr)} (h : ReadV w v cs) : ∃ A cap, v = .slice A cs.length cap := by
  obtain ⟨A, cap, rfl, _⟩ := h
  exact ⟨A, cap, rfl⟩
theorem infoPs : (Tryz.prog.info? 25).map (fun i => (i.zero, i.size, i.bytes)) = some (some (.slice none 0 0), 1, 24) := by kernel_rfl
/-- The slice v, made by the call (above block B), holds just these slices. -/
def OwnG (B : Nat) (w : World) (v : Value) (us : List Value) : Prop := w.ownsRow B 25 1 v us.length us
theorem OwnG.nil (B : Nat) (w : World) : OwnG B w (.slice none 0 0) [] := World.ownsRow_nil _ _ _ _
theorem OwnG.slice {B : Nat} {w : World} {v : Value} {l : List Value} (h : OwnG B w v l) : ∃ A cap, v = .slice A l.length cap := by
  rcases h.2 with ⟨rfl, h0⟩ | ⟨g, cap, cur, rfl, _⟩
  · exact ⟨none, 0, by rw [h0]⟩
  · exact ⟨_, _, rfl⟩
theorem OwnG.keep {B : Nat} {w w' : World} {v : Value} {l : List Value} (h : OwnG B w v l) (hb : ∀ g cs, Bk w g 25 cs → Bk w' g 25 cs) : OwnG B w' v l :=
  ⟨h.1, h.2.imp id fun ⟨g, cap, cur, k1, k2, k3, k4⟩ => ⟨g, cap, cur, k1, k2, hb g cur k3, k4⟩⟩
theorem OwnG.below {B : Nat} {w w' : World} {v : Value} {l : List Value} (h : OwnG B w v l) (hb : Below w.heap.size w w') : OwnG B w' v l := h.keep (fun _ _ hg => (hb.block _ hg.lt).trans hg)
theorem OwnG.reads {B : Nat} {w : World} {v : Value} {us : List Value} {cs : List (List Pr)} (h : OwnG B w v us) (hl : us.length = cs.length) (hr : ∀ (i : Nat) (u : Value) (c : List Pr), us[i]? = some u → cs[i]? = some c → ReadP w u c) : ReadV w v cs := by
  have h' : w.ownsRow B 25 1 v us.length us := h
  rcases h'.2 with ⟨rfl, h0⟩ | ⟨g, cap, cur, rfl, hg, hh, h1, h2, h3, h4⟩
  · refine ⟨none, 0, by rw [← hl, h0], fun h => by omega⟩
  · refine ⟨_, cap, by rw [hl], fun _ => ⟨_, rfl, lt_of_block hh, fun i c hi => ?_⟩⟩
    have hi2 := (List.getElem?_eq_some_iff.1 hi).1
    have hu : us[i]? = some us[i] := List.getElem?_eq_getElem (by omega)
    refine ⟨us[i], ?_, hr i _ c hu hi⟩
    rw [add_at, Nat.zero_add]
    have hk : Bk w g 25 cur := hh
    rw [hk.cell, ← Array.getElem?_toList, ← hu]
    conv => rhs; rw [← h4]
    rw [List.getElem?_take_of_lt (by omega)]
theorem RowP.one {C : Nat} {w : World} {v : Value} {ps : List Pr} (h : RowP C w v ps) : v.oneCell' = true := by
  obtain ⟨A, cap, rfl, _⟩ := h
  rfl
set_option maxHeartbeats 4000000 in
set_option maxRecDepth 100000 in
/-- (*reading).told -/
theorem told_any (B R : Nat) (w : World) (a : List (List Pr)) (hR : Rdg B R w (a, none)) :
    Calls Tryz.prog 17 #[.pointer (some ⟨R, 0, none⟩)] w fun e w' => ∃ v, e = .returned v ∧ ReadV w' v a ∧ Below w.heap.size w w' := by
  obtain ⟨v, us, C, hBC, hC, hk, ho, hr, hn⟩ := hR
  simp only at hr hn
  obtain ⟨A, cap, rfl, hc⟩ := ho.at
  have hul : us.length = a.length := hr.1
  have c1 : w.cell? ⟨R, 1, none⟩ = some (.slice A us.length cap) := hk.cell 1
  have HR := Lib.hid hr
  have HUL := Lib.hid hul
  obtain ⟨D, hD⟩ : ∃ D, w.heap.size = D := ⟨_, rfl⟩
  have HD := Lib.hid hD
  rw [hD] at hc ⊢
  have HC := Lib.hid hc
  have hn2 : us.length ≤ 60 := by omega
  have HB0 : Hid (Below D w w) := Below.refl _ _
  have HO0 : Hid (OwnG D w (.slice none 0 0) (us.take 0)) := by rw [List.take_zero]; exact OwnG.nil _ _
  obtain ⟨n, hnn⟩ : ∃ n, us.length = n := ⟨_, rfl⟩
  rw [hnn] at c1 hn2 HC
  have HNN := Lib.hid hnn
  clear hk ho hr hc hul hD hn hnn
  go_enter Tryz.func17, Tryz.ntmps17
  go_wp2_with fail
  go_loopw [3, 12] (fun lv iv wr => ∃ (k : Nat) (lx : Value), lv = lx ∧ iv = .int .i64 k ∧ k ≤ n ∧ Hid (OwnG D wr lx (us.take k)) ∧ Hid (Below D w wr)) (fun _ iv _ => n - (intOf iv).toNat)
  case atStart => exact ⟨0, _, rfl, rfl, Nat.zero_le _, HO0, HB0⟩
  case round =>
    obtain ⟨k, lx, hlx, rfl, hkn, HO, HBW⟩ := hrel
    have hlx2 := hlx.symm
    subst hlx2
    by_cases hlt : k < n
    · obtain ⟨g, rfl, hgl, hcell⟩ := HC.out (by omega)
      obtain ⟨u, hu⟩ : ∃ u, us[k]? = some u := ⟨_, List.getElem?_eq_getElem (by rw [HNN.out]; exact hlt)⟩
      obtain ⟨l0, l1⟩ := hcell k u hu
      rw [← HBW.out.cell (p := ⟨g, k * 2, none⟩) hgl] at l0
      rw [← HBW.out.cell (p := ⟨g, k * 2 + 1, none⟩) hgl] at l1
      have HUK : Hid (us.take (k + 1) = us.take k ++ [u]) := by unfold Hid; rw [List.take_add_one, hu]; rfl
      obtain ⟨c, hcc⟩ : ∃ c, a[k]? = some c := ⟨_, List.getElem?_eq_getElem (by rw [← HUL.out, HNN.out]; exact hlt)⟩
      have hu1 := (HR.out.2 k u c hu hcc).one
      have HU1 := Lib.hid hu1
      obtain ⟨UA, ul, ucap, rfl⟩ : ∃ A n cap, u = .slice A n cap := by obtain ⟨A, cap, e, _⟩ := HR.out.2 k u c hu hcc; exact ⟨A, _, cap, e⟩
      have hkl : Hid ((us.take k).length = k) := by unfold Hid; rw [List.length_take, HNN.out]; omega
      have HZ : Hid (D ≤ wr.heap.size) := by rw [← HD.out]; exact (HD.out ▸ HBW.out : Below w.heap.size w wr).size
      clear hcell hu hcc hu1 hlx
      go_upto_region 5 with fail
      obtain ⟨W5, hW5⟩ : ∃ W5, wr.alloc (.cells #[.slice UA ul ucap, .int .i64 40] 75) = W5 := ⟨_, rfl⟩
      obtain ⟨Y, hY⟩ : ∃ Y, wr.heap.size = Y := ⟨_, rfl⟩
      have b5 : Below wr.heap.size wr W5 := by rw [← hW5]; exact (Below.refl _ _).alloc (Nat.le_refl _) _
      have k5 : Bk W5 Y 75 #[.slice UA ul ucap, .int .i64 40] := by rw [← hW5, ← hY]; exact Bk.new _ _ _
      have y0 : W5.cell? ⟨Y, 0, none⟩ = some (.slice UA ul ucap) := k5.cell 0
      have o5 : W5.ownsRow D 25 1 lx k (us.take k) := by
        have := HO.out.below b5
        unfold OwnG at this
        rwa [hkl.out] at this
      have O5 := Lib.hid o5
      have B5 : Hid (Below D w W5) := HBW.out.trans (b5.mono HZ.out)
      have Z5 : Hid (D ≤ W5.heap.size) := Nat.le_trans HZ.out b5.size
      obtain ⟨LA, lcap, rfl⟩ : ∃ A cap, lx = .slice A k cap := by
        obtain ⟨A, cap, e⟩ := HO.out.slice
        rw [hkl.out] at e
        exact ⟨A, cap, e⟩
      obtain ⟨i0, hi, hz0, hz1, hz2⟩ := info_parts infoPs
      have HI := Lib.hid hi
      have HZ0 := Lib.hid hz0
      have HZ1 := Lib.hid hz1
      have HZ2 := Lib.hid hz2
      rw [hW5, hY]
      clear b5 k5 hW5 hY o5 l0 l1 hi hz0 hz1 hz2
      go_wp2_with (at_builtin; refine push_one Tryz.underlying22 HI.out HZ0.out HZ1.out HZ2.out rfl rfl _ _ rfl D (.slice LA k lcap) k (us.take k) (.slice UA ul ucap) W5 rfl O5.out rfl HU1.out (by omega) (by omega) Z5.out ?_)
      intro v6 w6 o6 b6
      have O6 : Hid (OwnG D w6 v6 (us.take (k + 1))) := by
        unfold Hid OwnG
        rw [HUK.out, List.length_append, hkl.out]
        exact o6
      have B6 : Hid (Below D w w6) := B5.out.trans b6
      clear o6 b6
      go_wp2_with fail
      go_roundw
      case rel => exact ⟨k + 1, _, rfl, by go_num, by omega, O6, B6⟩
      case measure => simp [intOf]; omega
    · have hke : k = n := by omega
      have HOE : Hid (OwnG D wr lx us) := by
        have := HO.out
        rw [List.take_of_length_le (by rw [HNN.out]; omega)] at this
        exact this
      obtain ⟨LA, lcap, rfl⟩ := HO.out.slice
      clear hlx
      go_wp2_with fail
      go_ret
      have hbw : Below w.heap.size w wr := by rw [HD.out]; exact HBW.out
      exact ⟨_, rfl, HOE.out.reads HUL.out (fun i u c h1 h2 => ((HR.out.below hbw).2 i u c h1 h2).reads), HBW.out⟩
end Go.Proofs.YtphopnfnjnieaaaGreatDoor
