import Derived.Test.YtogjhpcjjmcjfaaGreatDoorM38
import Derived.Test.YtogjhpcjjmcjfaaGreatDoorM32
import Derived.Test.YtogjhpcjjmcjfaaGreatDoorM39
import Derived.Test.YtogjhpcjjmcjfaaGreatDoorM29
import Derived.Test.YtogjhpcjjmcjfaaGreatDoorM44
section
/- what is reached of it -/
namespace Go.Proofs.YtogjhpcjjmcjfaaGreatDoor
open Sy Tx Vc Ct
theorem ins_find {α : Type} {lt : α → α → Bool} (hW : Weak lt) {q : α → Bool} (hq : ∀ x y, q x = true → q y = true → lt x y = false) (x : α) : ∀ l : List α, Up lt l → (insS lt x l).filter q = l.filter q ++ [x].filter q
  | [], _ => rfl
  | y :: l, hu => by
    obtain ⟨hy, hl⟩ := List.pairwise_cons.1 hu
    unfold insS
    split
    · next hxy =>
      by_cases hx : q x = true
      · have hn : ∀ z ∈ y :: l, q z = false := fun z hz => by
          have hxz : lt x z = true := by
            rcases List.mem_cons.1 hz with rfl | hz
            · exact hxy
            · exact hW.n1 hxy (hy z hz)
          cases hqz : q z with
          | false => rfl
          | true => rw [hq x z hx hqz] at hxz; cases hxz
        have e : (y :: l).filter q = [] := List.filter_eq_nil_iff.2 fun z hz => by rw [hn z hz]; decide
        rw [e, List.filter_cons_of_pos hx, e, List.nil_append, List.filter_cons_of_pos hx]
        rfl
      · have e : [x].filter q = [] := List.filter_eq_nil_iff.2 fun z hz => by rw [List.mem_singleton] at hz; rw [hz]; exact hx
        rw [e, List.append_nil, List.filter_cons_of_neg hx]
    · rw [List.filter_cons, List.filter_cons, ins_find hW hq x l hl]
      split <;> rfl
theorem sort_filter {α : Type} {lt : α → α → Bool} (hW : Weak lt) {q : α → Bool} (hq : ∀ x y, q x = true → q y = true → lt x y = false) (l : List α) : (sortS lt l).filter q = l.filter q := by
  suffices g : ∀ r : List α, (sortS lt r.reverse).filter q = r.reverse.filter q by have := g l.reverse; rwa [List.reverse_reverse] at this
  intro r
  induction r with
  | nil => rfl
  | cons x r ih =>
    rw [List.reverse_cons, sortS_snoc, ins_find hW hq x _ (sortS_up hW _), ih, List.filter_append]
theorem sort_find {α : Type} {lt : α → α → Bool} (hW : Weak lt) {q : α → Bool} (hq : ∀ x y, q x = true → q y = true → lt x y = false) (l : List α) : (sortS lt l).find? q = l.find? q := by
  rw [← List.head?_filter, ← List.head?_filter, sort_filter hW hq]
theorem ins_end {α : Type} {lt : α → α → Bool} (x : α) : ∀ l : List α, (∀ y ∈ l, lt x y = false) → insS lt x l = l ++ [x]
  | [], _ => rfl
  | y :: l, h => by
    unfold insS
    rw [if_neg (by rw [h y List.mem_cons_self]; decide), ins_end x l (fun z hz => h z (List.mem_cons_of_mem _ hz))]
    rfl
theorem sort_same {α : Type} {lt : α → α → Bool} : ∀ l : List α, Up lt l → sortS lt l = l := by
  suffices g : ∀ r : List α, Up lt r.reverse → sortS lt r.reverse = r.reverse from fun l h => by have := g l.reverse (by rw [List.reverse_reverse]; exact h); rwa [List.reverse_reverse] at this
  intro r
  induction r with
  | nil => intro _; rfl
  | cons x r ih =>
    intro h
    rw [List.reverse_cons] at h ⊢
    obtain ⟨h1, _, h3⟩ := List.pairwise_append.1 h
    rw [sortS_snoc, ih h1, ins_end x _ (fun y hy => h3 y hy x List.mem_cons_self)]
theorem sort_again {α : Type} {lt : α → α → Bool} (hW : Weak lt) (l : List α) : sortS lt (sortS lt l) = sortS lt l := sort_same _ (sortS_up hW l)
/-- items by their addresses -/
def ltJ (x y : Itm) : Bool := Jd.lessL x.jid y.jid
theorem ltJ_weak : Weak ltJ := ⟨fun h => lessL_weak.asym h, fun h y => lessL_weak.neg h y.jid⟩
theorem find_jid (l : List Itm) (j : List UInt8) : (sortS ltJ l).find? (fun p => decide (p.jid = j)) = l.find? (fun p => decide (p.jid = j)) :=
  sort_find ltJ_weak (fun x y hx hy => by
    have h1 := of_decide_eq_true hx
    have h2 := of_decide_eq_true hy
    show Jd.lessL x.jid y.jid = false
    rw [h1, h2]
    exact lessL_weak.irr j) l
theorem sort_okI (L : List ItOk) : (sortS ltI L).map (fun x => x.1.1) = sortS ltJ (L.map fun x => x.1.1) := (sortS_map (fun x : ItOk => x.1.1) (lt := ltI) (lt' := ltJ) (fun _ _ => rfl) L).symm
end Go.Proofs.YtogjhpcjjmcjfaaGreatDoor
end
section
/- what is reached of it -/
namespace Go.Proofs.YtogjhpcjjmcjfaaGreatDoor
open Go.RowKit Go.Sort Sy Tx Vc Ct
namespace Sy
variable {α : Type} [Inhabited α] {enc : α → List Value} {k : Nat} {W0 W W' : World} {B : Nat} {d : Array α}
theorem get_setI (d : Array α) (i j : Nat) (hi : i < d.size) (y : α) : (d.setIfInBounds i y)[j]! = if j = i then y else d[j]! := by
  by_cases h : j = i
  · subst h
    rw [if_pos rfl, getElem!_pos (d.setIfInBounds j y) j (by simpa using hi), Array.getElem_setIfInBounds_self]
  · rw [if_neg h]
    by_cases hj : j < d.size
    · rw [getElem!_pos (d.setIfInBounds i y) j (by simpa using hj), getElem!_pos d j hj]
      rw [Array.getElem_setIfInBounds]
      exact if_neg (fun e => h e.symm)
    · rw [getElem!_neg (d.setIfInBounds i y) j (by simpa using hj), getElem!_neg d j hj]
theorem setMany_set (hk : ∀ x, (enc x).length = k) (d : Array α) (i : Nat) (hi : i < d.size) (y : α) : setMany (flatK enc k d) (i * k) (enc y) = flatK enc k (d.setIfInBounds i y) := by
  refine ext_get! (by simp) fun t ht => ?_
  have ht' : t < d.size * k := by simpa using ht
  have k0 : 0 < k := by
    rcases Nat.eq_zero_or_pos k with h | h
    · subst h; simp at ht'
    · exact h
  rw [get_setMany _ _ _ t (by simpa using ht'), get_flatK _ _ _ t ht', get_flatK _ _ _ t (by simpa using ht'), hk, get_setI d i _ hi]
  by_cases a : t / k = i
  · rw [if_pos ((blk_iff k i t k0).2 a), if_pos a, show t - i * k = t % k from by subst a; rw [Nat.mod_eq_sub_div_mul]]
  · rw [if_neg (fun h => a ((blk_iff k i t k0).1 h)), if_neg a]
theorem St.put1 (h : St enc k W0 B d W) (R : Enc enc k) (i : Nat) (hi : i < d.size) (y : α) : St enc k W0 B (d.setIfInBounds i y) (W.setCells B (i * k) (enc y)) := by
  refine ⟨grownBy_setCells _ _ _ h.grown, ?_, h.lt⟩
  have a := holds_setCellsS h.holds (i * k) (enc y) (by rw [R.hk, size_flatK]; exact rowK_bndS d k i hi)
  rw [Nat.zero_add, setMany_set R.hk d i hi y] at a
  exact a
end Sy
theorem six_cells (w : World) (g P : Nat) (a b c d e f : Value) : w.setCells g P [a, b, c, d, e, f] = (((((w.setCell ⟨g, P, none⟩ a).setCell ⟨g, P + 1, none⟩ b).setCell ⟨g, P + 2, none⟩ c).setCell ⟨g, P + 3, none⟩ d).setCell ⟨g, P + 4, none⟩ e).setCell ⟨g, P + 5, none⟩ f := rfl
theorem readI_of {W0 W : World} {g cap : Nat} {D : Array ItOk} (hS : St encIt 6 W0 g D W) (hT : ∀ j, j < D.size → ReadT W.heap.size W (sl D[j]!.1.2) (sts D[j]!.1.1.groups)) :
    ReadI W.heap.size W (.slice (some ⟨g, 0, none⟩) D.size cap) (D.toList.map (·.1)) := by
  refine ⟨_, cap, by simp, fun _ => ⟨g, 0, rfl, hS.ltW, fun i p hi c u hu => ?_⟩, fun p hp => ?_⟩
  · rw [List.getElem?_map] at hi
    obtain ⟨x, hx, rfl⟩ := Option.map_eq_some_iff.1 hi
    rw [Array.getElem?_toList] at hx
    obtain ⟨hlt, rfl⟩ := Array.getElem?_eq_some_iff.1 hx
    have hc : c < 6 := by
      have := (List.getElem?_eq_some_iff.1 hu).1
      simpa [encI] using this
    have h1 := (hS.cellI i hlt c hc).1
    rw [Nat.zero_add, h1, getElem!_pos D i hlt]
    have hl : c < (encIt D[i]).length := by rw [encIt_len]; exact hc
    rw [getElem!_pos (encIt D[i]) c hl]
    have hu2 : (encIt D[i])[c]? = some u := hu
    rw [List.getElem?_eq_getElem hl] at hu2
    exact hu2
  · obtain ⟨x, hx, rfl⟩ := List.mem_map.1 hp
    obtain ⟨j, hj, rfl⟩ := List.getElem_of_mem hx
    have hj2 : j < D.size := by simpa using hj
    have := hT j hj2
    rw [getElem!_pos D j hj2] at this
    rw [Array.getElem_toList]
    exact this
set_option linter.unusedSimpArgs false in
set_option maxHeartbeats 8000000 in
set_option maxRecDepth 100000 in
theorem sortIt_any (v : Value) (l : List (Itm × Slc)) (w : World) (hO : Okw w) (hR : ReadI w.heap.size w v l) (hl : l.length ≤ 1000000) (h : ∀ p ∈ l, p.1.jid.length ≤ 140737488355328) (hg : ∀ p ∈ l, p.1.groups.length ≤ 8796093022208) :
    Calls Tryz.prog 17 #[v] w fun e w' => ∃ v' l', e = .returned v' ∧ ReadI w'.heap.size w' v' l' ∧ l'.map (·.1) = sortS ltJ (l.map (·.1)) ∧ Below w.heap.size w w' := by
  have HQ := Lib.hid (orderedI_any v l h w hO hR hl)
  obtain ⟨L, hL⟩ : ∃ L, okI l h = L := ⟨_, rfl⟩
  have hLl : L.length = l.length := by rw [← hL]; exact okI_len l h
  have hLv : L.map (·.1) = l := by rw [← hL]; exact okI_val l h
  rw [hL] at HQ
  obtain ⟨S, hS⟩ : ∃ S, (sortS ltI L).toArray = S := ⟨_, rfl⟩
  obtain ⟨n, hn⟩ : ∃ n, l.length = n := ⟨_, rfl⟩
  have hSn : S.size = n := by rw [← hS, List.size_toArray, sortS_len, hLl, hn]
  have hmap : S.toList.map (fun x => x.1.1) = sortS ltJ (l.map (·.1)) := by
    rw [← hS]
    show (sortS ltI L).map (fun x => x.1.1) = _
    rw [sort_okI, ← hLv, List.map_map]
    rfl
  have hmem : ∀ j, j < n → S[j]!.1 ∈ l := fun j hj => by
    have hj2 : j < S.size := by omega
    rw [getElem!_pos S j hj2]
    have h1 : S[j] ∈ (sortS ltI L) := by
      have h3 : S.toList = sortS ltI L := by rw [← hS]
      rw [← h3, ← Array.getElem_toList]
      exact List.getElem_mem _
    have h2 := (sortS_perm L).mem_iff.1 h1
    rw [← hLv]
    exact List.mem_map.2 ⟨_, h2, rfl⟩
  have HRT : Hid (∀ j, j < n → ReadT w.heap.size w (sl S[j]!.1.2) (sts S[j]!.1.1.groups)) := by
    obtain ⟨_, _, _, _, hT⟩ := hR
    exact fun j hj => hT _ (hmem j hj)
  have HGL : Hid (∀ j, j < n → S[j]!.1.1.groups.length ≤ 8796093022208) := fun j hj => hg _ (hmem j hj)
  have HMAP := Lib.hid hmap
  have HSN := Lib.hid hSn
  unfold OrdIV at HQ
  rw [hS, hLl, hn] at HQ
  obtain ⟨va, vn, vc, rfl⟩ : ∃ a n c, v = .slice a n c := by obtain ⟨A, cap, hv, _⟩ := hR; exact ⟨A, _, cap, hv⟩
  rw [hn] at hl
  clear hO hR hL hLl hLv hS hn hSn hmap hmem h hg
  by_cases h0 : 0 < n
  · go_enter Tryz.func17, Tryz.ntmps17
    go_wp2_with fail
    refine HQ.out.mono ?_
    rintro e w1 ⟨A, cap, rfl, b1, h1⟩
    obtain ⟨g, W0, rfl, hnc, hge, hlt, hS⟩ := h1 h0
    have HB1 := Lib.hid b1
    have HGE := Lib.hid hge
    have HS1 := Lib.hid hS
    have HNC := Lib.hid hnc
    clear HQ b1 h1 hnc hge hlt hS
    go_wp2_with fail
    go_loopw [4, 5, 10] (fun xv yv iv wr => ∃ (u4 u5 : Value) (k : Nat) (D : Array ItOk), xv = u4 ∧ yv = u5 ∧ iv = .int .i64 k ∧ k ≤ n ∧ Hid (D.size = n) ∧ Hid (∀ j, j < n → D[j]!.1.1 = S[j]!.1.1) ∧ Hid (∀ j, k ≤ j → j < n → D[j]! = S[j]!) ∧ Hid (∀ j, j < k → OwnT (g + 1) wr (sl D[j]!.1.2) (sts D[j]!.1.1.groups)) ∧ Hid (St encIt 6 W0 g D wr) ∧ Hid (Below w.heap.size w wr)) (fun _ _ iv _ => n - (intOf iv).toNat)
    case atStart => exact ⟨_, _, 0, S, rfl, rfl, rfl, Nat.zero_le _, HSN.out, fun _ _ => rfl, fun _ _ _ => rfl, fun j hj => absurd hj (Nat.not_lt_zero _), HS1.out, HB1.out⟩
    case round =>
      clear HS1 HB1
      obtain ⟨u4, u5, k, D, hu4, hu5, rfl, hk, HDN, HDI, HDE, HDO, HST, BW⟩ := hrel
      have hu42 := hu4.symm
      have hu52 := hu5.symm
      clear hu4 hu5
      subst hu42 hu52
      by_cases hkn : k < n
      · have hkz : (k : Int) < (n : Int) := by omega
        have hdk := HDE.out k (Nat.le_refl _) hkn
        have hgl := HGL.out k hkn
        have hrt := HRT.out k hkn
        have CC := fun c hc => HST.out.cellI k (by rw [HDN.out]; exact hkn) c hc
        rw [hdk] at CC
        obtain ⟨x, hx⟩ : ∃ x, S[k]! = x := ⟨_, rfl⟩
        have HXE : Hid (S[k]! = x) := hx
        rw [hx] at CC hgl hrt
        clear hdk hx
        obtain ⟨⟨⟨xj, xm, xg, xs, xk, xa⟩, xA, xn, xc⟩, xo⟩ := x
        obtain ⟨X, hX⟩ : ∃ J, bts xj = J := ⟨_, rfl⟩
        obtain ⟨M, hM⟩ : ∃ J, bts xm = J := ⟨_, rfl⟩
        have eX : encIt ⟨(⟨xj, xm, xg, xs, xk, xa⟩, xA, xn, xc), xo⟩ = [.string X, .string M, .slice xA xn xc, .int .i64 xs, .bool xk, .bool xa] := by rw [← hX, ← hM]; rfl
        rw [eX] at CC
        obtain ⟨P, hP⟩ : ∃ P, k * 6 = P := ⟨_, rfl⟩
        rw [hP] at CC
        have HPK := Lib.hid hP
        have q0 : wr.cell? ⟨g, P, none⟩ = some (.string X) := (CC 0 (by decide)).1
        have q1 : wr.cell? ⟨g, P + 1, none⟩ = some (.string M) := (CC 1 (by decide)).1
        have q2 : wr.cell? ⟨g, P + 2, none⟩ = some (.slice xA xn xc) := (CC 2 (by decide)).1
        have q3 : wr.cell? ⟨g, P + 3, none⟩ = some (.int .i64 xs) := (CC 3 (by decide)).1
        have q4 : wr.cell? ⟨g, P + 4, none⟩ = some (.bool xk) := (CC 4 (by decide)).1
        have q5 : wr.cell? ⟨g, P + 5, none⟩ = some (.bool xa) := (CC 5 (by decide)).1
        clear CC
        obtain ⟨W3, hW3⟩ : ∃ W, wr.alloc (.cells #[.string ⟨#[]⟩, .string ⟨#[]⟩, .slice none 0 0, .int .i64 0, .bool false, .bool false] 24) = W := ⟨_, rfl⟩
        obtain ⟨p, hp⟩ : ∃ b, wr.heap.size = b := ⟨_, rfl⟩
        have K3 : Hid (Bk W3 p 24 #[.string ⟨#[]⟩, .string ⟨#[]⟩, .slice none 0 0, .int .i64 0, .bool false, .bool false]) := by rw [← hW3, ← hp]; exact Bk.new _ _ _
        have b3 : Below wr.heap.size wr W3 := by rw [← hW3]; exact (Below.refl _ _).alloc (Nat.le_refl _) _
        have HPW : Hid (wr.heap.size ≤ p) := by rw [← hp]; exact Nat.le_refl _
        have z0 : W3.cell? ⟨p, 0, none⟩ = some (.string ⟨#[]⟩) := K3.out.cell 0
        have zf0 : W3.frozen? ⟨p, 0, none⟩ = false := K3.out.free 0
        have z1 : W3.cell? ⟨p, 1, none⟩ = some (.string ⟨#[]⟩) := K3.out.cell 1
        have zf1 : W3.frozen? ⟨p, 1, none⟩ = false := K3.out.free 1
        have z2 : W3.cell? ⟨p, 2, none⟩ = some (.slice none 0 0) := K3.out.cell 2
        have zf2 : W3.frozen? ⟨p, 2, none⟩ = false := K3.out.free 2
        have z3 : W3.cell? ⟨p, 3, none⟩ = some (.int .i64 0) := K3.out.cell 3
        have zf3 : W3.frozen? ⟨p, 3, none⟩ = false := K3.out.free 3
        have z4 : W3.cell? ⟨p, 4, none⟩ = some (.bool false) := K3.out.cell 4
        have zf4 : W3.frozen? ⟨p, 4, none⟩ = false := K3.out.free 4
        have z5 : W3.cell? ⟨p, 5, none⟩ = some (.bool false) := K3.out.cell 5
        have zf5 : W3.frozen? ⟨p, 5, none⟩ = false := K3.out.free 5
        have K4 := Lib.hid (laid6_bk K3.out (.string X) (.string M) (.slice xA xn xc) (.int .i64 xs) (.bool xk) (.bool xa))
        have B4 := Lib.hid (laid6_below b3 HPW.out (.string X) (.string M) (.slice xA xn xc) (.int .i64 xs) (.bool xk) (.bool xa))
        obtain ⟨w4, hw4⟩ : ∃ z, laid6 W3 p (.string X) (.string M) (.slice xA xn xc) (.int .i64 xs) (.bool xk) (.bool xa) = z := ⟨_, rfl⟩
        rw [hw4] at K4 B4
        have HOWN : Hid (Calls Tryz.prog 30 #[.agg #[.string X, .string M, .slice xA xn xc, .int .i64 xs, .bool xk, .bool xa]] w4 fun e w' => ∃ gv', e = .returned (agI ⟨xj, xm, xg, xs, xk, xa⟩ gv') ∧ OwnT w4.heap.size w' gv' (sts xg) ∧ Below w4.heap.size w4 w') := by
          have := ownIZ_any ⟨xj, xm, xg, xs, xk, xa⟩ (.slice xA xn xc) w4 (hrt.upon (BW.out.trans (B4.out.mono BW.out.size))) hgl
          rw [two_cells] at this
          rw [← hX, ← hM]
          exact this
        have HX := Lib.hid hX
        have HM := Lib.hid hM
        clear b3 hrt hgl eX hX hM
        go_upto_region 5 with fail
        (try rw [hw4])
        clear hW3 hw4 z0 zf0 z1 zf1 z2 zf2 z3 zf3 z4 zf4 z5 zf5 q0 q1 q2 q3 q4 q5
        have e0 : w4.cell? ⟨p, 0, none⟩ = some (.string X) := K4.out.cell 0
        have e1 : w4.cell? ⟨p, 1, none⟩ = some (.string M) := K4.out.cell 1
        have e2 : w4.cell? ⟨p, 2, none⟩ = some (.slice xA xn xc) := K4.out.cell 2
        have e3 : w4.cell? ⟨p, 3, none⟩ = some (.int .i64 xs) := K4.out.cell 3
        have e4 : w4.cell? ⟨p, 4, none⟩ = some (.bool xk) := K4.out.cell 4
        have e5 : w4.cell? ⟨p, 5, none⟩ = some (.bool xa) := K4.out.cell 5
        go_wp2_with fail
        refine HOWN.out.mono ?_
        rintro e w5 ⟨gv, rfl, og, b5⟩
        obtain ⟨gA, gn, gc, rfl⟩ : ∃ A n cap, gv = .slice A n cap := by obtain ⟨A, cap, e⟩ := og.slice; exact ⟨A, _, cap, e⟩
        have hag : agI ⟨xj, xm, xg, xs, xk, xa⟩ (.slice gA gn gc) = .agg #[.string X, .string M, .slice gA gn gc, .int .i64 xs, .bool xk, .bool xa] := by rw [← HX.out, ← HM.out]; rfl
        rw [hag]
        have B5 : Hid (Below wr.heap.size wr w5) := B4.out.trans (b5.mono B4.out.size)
        have S5 := Lib.hid (HST.out.below B5.out)
        have HW45 : Hid (g + 1 ≤ w4.heap.size) := Nat.le_trans HST.out.ltW B4.out.size
        have OG := Lib.hid og
        have C5 := fun c hc => S5.out.cellI k (by rw [HDN.out]; exact hkn) c hc
        rw [HPK.out] at C5
        obtain ⟨n0, d0⟩ : ∃ u, w5.cell? ⟨g, P, none⟩ = some u := ⟨_, (C5 0 (by decide)).1⟩
        have f0 : w5.frozen? ⟨g, P, none⟩ = false := (C5 0 (by decide)).2
        obtain ⟨n1, d1⟩ : ∃ u, w5.cell? ⟨g, P + 1, none⟩ = some u := ⟨_, (C5 1 (by decide)).1⟩
        have f1 : w5.frozen? ⟨g, P + 1, none⟩ = false := (C5 1 (by decide)).2
        obtain ⟨n2, d2⟩ : ∃ u, w5.cell? ⟨g, P + 2, none⟩ = some u := ⟨_, (C5 2 (by decide)).1⟩
        have f2 : w5.frozen? ⟨g, P + 2, none⟩ = false := (C5 2 (by decide)).2
        obtain ⟨n3, d3⟩ : ∃ u, w5.cell? ⟨g, P + 3, none⟩ = some u := ⟨_, (C5 3 (by decide)).1⟩
        have f3 : w5.frozen? ⟨g, P + 3, none⟩ = false := (C5 3 (by decide)).2
        obtain ⟨n4, d4⟩ : ∃ u, w5.cell? ⟨g, P + 4, none⟩ = some u := ⟨_, (C5 4 (by decide)).1⟩
        have f4 : w5.frozen? ⟨g, P + 4, none⟩ = false := (C5 4 (by decide)).2
        obtain ⟨n5, d5⟩ : ∃ u, w5.cell? ⟨g, P + 5, none⟩ = some u := ⟨_, (C5 5 (by decide)).1⟩
        have f5 : w5.frozen? ⟨g, P + 5, none⟩ = false := (C5 5 (by decide)).2
        clear C5 b5 og hag e0 e1 e2 e3 e4 e5 hp
        obtain ⟨y, hy⟩ : ∃ y : ItOk, y = ⟨(⟨xj, xm, xg, xs, xk, xa⟩, gA, gn, gc), xo⟩ := ⟨_, rfl⟩
        have hyc : encIt y = [.string X, .string M, .slice gA gn gc, .int .i64 xs, .bool xk, .bool xa] := by rw [hy, ← HX.out, ← HM.out]; rfl
        have S6 := S5.out.put1 encIt_enc k (by rw [HDN.out]; exact hkn) y
        rw [hyc, HPK.out, six_cells] at S6
        have B6 : Below w.heap.size w w5 := BW.out.trans (B5.out.mono BW.out.size)
        have B7 : Below w.heap.size w ((((((w5.setCell ⟨g, P, none⟩ (.string X)).setCell ⟨g, P + 1, none⟩ (.string M)).setCell ⟨g, P + 2, none⟩ (.slice gA gn gc)).setCell ⟨g, P + 3, none⟩ (.int .i64 xs)).setCell ⟨g, P + 4, none⟩ (.bool xk)).setCell ⟨g, P + 5, none⟩ (.bool xa)) := ((((((B6).setCell (p := ⟨g, P, none⟩) HGE.out _).setCell (p := ⟨g, P + 1, none⟩) HGE.out _).setCell (p := ⟨g, P + 2, none⟩) HGE.out _).setCell (p := ⟨g, P + 3, none⟩) HGE.out _).setCell (p := ⟨g, P + 4, none⟩) HGE.out _).setCell (p := ⟨g, P + 5, none⟩) HGE.out _
        have N7 : But (· = g) w5 ((((((w5.setCell ⟨g, P, none⟩ (.string X)).setCell ⟨g, P + 1, none⟩ (.string M)).setCell ⟨g, P + 2, none⟩ (.slice gA gn gc)).setCell ⟨g, P + 3, none⟩ (.int .i64 xs)).setCell ⟨g, P + 4, none⟩ (.bool xk)).setCell ⟨g, P + 5, none⟩ (.bool xa)) := (((((but_setI _ _ _ _).trans (but_setI _ _ _ _)).trans (but_setI _ _ _ _)).trans (but_setI _ _ _ _)).trans (but_setI _ _ _ _)).trans (but_setI _ _ _ _)
        obtain ⟨w7, hw7⟩ : ∃ z, (((((w5.setCell ⟨g, P, none⟩ (.string X)).setCell ⟨g, P + 1, none⟩ (.string M)).setCell ⟨g, P + 2, none⟩ (.slice gA gn gc)).setCell ⟨g, P + 3, none⟩ (.int .i64 xs)).setCell ⟨g, P + 4, none⟩ (.bool xk)).setCell ⟨g, P + 5, none⟩ (.bool xa) = z := ⟨_, rfl⟩
        rw [hw7] at S6 B7 N7
        have HS6 := Lib.hid S6
        have HB7 := Lib.hid B7
        have HN7 := Lib.hid N7
        have HY := Lib.hid hy
        clear S6 B6 B7 N7 hyc hy
        go_wp2_with fail
        (try rw [hw7])
        go_roundw
        case rel =>
          have hks : k < D.size := by rw [HDN.out]; exact hkn
          refine ⟨_, _, k + 1, D.setIfInBounds k y, rfl, rfl, by go_num, by omega, ?_, ?_, ?_, ?_, HS6.out, HB7.out⟩
          · show (D.setIfInBounds k y).size = n
            rw [Array.size_setIfInBounds]; exact HDN.out
          · intro j hj
            rw [get_setI D k j hks]
            split
            · next e => rw [e, HY.out, HXE.out]
            · exact HDI.out j hj
          · intro j hj hjn
            rw [get_setI D k j hks, if_neg (by omega)]
            exact HDE.out j (by omega) hjn
          · intro j hj
            rw [get_setI D k j hks]
            split
            · next e =>
              rw [HY.out]
              exact (OG.out.less HW45.out).butI HN7.out (Nat.lt_succ_self g)
            · exact ((HDO.out j (by omega)).below B5.out).butI HN7.out (Nat.lt_succ_self g)
        case measure => simp [intOf]; omega
      · have hkz : ¬ (k : Int) < (n : Int) := by omega
        have hke : k = n := by omega
        have HFIN : Hid (ReadI wr.heap.size wr (.slice (some ⟨g, 0, none⟩) n cap) (D.toList.map (·.1)) ∧ (D.toList.map (·.1)).map (·.1) = sortS ltJ (l.map (·.1))) := by
          refine ⟨?_, ?_⟩
          · have := readI_of (cap := cap) HST.out (fun j hj => (HDO.out j (by rw [HDN.out] at hj; omega)).reads)
            rw [HDN.out] at this
            exact this
          · rw [← HMAP.out, List.map_map]
            apply List.ext_getElem
            · simp [HDN.out, HSN.out]
            · intro j h1 h2
              have hj : j < n := by simpa [HDN.out] using h1
              have e := HDI.out j hj
              rw [getElem!_pos D j (by rw [HDN.out]; exact hj), getElem!_pos S j (by rw [HSN.out]; exact hj)] at e
              simp only [List.getElem_map, Array.getElem_toList]
              exact e
        clear hke
        go_wp2_with fail
        go_ret
        first | exact ⟨_, _, rfl, HFIN.out.1, HFIN.out.2, BW.out⟩ | exact ⟨_, rfl, _, HFIN.out.1, HFIN.out.2, BW.out⟩
  · have hn0 : n = 0 := by omega
    have HFIN : Hid (sortS ltJ (l.map (·.1)) = []) := by
      unfold Hid
      rw [← HMAP.out, List.map_eq_nil_iff]
      have := HSN.out
      exact List.length_eq_zero_iff.1 (by rw [Array.length_toList]; omega)
    subst hn0
    go_enter Tryz.func17, Tryz.ntmps17
    go_wp2_with fail
    refine HQ.out.mono ?_
    rintro e w1 ⟨A, cap, rfl, b1, -⟩
    have HB1 := Lib.hid b1
    clear HQ b1
    go_wp2_with fail
    refine wp_loop_rounds 1 ?_
    rw [rounds_succ]
    go_wp2_with fail
    go_ret
    exact ⟨_, [], rfl, ⟨A, cap, rfl, fun h => absurd h (Nat.lt_irrefl _), fun p hp => by cases hp⟩, by rw [HFIN.out]; rfl, HB1.out⟩
end Go.Proofs.YtogjhpcjjmcjfaaGreatDoor
end
