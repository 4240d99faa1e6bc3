import Derived.Test.YtogjhpcjjmcjfaaGreatDoorI48
import Derived.Test.YtogjhpcjjmcjfaaGreatDoorI44
import Derived.BigQuiet
import Derived.Test.YtogjhpcjjmcjfaaGreatDoorI29
/- what is reached of it -/
namespace Go.Proofs.YtogjhpcjjmcjfaaGreatDoor
open Go.RowKit Tx Vc Ct
theorem run_append_noneC {P : Program} {w : World} (base : Nat) (t ty e : TypeId) (i : TypeInfo) (size c : Nat) (ht : P.underlying t = some (.slice e)) (hi : P.info? e = some i)
    (v : Value) (n : Nat) (xs : List Value) (hown : w.ownsRow base e size v n xs) :
    (Builtin.append_ #[t, t] ty #[v, .slice none 0 c]).run P w = .ok v w := by
  rcases hown.2 with ⟨rfl, rfl⟩ | ⟨g, cap, cur, rfl, _, _, hnc, _⟩
  · simp [Builtin.append_, run_underlying ht, sizeOf, typeInfo, hi, Builtin.lenOf, Builtin.firstCells]
  · simp [Builtin.append_, run_underlying ht, sizeOf, typeInfo, hi, Builtin.lenOf, Builtin.firstCells, storeCells, hnc]
theorem wp_strs {o : Oper} {a : Act} {K : Act → World → Prop} {Q : Exit → Act → World → Prop} (s x : Operand) (ho : o.op = .call { callee := .builtin .append, args := #[s, x], argTypes := #[22, 22] })
    (B : Nat) (v : Value) (A : Option Addr) (m c : Nat) (xs ys : List ByteArray) (hm : ys.length = m) (W : World) (hB : B ≤ W.heap.size) (hs : a.eval s = v) (hown : OwnT B W v xs) (hx : a.eval x = .slice A m c)
    (hy : 0 < ys.length → ∃ ad : Addr, A = some ad ∧ ∀ i b, ys[i]? = some b → W.cell? (ad.add i) = some (.string b)) (hn : xs.length + ys.length ≤ 1000000000000)
    (h : ∀ v' w', OwnT B w' v' (xs ++ ys) → Below B W w' → K (a.put o.dst v') w') : Oper.wp Tryz.prog o a W K Q := by
  subst hm
  obtain ⟨i0, hi, hz0, hz1, hz2⟩ := info_parts infoStr
  have hown' : W.ownsRow B 9 1 v xs.length (strs xs) := hown
  cases A with
  | none =>
    have h0 : ys = [] := by
      cases ys with
      | nil => rfl
      | cons y t => obtain ⟨_, e, _⟩ := hy (by simp); cases e
    subst h0
    have hx2 : a.eval x = .slice none 0 c := hx
    have hrun := run_append_noneC (P := Tryz.prog) (w := W) B 22 o.type 9 i0 1 c Tryz.underlying22 hi v xs.length (strs xs) hown'
    unfold Oper.wp
    simp [execOp, ho, resolve, invoke, builtin, hs, hx2, hrun, Result.andThen]
    exact h v W (by rw [List.append_nil]; exact hown) (Below.refl _ _)
  | some ad =>
    refine wp_append_own _ s x 22 ho B 9 i0 _ 1 16 Tryz.underlying22 hi hz0 hz1 hz2 rfl (by decide) v xs.length (strs xs) hs hown' ad ys.length c (strs ys) hx (by rw [strs_length, Nat.mul_one]) ?_ ?_ ?_ (by omega) hB ?_
    · intro j u hj
      unfold strs at hj
      rw [List.getElem?_map] at hj
      obtain ⟨b, hb, rfl⟩ := Option.map_eq_some_iff.1 hj
      have hlt : 0 < ys.length := by have := (List.getElem?_eq_some_iff.1 hb).1; omega
      obtain ⟨ad2, e, hc⟩ := hy hlt
      obtain rfl := Option.some.inj e
      exact hc j b hb
    · intro u hu
      unfold strs at hu
      obtain ⟨b, _, rfl⟩ := List.mem_map.1 hu
      rfl
    · unfold maxLen; omega
    · intro v' w' h1 hg _
      refine h v' w' ?_ ((Below.refl B W).grown hg hB (fun j hj => (World.ownsRow.lt hown' j hj).1))
      unfold OwnT
      rw [strs_append, List.length_append]
      exact h1
theorem rising_pairs : ∀ {l : List (List UInt8)}, risingB l = true → l.Pairwise (fun x y => Jd.ltL x y = true)
  | [], _ => List.Pairwise.nil
  | _ :: _, h => List.pairwise_cons.2 ⟨fun y hy => rising_lt h y hy, rising_pairs (rising_tail h)⟩
theorem groups_same {A B : List (List UInt8)} (h : ∀ g, (g ∈ A ∧ g ≠ []) ↔ (g ∈ B ∧ g ≠ [])) : groupsL A = groupsL B := by
  have pA := rising_pairs (groups_rising A).1
  have pB := rising_pairs (groups_rising B).1
  have nd : ∀ {l : List (List UInt8)}, l.Pairwise (fun x y => Jd.ltL x y = true) → l.Nodup := fun hp => hp.imp (fun {x y} h e => by subst e; rw [Jd.lt_irr] at h; cases h)
  have hperm : (groupsL A).Perm (groupsL B) := (List.perm_ext_iff_of_nodup (nd pA) (nd pB)).2 fun g => by rw [(groups_rising A).2 g, (groups_rising B).2 g]; exact h g
  exact List.Perm.eq_of_pairwise (le := fun x y => Jd.ltL x y = true) (fun a b _ _ h1 h2 => by have := ltL_weak.asym h1; rw [this] at h2; cases h2) pA pB hperm
theorem groups_again (l : List (List UInt8)) : groupsL (groupsL l) = groupsL l := groups_same fun g => by
  rw [(groups_rising l).2 g]
  exact ⟨fun h => h.1, fun h => ⟨h, h.2⟩⟩
theorem groups_more (m l : List (List UInt8)) (h : ∀ g ∈ m, g ∈ l) : groupsL (m ++ l) = groupsL l := groups_same fun g => by
  rw [List.mem_append]
  exact ⟨fun ⟨k, hn⟩ => ⟨k.elim (h g) id, hn⟩, fun ⟨k, hn⟩ => ⟨.inr k, hn⟩⟩
theorem heavy_len (l : List (List UInt8)) : l.length ≤ heavyT l := by
  unfold heavyT
  induction l with
  | nil => simp
  | cons x t ih => simp only [List.map_cons, List.sum_cons, List.length_cons]; omega
/-- the cells of a reading, at any world above -/
theorem ReadT.cells {w : World} {v : Value} {l : List (List UInt8)} (h : ReadT w.heap.size w v (sts l)) : ∃ A cap, v = .slice A l.length cap ∧ (0 < l.length → ∃ ad : Addr, A = some ad ∧ ∀ W, Below w.heap.size w W → ∀ i x, l[i]? = some x → W.cell? (ad.add i) = some (.string (bts x))) := by
  obtain ⟨A, cap, hv, hc⟩ := h
  have hll : (sts l).length = l.length := List.length_map _
  rw [hll] at hv hc
  refine ⟨A, cap, hv, fun h0 => ?_⟩
  obtain ⟨ad, ha, hb, hcc⟩ := hc h0
  refine ⟨ad, ha, fun W hW i x hi => ?_⟩
  rw [hW.cell (p := ad.add i) (by rw [addBlock]; exact hb)]
  exact hcc i (bts x) (by unfold sts; rw [List.getElem?_map, hi]; rfl)
set_option maxHeartbeats 8000000 in
set_option maxRecDepth 100000 in
theorem itemGroups_any (v0 : Value) (l : List (List UInt8)) (turn : Int) (w : World) (hO : Okw w) (hR : ReadT w.heap.size w v0 (sts l)) (hl : l.length ≤ 1000000000) (hs : heavyT l ≤ 1000000000000) :
    Calls Tryz.prog 6 #[v0, .int .i64 turn] w fun e w' => e = .returned (.bool true) ∧ Below w.heap.size w w' := by
  have HTX := Lib.hid (ptexts_any v0 l w hR hl hs)
  have HAW : Hid (∀ W, Below w.heap.size w W → Calls Tryz.prog 10 #[] W fun e w' => e = .returned (.bool true) ∧ Below W.heap.size W w') := fun W h => iawake_any W (hO.below h)
  obtain ⟨hv, hhv⟩ : ∃ h, heavyT l = h := ⟨_, rfl⟩
  rw [hhv] at HTX
  by_cases hbig : 2000 < hv
  · have hbz : (2000 : Int) < (hv : Int) := by omega
    have HA := Lib.hid (HAW.out w (Below.refl _ _))
    clear hO hR hl hs hhv HAW
    go_enter Tryz.func6, Tryz.ntmps6
    go_wp2_with fail
    refine HTX.out.mono ?_
    rintro e w0 ⟨rfl, hw0⟩
    rw [hw0]
    clear hw0
    go_wp2_with fail
    refine HA.out.mono ?_
    rintro e w2 ⟨rfl, b2⟩
    go_wp2_with fail
    go_ret
    exact ⟨rfl, b2⟩
  · have hbz : ¬ (2000 : Int) < (hv : Int) := by omega
    have hlen : l.length ≤ 2000 := by have := heavy_len l; omega
    have HG := Lib.hid (igroups_any v0 l w hR (by omega))
    have HRV := Lib.hid hR
    obtain ⟨A0, cap0, rfl, hc0⟩ := hR.cells
    have HC0 := Lib.hid hc0
    have HGR := Lib.hid (groups_rising l)
    have HGA := Lib.hid (groups_again l)
    have HGM : Hid (∀ m : List (List UInt8), (∀ g ∈ m, g ∈ l) → groupsL (m ++ l) = groupsL l) := fun m h => groups_more m l h
    have hgl : (groupsL l).length ≤ 2000 := by
      rw [← groups_way l]
      exact Nat.le_trans (List.length_filter_le _ _) (Nat.le_trans (compact_len _) (by rw [List.length_mergeSort]; exact hlen))
    obtain ⟨G, hG⟩ : ∃ G, groupsL l = G := ⟨_, rfl⟩
    rw [hG] at HG HGR HGA HGM hgl
    obtain ⟨ln, hln⟩ : ∃ n, l.length = n := ⟨_, rfl⟩
    have HLN := Lib.hid hln
    rw [hln] at HTX HG HRV hlen ⊢
    clear hO hR hl hs hhv hbig hG hc0 hln
    go_enter Tryz.func6, Tryz.ntmps6
    go_wp2_with fail
    refine HTX.out.mono ?_
    rintro e w0 ⟨rfl, hw0⟩
    rw [hw0]
    clear hw0
    go_wp2_with fail
    refine HG.out.mono ?_
    rintro e w1 ⟨vx, rfl, hx, b1⟩
    have HX := Lib.hid hx
    obtain ⟨AX, capx, rfl, hxc⟩ := hx.cells
    have HXC := Lib.hid hxc
    have B1 := Lib.hid b1
    obtain ⟨gn, hgn⟩ : ∃ n, G.length = n := ⟨_, rfl⟩
    have HGN := Lib.hid hgn
    rw [hgn] at hgl HX ⊢
    clear hx hxc b1 hgn
    go_wp2_with fail
    go_loopw [6] (fun iv wr => ∃ i : Nat, iv = .int .i64 (i : Nat) ∧ i ≤ gn ∧ Hid (Below w1.heap.size w1 wr)) (fun iv _ => gn - (intOf iv).toNat)
    case atStart => exact ⟨0, rfl, Nat.zero_le _, Below.refl _ _⟩
    case round =>
      obtain ⟨i, rfl, hi, BW⟩ := hrel
      by_cases hlt : i < gn
      · have hltz : (i : Int) < (gn : Int) := by omega
        obtain ⟨ad, rfl, hc⟩ := HXC.out (by rw [HGN.out]; omega)
        obtain ⟨x, hxi⟩ : ∃ x, G[i]? = some x := ⟨_, List.getElem?_eq_getElem (by rw [HGN.out]; exact hlt)⟩
        have hmem : x ∈ G := List.mem_of_getElem? hxi
        have hxl := ((HGR.out.2 x).1 hmem)
        have ci : ∀ v : Sy.Bel wr, v.v.cell? (ad.add i) = some (.string (bts x)) := fun v => hc v.v (BW.out.trans (v.h.mono BW.out.size)) i x hxi
        have hin : ∀ v : Sy.Bel wr, Calls Tryz.prog 26 #[.slice A0 ln cap0, .string (bts x)] v.v fun e w' => e = .returned (.bool (decide (x ∈ l))) ∧ Below v.v.heap.size v.v w' := fun v =>
          rin_any (.slice A0 ln cap0) l x v.v ((HRV.out.below (B1.out.trans ((BW.out.trans (v.h.mono BW.out.size)).mono B1.out.size))).more (Nat.le_trans B1.out.size (Nat.le_trans BW.out.size v.h.size))) (by have := HLN.out; omega)
        have hne : ((bts x).toList == ([] : List UInt8)) = false := by rw [toList_data]; simpa using hxl.2
        rw [decide_eq_true hxl.1] at hin
        obtain ⟨X, hX⟩ : ∃ X, bts x = X := ⟨_, rfl⟩
        rw [hX] at ci hin hne
        by_cases hi0 : 0 < i
        · have hi0z : (0 : Int) < (i : Int) := by omega
          have hi0d : decide ((0 : Int) < (i : Int)) = true := decide_eq_true hi0z
          obtain ⟨q, hq⟩ : ∃ q, i - 1 = q := ⟨_, rfl⟩
          have wq : IntKind.i64.wrap ((i : Int) - 1) = (q : Int) := by rw [IntKind.wrap_i64]; omega
          have hqz : (q : Int) < (gn : Int) := by omega
          have hq0 : (0 : Int) ≤ (q : Int) := by omega
          obtain ⟨y, hyi⟩ : ∃ y, G[q]? = some y := ⟨_, List.getElem?_eq_getElem (by rw [HGN.out]; omega)⟩
          have cq : ∀ v : Sy.Bel wr, v.v.cell? (ad.add q) = some (.string (bts y)) := fun v => hc v.v (BW.out.trans (v.h.mono BW.out.size)) q y hyi
          have hyx : Jd.ltL y x = true := by
            have := List.pairwise_iff_getElem.1 (rising_pairs HGR.out.1) q i (List.getElem?_eq_some_iff.1 hyi).1 (List.getElem?_eq_some_iff.1 hxi).1 (by omega)
            rwa [(List.getElem?_eq_some_iff.1 hyi).2, (List.getElem?_eq_some_iff.1 hxi).2] at this
          have hlq : Op.bytesLess (bts y).toList X.toList = true := by rw [← hX, lt_walk]; exact hyx
          have hxq : Op.bytesLess X.toList (bts y).toList = false := by rw [← hX, lt_walk]; exact ltL_weak.asym hyx
          have hxy : (X.toList == (bts y).toList) = false := by
            rw [← hX, bytes_eqb2]
            exact decide_eq_false (fun e => by rw [e, Jd.lt_irr] at hyx; cases hyx)
          obtain ⟨Y, hY⟩ : ∃ X, bts y = X := ⟨_, rfl⟩
          rw [hY] at cq hlq hxq hxy
          clear hX hY hyi hyx hq hc hxi hmem hxl
          go_wp2_with fail
          refine Sy.wp_region_quiet_bel (by kernel_rfl) (by kernel_rfl) ?_
          repeat (go_big_quiet_step ((go_at_call 26; exact Sy.Calls.bel_of (hin _))))
          refine wpQuiet_nil ?_
          intro w2 hw'
          have hb2 : Below wr.heap.size wr w2 := by obtain ⟨v, rfl⟩ := hw'; exact v.h
          have B2 : Hid (Below w1.heap.size w1 w2) := BW.out.trans (hb2.mono BW.out.size)
          clear hw' hb2 ci hin cq
          go_wp2_with fail
          go_roundw
          case rel => exact ⟨i + 1, by go_num, by omega, B2⟩
          case measure => simp [intOf]; omega
        · obtain ⟨z, hz⟩ : ∃ z : Int, (i : Int) = z := ⟨_, rfl⟩
          rw [hz]
          have z0 : 0 ≤ z := by omega
          have z1 : decide (0 < z) = false := decide_eq_false (by omega)
          have z2 : z < (gn : Int) := by omega
          have z3 : z.toNat = i := by omega
          have wz : IntKind.i64.wrap (z + 1) = z + 1 := by rw [IntKind.wrap_i64]; omega
          have HZ := Lib.hid hz
          have HIL := Lib.hid hlt
          clear hi0 hX hc hxi hmem hxl hz hlt hltz hi
          go_wp2_with fail
          refine Sy.wp_region_quiet_bel (by kernel_rfl) (by kernel_rfl) ?_
          repeat (go_big_quiet_step ((go_at_call 26; exact Sy.Calls.bel_of (hin _))))
          refine wpQuiet_nil ?_
          intro w2 hw'
          have hb2 : Below wr.heap.size wr w2 := by obtain ⟨v, rfl⟩ := hw'; exact v.h
          have B2 : Hid (Below w1.heap.size w1 w2) := BW.out.trans (hb2.mono BW.out.size)
          clear hw' hb2 ci hin
          go_wp2_with fail
          go_roundw
          case rel => exact ⟨i + 1, by rw [← HZ.out]; go_num, HIL.out, B2⟩
          case measure => have := HZ.out; have := HIL.out; simp [intOf]; omega
      · as_aux_lemma =>
        have hltz : ¬ (i : Int) < (gn : Int) := by omega
        go_wp2_with fail
        go_loopw [7] (fun jv wr => ∃ j : Nat, jv = .int .i64 (j : Nat) ∧ j ≤ ln ∧ Hid (Below w1.heap.size w1 wr)) (fun jv _ => ln - (intOf jv).toNat)
        case atStart => exact ⟨0, rfl, Nat.zero_le _, BW⟩
        case round =>
          clear BW hlt hi hltz
          obtain ⟨j, rfl, hj, BW⟩ := hrel
          have BWW : Hid (Below w.heap.size w wr) := B1.out.trans (BW.out.mono B1.out.size)
          by_cases hjl : j < ln
          · have hjz : (j : Int) < (ln : Int) := by omega
            obtain ⟨ad, rfl, hc⟩ := HC0.out (by rw [HLN.out]; omega)
            obtain ⟨y, hyj⟩ : ∃ y, l[j]? = some y := ⟨_, List.getElem?_eq_getElem (by rw [HLN.out]; exact hjl)⟩
            have cj := hc wr BWW.out j y hyj
            have hmem : y ∈ l := List.mem_of_getElem? hyj
            by_cases hy0 : y = []
            · have hne : ((bts y).toList == ([] : List UInt8)) = true := by rw [toList_data, hy0]; rfl
              have hne2 : ((bts y).toList != ([] : List UInt8)) = false := by rw [bne, hne]; rfl
              have hne3 : (bts y).toList = [] := by rw [toList_data]; exact hy0
              obtain ⟨Y, hY⟩ : ∃ X, bts y = X := ⟨_, rfl⟩
              rw [hY] at cj hne hne2 hne3
              clear hc hyj hmem hy0 hY
              go_wp2_with fail
              go_roundw
              case rel => exact ⟨j + 1, by go_num, by omega, BW⟩
              case measure => simp [intOf]; omega
            · have hin : Hid (Calls Tryz.prog 26 #[.slice AX gn capx, .string (bts y)] wr fun e w' => e = .returned (.bool true) ∧ Below wr.heap.size wr w') := by
                have := rin_any (.slice AX gn capx) G y wr ((HX.out.below BW.out).more BW.out.size) (by rw [HGN.out]; omega)
                rw [decide_eq_true ((HGR.out.2 y).2 ⟨hmem, hy0⟩)] at this
                exact this
              have hne : ((bts y).toList == ([] : List UInt8)) = false := by rw [toList_data]; simpa using hy0
              have hne2 : ((bts y).toList != ([] : List UInt8)) = true := by rw [bne, hne]; rfl
              have hne3 : ¬ (bts y).toList = [] := by rw [toList_data]; exact hy0
              obtain ⟨Y, hY⟩ : ∃ X, bts y = X := ⟨_, rfl⟩
              rw [hY] at cj hne hne2 hne3 hin
              clear hc hyj hmem hy0 hY
              go_wp2_with fail
              refine hin.out.mono ?_
              rintro e w2 ⟨rfl, b2⟩
              have B2 : Hid (Below w1.heap.size w1 w2) := BW.out.trans (b2.mono BW.out.size)
              clear b2 cj
              go_wp2_with fail
              go_roundw
              case rel => exact ⟨j + 1, by go_num, by omega, B2⟩
              case measure => simp [intOf]; omega
          · as_aux_lemma =>
            have hjz : ¬ (j : Int) < (ln : Int) := by omega
            obtain ⟨t, ht, ht7⟩ := uintMod turn 7 (by omega) (by omega)
            have ht2 : IntKind.i64.wrap ((IntKind.u64.wrap turn).tmod 7) = (t : Int) := by have h := ht; unfold wrap64 at h; rw [IntKind.wrap_i64]; exact h
            have ht8 : t < 7 := by omega
            clear ht7 hjl hj
            go_wp2_with fail
            go_loopw [9, 10] (fun mv iv wr => ∃ (i mn mc : Nat) (MA : Option Addr) (M : List (List UInt8)), mv = .slice MA mn mc ∧ iv = .int .i64 (i : Nat) ∧ i ≤ ln ∧ Hid (OwnT w1.heap.size wr (.slice MA mn mc) (sts M)) ∧ Hid (M.length = i ∧ mn = i ∧ ∀ g ∈ M, g ∈ l) ∧ Hid (Below w1.heap.size w1 wr)) (fun _ iv _ => ln - (intOf iv).toNat)
            case atStart => exact ⟨0, 0, 0, none, [], rfl, rfl, Nat.zero_le _, OwnT.nil _ _, ⟨rfl, rfl, fun g hg => absurd hg (by simp)⟩, BW.out⟩
            case round =>
              clear BWW BW hjz
              obtain ⟨i, mn, mc, MA, M, rfl, rfl, hi, OM, HM, BV⟩ := hrel
              have BVW : Hid (Below w.heap.size w wr) := B1.out.trans (BV.out.mono B1.out.size)
              by_cases hil : i < ln
              · have hiz : (i : Int) < (ln : Int) := by omega
                obtain ⟨ad, rfl, hc⟩ := HC0.out (by rw [HLN.out]; omega)
                obtain ⟨it, hit⟩ : ∃ it, i + t = it := ⟨_, rfl⟩
                have w1t : IntKind.i64.wrap ((i : Int) + (t : Int)) = (it : Int) := by rw [IntKind.wrap_i64]; omega
                obtain ⟨q, hq⟩ : ∃ q, it % ln = q := ⟨_, rfl⟩
                have hql : q < ln := by rw [← hq]; exact Nat.mod_lt _ (by omega)
                have hqt : (it : Int).tmod (ln : Int) = (q : Int) := by rw [Int.tmod_eq_emod_of_nonneg (by omega), ← hq]; rfl
                have wq : IntKind.i64.wrap (q : Int) = (q : Int) := by rw [IntKind.wrap_i64]; omega
                have hq0 : (0 : Int) ≤ (q : Int) := by omega
                have hqz : (q : Int) < (ln : Int) := by omega
                have hln0 : ((ln : Int) == 0) = false := by simp; omega
                have hln1 : ¬ (ln : Int) = 0 := by omega
                obtain ⟨y, hyj⟩ : ∃ y, l[q]? = some y := ⟨_, List.getElem?_eq_getElem (by rw [HLN.out]; exact hql)⟩
                have cj := hc wr BVW.out q y hyj
                have HMEM : Hid (y ∈ l) := List.mem_of_getElem? hyj
                have hsM : (sts M).length = i := by have := HM.out.1; unfold sts; rw [List.length_map]; exact this
                have hsz : (bts y).size ≤ 2000000000 ∨ True := .inr trivial
                obtain ⟨Y, hY⟩ : ∃ X, bts y = X := ⟨_, rfl⟩
                rw [hY] at cj
                have HY := Lib.hid hY
                have hMl : (sts M).length ≤ 1000000000000 := by omega
                have HML := Lib.hid hMl
                have hBs := Lib.hid BV.out.size
                clear hit hq hyj hY hc hsM hsz hMl
                have HSX : Hid (sts M ++ [Y] = sts (M ++ [y])) := by unfold Hid; rw [← HY.out]; simp [sts]
                go_wp2_with (at_builtin; refine push_str rfl _ _ rfl w1.heap.size (.slice MA mn mc) (sts M) Y wr rfl OM.out rfl HML.out hBs.out ?_; intro v3 w3 o3 b3)
                all_goals
                  rw [HSX.out] at o3
                  obtain ⟨MA3, mc3, rfl⟩ := o3.slice
                  have O3 := Lib.hid o3
                  have B3 : Hid (Below w1.heap.size w1 w3) := BV.out.trans b3
                  have HM3 : Hid ((M ++ [y]).length = i + 1 ∧ (sts (M ++ [y])).length = i + 1 ∧ ∀ g ∈ M ++ [y], g ∈ l) := by
                    have h1 := HM.out.1
                    refine ⟨by simp [h1], by unfold sts; simp [h1], fun g hg => ?_⟩
                    rcases List.mem_append.1 hg with h | h
                    · exact HM.out.2.2 g h
                    · rw [List.mem_singleton] at h; rw [h]; exact HMEM.out
                  clear o3 b3 cj
                  go_wp2_with fail
                  go_roundw
                  case rel => exact ⟨i + 1, _, mc3, MA3, M ++ [y], rfl, by go_num, by omega, O3, HM3, B3⟩
                  case measure => simp [intOf]; omega
              · as_aux_lemma =>
                have hiz : ¬ (i : Int) < (ln : Int) := by omega
                have HA := Lib.hid (HAW.out wr BVW.out)
                have HLL : Hid ((sts l).length = ln) := by unfold Hid; rw [← HLN.out]; exact List.length_map _
                have HCL : Hid (∀ W, Below w1.heap.size w1 W → 0 < (sts l).length → ∃ ad : Addr, A0 = some ad ∧ ∀ i b, (sts l)[i]? = some b → W.cell? (ad.add i) = some (.string b)) := fun W hW h0 => by
                  obtain ⟨ad, ha, hc⟩ := HC0.out (by have := HLL.out; rw [HLN.out]; omega)
                  refine ⟨ad, ha, fun i b hi => ?_⟩
                  obtain ⟨y, hy, rfl⟩ := sts_of hi
                  exact hc W (B1.out.trans (hW.mono B1.out.size)) i y hy
                have HMN : Hid ((sts M).length + (sts l).length ≤ 1000000000000) := by
                  unfold Hid
                  have h1 := HM.out.1
                  have h2 := HLL.out
                  have h3 : (sts M).length = M.length := List.length_map _
                  omega
                go_wp2_with fail
                refine HA.out.mono ?_
                rintro e w4 ⟨rfl, b4⟩
                have B4 : Hid (Below w1.heap.size w1 w4) := BV.out.trans (b4.mono BV.out.size)
                have O4 : Hid (OwnT w1.heap.size w4 (.slice MA mn mc) (sts M)) := OM.out.below b4
                have HX4 : Hid (ReadT w4.heap.size w4 (.slice AX gn capx) (sts G)) := (HX.out.below B4.out).more B4.out.size
                have HG4 := Lib.hid (igroups_any _ G w4 HX4.out (by rw [HGN.out]; omega))
                rw [HGA.out] at HG4
                clear b4
                go_wp2_with fail
                refine HG4.out.mono ?_
                rintro e w5 ⟨v5, rfl, hr5, b5⟩
                have B5 : Hid (Below w1.heap.size w1 w5) := B4.out.trans (b5.mono B4.out.size)
                have O5 : Hid (OwnT w1.heap.size w5 (.slice MA mn mc) (sts M)) := O4.out.below b5
                have HP5 := Lib.hid (plainT_any w5.heap.size v5 (.slice AX gn capx) (sts G) (sts G) w5 hr5 ((HX.out.below B5.out).more B5.out.size) (by unfold sts; rw [List.length_map, HGN.out]; omega) (by unfold sts; rw [List.length_map, HGN.out]; omega))
                rw [decide_eq_true rfl] at HP5
                clear b5 hr5
                go_wp2_with fail
                refine HP5.out.mono ?_
                rintro e w6 ⟨rfl, b6⟩
                have B6 : Hid (Below w1.heap.size w1 w6) := B5.out.trans (b6.mono B5.out.size)
                have O6 : Hid (OwnT w1.heap.size w6 (.slice MA mn mc) (sts M)) := O5.out.below b6
                clear b6
                go_wp2_with (at_builtin; refine BigFrame.wpList_want rfl (fun K hK => wp_strs _ _ rfl w1.heap.size (.slice MA mn mc) A0 ln cap0 (sts M) (sts l) HLL.out w6 B6.out.size rfl O6.out rfl (HCL.out w6 B6.out) HMN.out (fun v7 w7 o7 b7 => hK _ _ ?_)))
                have B7 : Hid (Below w1.heap.size w1 w7) := B6.out.trans b7
                have hr7 : ReadT w7.heap.size w7 v7 (sts (M ++ l)) := by
                  have e : sts M ++ sts l = sts (M ++ l) := by simp [sts]
                  rw [← e]; exact o7.reads
                have HG7 := Lib.hid (igroups_any v7 (M ++ l) w7 hr7 (by rw [List.length_append, HM.out.1, HLN.out]; omega))
                rw [HGM.out M HM.out.2.2] at HG7
                clear o7 b7 hr7
                refine HG7.out.mono ?_
                rintro e w8 ⟨v8, rfl, hr8, b8⟩
                have B8 : Hid (Below w1.heap.size w1 w8) := B7.out.trans (b8.mono B7.out.size)
                have HP8 := Lib.hid (plainT_any w8.heap.size v8 (.slice AX gn capx) (sts G) (sts G) w8 hr8 ((HX.out.below B8.out).more B8.out.size) (by unfold sts; rw [List.length_map, HGN.out]; omega) (by unfold sts; rw [List.length_map, HGN.out]; omega))
                rw [decide_eq_true rfl] at HP8
                clear b8 hr8
                go_wp2_with fail
                refine HP8.out.mono ?_
                rintro e w9 ⟨rfl, b9⟩
                have B9 : Hid (Below w.heap.size w w9) := B1.out.trans ((B8.out.trans (b9.mono B8.out.size)).mono B1.out.size)
                clear b9
                go_wp2_with fail
                go_ret
                exact ⟨rfl, B9.out⟩
end Go.Proofs.YtogjhpcjjmcjfaaGreatDoor
