/- Texts laid together: RtE RtF -/
import Derived.Test.YtpomcamkkcggmaaGreatDoorRtD
/-
  cardexref08: Build.
-/
namespace Go.Proofs.YtpomcamkkcggmaaGreatDoor
open Go.RowKit Tk Tr

/-- How far the document's second loop is: the nodes ahead of q done, those behind it bare. -/
def midL (els : List Nd) (q : Nat) : List Nd := doneF els 0 (els.take q) ++ (els.drop q).map bare
theorem doneF_fst (els : List Nd) : ∀ (k : Nat) (l : List Nd), (doneF els k l).map (·.1) = l.map (·.1)
  | _, [] => rfl
  | k, x :: l => by
    unfold doneF
    rw [List.map_cons, List.map_cons, doneF_fst els (k + 1) l]
    rfl
theorem mid_len (els : List Nd) (q : Nat) : (midL els q).length = els.length := by
  unfold midL
  rw [List.length_append, doneF_len, List.length_map, ← List.length_append, List.take_append_drop]
theorem mid_fst (els : List Nd) (q : Nat) : (midL els q).map (·.1) = els.map (·.1) := by
  unfold midL
  rw [List.map_append, doneF_fst, List.map_map, show ((fun x : Nd => x.1) ∘ bare) = (fun x : Nd => x.1) from rfl, ← List.map_append, List.take_append_drop]
theorem mid_drop {els : List Nd} {q : Nat} {x : Nd} (h : els[q]? = some x) : els.drop q = x :: els.drop (q + 1) := by
  obtain ⟨hq, rfl⟩ := List.getElem?_eq_some_iff.1 h
  exact List.drop_eq_getElem_cons hq
theorem mid_head {els : List Nd} {q : Nat} {x : Nd} (h : els[q]? = some x) : (doneF els 0 (els.take q)).length = q := by
  rw [doneF_len, List.length_take]
  have := (List.getElem?_eq_some_iff.1 h).1
  omega
theorem mid_at {els : List Nd} {q : Nat} {x : Nd} (h : els[q]? = some x) : (midL els q)[q]? = some (bare x) := by
  unfold midL
  rw [mid_drop h, List.map_cons, List.getElem?_append_right (by rw [mid_head h]; exact Nat.le_refl _), mid_head h, Nat.sub_self]
  rfl
theorem mid_step {els : List Nd} {q : Nat} {x : Nd} (h : els[q]? = some x) : midL els (q + 1) = (midL els q).set q (doneAt els q x) := by
  unfold midL
  rw [done_take h, mid_drop h, List.map_cons, List.set_append_right _ _ (by rw [mid_head h]; exact Nat.le_refl _), mid_head h, Nat.sub_self, List.set_cons_zero, List.append_assoc]
  rfl
theorem mid_end (els : List Nd) : midL els els.length = doneF els 0 els := by
  unfold midL
  rw [List.take_length, List.drop_length, List.map_nil, List.append_nil]
theorem set_same {α : Type} {l : List α} {q : Nat} {y : α} (h : l[q]? = some y) : l.set q y = l := by
  apply List.ext_getElem?
  intro i
  rw [List.getElem?_set]
  split
  · rename_i e
    subst e
    rw [h, if_pos (List.getElem?_eq_some_iff.1 h).1]
  · rfl
theorem kids_nil (i : Int) : ∀ (k : Nat) (l : List Nd), (kidsF i k l = [] ↔ l.any (fun x => decide (x.1 = i)) = false)
  | _, [] => by simp [kidsF]
  | k, x :: l => by
    have := kids_nil i (k + 1) l
    unfold kidsF
    by_cases h : x.1 = i <;> simp [h, this]
theorem kids_any0 (els ns : List Nd) (q : Nat) (hq : q < els.length) (hf : ns.map (·.1) = els.map (·.1)) : decide ((kidsL ns (q : Int)).length = 0) = !kidOf els q := by
  have hl : ns.length = els.length := by have := congrArg List.length hf; simpa using this
  have h1 : kidsL ns (q : Int) = kidsF (q : Int) 0 ns := by unfold kidsL; rw [if_pos (by omega)]
  have h2 : ns.any (fun x => decide (x.1 = (q : Int))) = kidOf els q := by
    unfold kidOf
    have e : ∀ l : List Nd, l.any (fun x => decide (x.1 = (q : Int))) = (l.map (·.1)).any (fun a => decide (a = (q : Int))) := fun l => by rw [List.any_map]; rfl
    rw [e ns, e els, hf]
  rw [h1]
  have h3 := kids_nil (q : Int) 0 ns
  rw [h2] at h3
  cases hk : kidOf els q with
  | true => rw [hk] at h3; exact decide_eq_false (fun e => by cases (h3.1 (List.length_eq_zero_iff.1 e)))
  | false => rw [hk] at h3; exact decide_eq_true (List.length_eq_zero_iff.2 (h3.2 rfl))
theorem OwnN.say5 {B g cap : Nat} {w : World} {ns : List Nd} (h : OwnN B w (.slice (some ⟨g, 0, none⟩) ns.length cap) ns) {q : Nat} {y : Nd} (hy : ns[q]? = some y) (s : List UInt8) :
    OwnN B (w.setCell ⟨g, q * 6 + 5, none⟩ (.string (bts s))) (.slice (some ⟨g, 0, none⟩) ns.length cap) (ns.set q (y.1, y.2.1, y.2.2.1, y.2.2.2.1, y.2.2.2.2.1, s)) := by
  obtain ⟨ks, rfl, h2, h3⟩ := h
  rw [List.getElem?_map] at hy
  obtain ⟨k, hk, rfl⟩ := Option.map_eq_some_iff.1 hy
  rw [List.length_map] at h2 ⊢
  obtain ⟨cs, hcs⟩ := row_block h2 g rfl
  have hst := (h2.stored (q * 6 + 5) (.string (bts s))).1
  rw [← nds_set (k' := ((k.1.1, k.1.2.1, k.1.2.2.1, k.1.2.2.2.1, k.1.2.2.2.2.1, s), k.2)) hk (by omega) (by rfl)] at hst
  refine ⟨ks.set q ((k.1.1, k.1.2.1, k.1.2.2.1, k.1.2.2.2.1, k.1.2.2.2.2.1, s), k.2), by rw [List.map_set], by rw [List.length_set]; exact hst, fun a ha => ?_⟩
  have hA : KeepA w (w.setCell ⟨g, q * 6 + 5, none⟩ (.string (bts s))) := KeepT.set hcs (by decide) _ _
  rcases List.mem_or_eq_of_mem_set ha with ha | rfl
  · exact (h3 a ha).keep hA
  · exact (h3 k (List.mem_of_getElem? hk)).keep hA
set_option maxHeartbeats 8000000 in
set_option maxRecDepth 100000 in
theorem rbuild_any (v : Value) (ts : List TokI) (w : World) (hv : ReadI w v ts) (hl : ts.length ≤ 100000) (hb : bulk ts ≤ 1000000000) (hat : ∀ t ∈ ts, t.2.2.2.2.1.length ≤ 1000000000) :
    Calls Tryz.prog 9 #[v] w fun e w' => BuiltOut w.heap.size (buildL ts) e w' ∧ Below w.heap.size w w' := by
  obtain ⟨A, cap, rfl, hx⟩ := hv
  obtain ⟨G, hG⟩ : ∃ G, w.heap.size = G := ⟨_, rfl⟩
  obtain ⟨W1, hW1⟩ : ∃ W1, w.alloc (.cells #[.slice none 0 0, .slice none 0 0, .slice none 0 0] 57) = W1 := ⟨_, rfl⟩
  have hw1 : Hid (Below G w W1) := by rw [← hW1, ← hG]; exact (Below.refl _ _).alloc (Nat.le_refl _) _
  have gs1 : Hid (RS (G + 1) G W1 ([], [])) := by
    rw [← hW1, ← hG]
    exact ⟨_, _, _, Bk.new _ _ _, OwnN.nil _ _, Owned.nil _ _, OwnT.nil _ _⟩
  have z1 : Hid (G + 1 ≤ W1.heap.size) := by unfold Hid; rw [← hW1, World.size_alloc, hG]; exact Nat.le_refl _
  rw [hG] at hx ⊢
  have HX := Lib.hid hx
  have HAT := Lib.hid hat
  have HBK := Lib.hid hb
  have HW1 := Lib.hid hW1
  have HGE := Lib.hid hG
  obtain ⟨n, hn⟩ : ∃ n, ts.length = n := ⟨_, rfl⟩
  have HN := Lib.hid hn
  rw [hn] at hl HX ⊢
  clear hx hat hb hW1 hG hn
  go_enter Tryz.func9, Tryz.ntmps9
  go_upto_region 2 with fail
  rw [HW1.out, HGE.out]
  go_wp2_with fail
  go_loopw [6] (fun i wr => ∃ (k : Nat) (st : St), k ≤ n ∧ i = .int .i64 k ∧ Hid (runL ([], []) ts = runL st (ts.drop k)) ∧ Hid (OkS st) ∧ Hid (Short (bulk (ts.take k)) st) ∧ Hid (RS (G + 1) G wr st) ∧ Hid (Below G w wr) ∧ Hid (G + 1 ≤ wr.heap.size)) (fun i _ => n - (intOf i).toNat)
  case atStart => exact ⟨0, ([], []), Nat.zero_le _, rfl, Lib.hid rfl, Lib.hid OkS.nil, Lib.hid (Short.nil _), gs1, hw1, z1⟩
  case round =>
    obtain ⟨k, st, hk, rfl, hrun, hok, hsh, hgs, hbl, hz⟩ := hrel
    clear gs1 hw1 z1
    by_cases hlt : k < n
    · obtain ⟨ad, rfl, hlb, hc⟩ := HX.out (by omega)
      obtain ⟨t, ht⟩ : ∃ t, ts[k]? = some t := ⟨_, List.getElem?_eq_getElem (by have := HN.out; omega)⟩
      obtain ⟨u, hat0, hua⟩ := hc k t ht
      have hblk : (ad.add (k * 6)).block < G := by rw [addBlock]; exact hlb
      have hat1 := hat0.of (w' := wr) (hbl.out.block _ hblk)
      have hub := hua.below (w' := wr) (by rw [HGE.out]; exact hbl.out)
      obtain ⟨k0, k1, k2, k3, k4, k5⟩ := hat1
      have HK1 := Lib.hid hat0
      have hmt := List.mem_of_getElem? ht
      have hal := Lib.hid (HAT.out t hmt)
      have hrr := Lib.hid (run_at hrun.out ht)
      have hst : t.2.2.2.1.length ≤ 1000000000 := by
        have h1 := bulk_take_succ ht
        have h2 := bulk_take_le ts (k + 1)
        have h3 := HBK.out
        omega
      have hss : ∀ x ∈ st.1, x.2.2.2.2.2.length ≤ 1000000000 := fun x hx => by
        have h1 := hsh.out x hx
        have h2 := bulk_take_le ts k
        have h3 := HBK.out
        omega
      have hbs := Lib.hid (bulk_take_succ ht)
      obtain ⟨UA, ucap, rfl, -⟩ := id hub
      obtain ⟨un, hun⟩ : ∃ un, t.2.2.2.2.1.length = un := ⟨_, rfl⟩
      have HGR := rtake_any (G + 1) G wr st t _ hgs.out hok.out hub hal.out hst hss (Nat.lt_succ_self _) hz.out
      unfold agT at HGR
      rw [hun] at HGR k4
      obtain ⟨a0, h0⟩ : ∃ a : Int, t.1 = a := ⟨_, rfl⟩
      obtain ⟨a1, h1⟩ : ∃ a : Int, t.2.1 = a := ⟨_, rfl⟩
      obtain ⟨a2, h2⟩ : ∃ a, bts t.2.2.1 = a := ⟨_, rfl⟩
      obtain ⟨a3, h3⟩ : ∃ a, bts t.2.2.2.1 = a := ⟨_, rfl⟩
      obtain ⟨a5, h5⟩ : ∃ a, t.2.2.2.2.2 = a := ⟨_, rfl⟩
      have HA1 := Lib.hid h1
      rw [h0, h1, h2, h3, h5] at HGR
      rw [h0] at k0
      rw [h1] at k1
      rw [h2] at k2
      rw [h3] at k3
      rw [h5] at k5
      obtain ⟨bd, hbd⟩ : ∃ bd, badL st t = bd := ⟨_, rfl⟩
      rw [hbd] at HGR
      have HBD := Lib.hid hbd
      have HG2 := Lib.hid HGR
      have HBLK := Lib.hid hblk
      clear hc hat0 hua ht hmt hun HGR h0 h1 h2 h3 h5 hbd hgs hrun hub hlb hst hss hblk
      go_wp2_with fail
      refine HG2.out.mono ?_
      rintro e w8 ⟨rfl, g8, n8⟩
      have G8 := Lib.hid g8
      have B8 : Hid (Below G w w8) := hbl.out.trans ((n8.mono (Nat.le_succ G)).below (Nat.le_refl G))
      have Z8 : Hid (G + 1 ≤ w8.heap.size) := Nat.le_trans hz.out n8.size
      clear g8 n8 HG2 k0 k1 k2 k3 k4 k5 hbl hz
      by_cases hb0 : bd = 0
      · have hbad : badL st t = 0 := HBD.out.trans hb0
        have R9 := Lib.hid (hrr.out.2 hbad)
        have O9 := Lib.hid (hok.out.next hbad)
        have S9 : Hid (Short (bulk (ts.take (k + 1))) (nextL st t)) := hsh.out.next (by rw [hbs.out]; exact Nat.le_refl _)
        have G9 : Hid (RS (G + 1) G w8 (nextL st t)) := by have := G8.out; rwa [if_pos hb0] at this
        subst hb0
        clear hbad hrr hok hsh G8
        go_wp2_with fail
        go_roundw
        case rel => exact ⟨k + 1, nextL st t, by omega, by go_num, R9, O9, S9, G9, B8, Z8⟩
        case measure => simp [intOf]; omega
      · have hbad : badL st t ≠ 0 := fun e => hb0 (HBD.out.symm.trans e)
        have HR : Hid (buildL ts = ([], a1, bd)) := by
          obtain ⟨s9, hs9⟩ := hrr.out.1 hbad
          unfold Hid
          rw [build_bad hs9, HA1.out, HBD.out]
        have gb : ((bd : Int) != 0) = true := by simp; omega
        have k1 : w8.cell? ⟨(ad.add (k * 6)).block, (ad.add (k * 6)).off + 1, none⟩ = some (.int .i64 a1) := by
          rw [← HA1.out]
          exact (HK1.out.of (w' := w8) (B8.out.block _ HBLK.out)).2.1
        clear hb0 hbad hrr
        go_wp2_with fail
        go_quiet (fail)
        go_wp2_with fail
        refine bodyPost_ret (v := .tuple #[.slice none 0 0, .int .i64 a1, .int .i64 bd]) (by simp [results, Tryz.results9, go_sem]) rfl ⟨BuiltOut.err HR.out rfl, drewN_low B8.out _⟩
    · have hkn : k = n := by omega
      have HE : Hid (buildL ts = endL st) := by
        have h1 := hrun.out
        rw [List.drop_eq_nil_of_le (by have := HN.out; omega)] at h1
        exact build_end h1
      have HSH : Hid (∀ x ∈ st.1, x.2.2.2.2.2.length ≤ 1000000000) := fun x hx => by
        have h1 := hsh.out x hx
        have h2 := bulk_take_le ts k
        have h3 := HBK.out
        omega
      obtain ⟨A2, cap2, OA2, ocap2, XA2, xcap2, gb, gn, go, gt⟩ := hgs.out.cells
      obtain ⟨m, hm⟩ : ∃ m, st.1.length = m := ⟨_, rfl⟩
      obtain ⟨o, ho⟩ : ∃ o, st.2.length = o := ⟨_, rfl⟩
      have HM := Lib.hid hm
      have hmn := hok.out.many
      rw [hm] at gb gn gt hmn
      rw [ho] at gb
      have c0 : wr.cell? ⟨G, 0, none⟩ = some (.slice A2 m cap2) := gb.cell 0
      have c1 : wr.cell? ⟨G, 1, none⟩ = some (.slice OA2 o ocap2) := gb.cell 1
      have HEE : Hid ((m = 0 ∨ 0 < o → endL st = ([], 0, 6)) ∧ (0 < m → o = 0 → endL st = finL st.1)) := by
        constructor
        · intro h
          unfold endL
          rw [if_pos]
          rcases h with h | h
          · exact .inl (List.eq_nil_of_length_eq_zero (hm.trans h))
          · exact .inr (fun e => by rw [e] at ho; simp at ho; omega)
        · intro h1 h2
          unfold endL
          rw [if_neg]
          rintro (h3 | h3)
          · rw [h3] at hm; simp at hm; omega
          · exact h3 (List.eq_nil_of_length_eq_zero (ho.trans h2))
      have GBR := Lib.hid gb
      have GNR := Lib.hid gn
      have GTR := Lib.hid gt
      clear hrun hsh hkn hgs gb gn go gt hm ho hok
      by_cases hm0 : m = 0
      · have HR : Hid (buildL ts = ([], 0, 6)) := HE.out.trans (HEE.out.1 (.inl hm0))
        subst hm0
        go_wp2_with fail
        refine bodyPost_ret (v := .tuple #[.slice none 0 0, .int .i64 0, .int .i64 6]) (by simp [results, Tryz.results9, go_sem]) rfl ⟨BuiltOut.err HR.out rfl, hbl.out⟩
      have gm0 : ((m : Int) == 0) = false := by simp; omega
      by_cases ho0 : 0 < o
      · have HR : Hid (buildL ts = ([], 0, 6)) := HE.out.trans (HEE.out.1 (.inr ho0))
        have go0 : decide (0 < o) = true := decide_eq_true ho0
        clear hm0
        go_wp2_with fail
        refine bodyPost_ret (v := .tuple #[.slice none 0 0, .int .i64 0, .int .i64 6]) (by simp [results, Tryz.results9, go_sem]) rfl ⟨BuiltOut.err HR.out rfl, hbl.out⟩
      · have HR : Hid (buildL ts = finL st.1) := HE.out.trans (HEE.out.2 (by omega) (by omega))
        have go0 : decide (0 < o) = false := decide_eq_false ho0
        obtain ⟨els, hels⟩ : ∃ els, st.1 = els := ⟨_, rfl⟩
        have GN0 : Hid (OwnN (G + 1) wr (.slice A2 m cap2) (midL els 0)) := by unfold Hid midL; rw [List.take_zero, List.drop_zero, ← hels]; exact GNR.out
        rw [hels] at HR HM GTR HSH
        clear hm0 hels GNR HE HEE
        go_wp2_with fail
        go_loopw [8] (fun i wr => ∃ (q : Nat), q ≤ m ∧ i = .int .i64 q ∧ Hid (OwnN (G + 1) wr (.slice A2 m cap2) (midL els q)) ∧ Hid (∀ j, j < q → wrongAt els j = false) ∧ Hid (Bk wr G 57 #[.slice A2 m cap2, .slice OA2 o ocap2, .slice XA2 m xcap2]) ∧ Hid (OwnT (G + 1) wr (.slice XA2 m xcap2) (els.map txt)) ∧ Hid (Below G w wr) ∧ Hid (G + 1 ≤ wr.heap.size)) (fun i _ => m - (intOf i).toNat)
        case atStart => exact ⟨0, Nat.zero_le _, rfl, GN0, Lib.hid (fun j h => absurd h (Nat.not_lt_zero _)), GBR, GTR, hbl, hz⟩
        case round =>
          obtain ⟨q, hq, rfl, hon, hno, hgb, hot, hbl2, hz2⟩ := hrel
          clear GN0 GBR GTR hbl hz c0 c1
          have c0 : wr.cell? ⟨G, 0, none⟩ = some (.slice A2 m cap2) := hgb.out.cell 0
          by_cases hlt : q < m
          · obtain ⟨x, hx⟩ : ∃ x, els[q]? = some x := ⟨_, List.getElem?_eq_getElem (by have := HM.out; omega)⟩
            have hml : (midL els q).length = m := (mid_len els q).trans HM.out
            have HKS := Lib.hid (rkids_any (.slice A2 m cap2) (midL els q) (q : Int) wr hon.out.reads (by rw [hml]; omega))
            have hk0 := kids_any0 els (midL els q) q (List.getElem?_eq_some_iff.1 hx).1 (mid_fst els q)
            have hma := mid_at hx
            have HMS := Lib.hid (mid_step hx)
            have HWR := Lib.hid (wrong_eq hx)
            have HX1 := Lib.hid hx
            obtain ⟨kl, hkl⟩ : ∃ kl, (kidsL (midL els q) (q : Int)).length = kl := ⟨_, rfl⟩
            have HKL := Lib.hid hkl
            have hklb : kl ≤ 1000 := by
              rw [← hkl]
              have h1 : kidsL (midL els q) (q : Int) = kidsF (q : Int) 0 (midL els q) := by unfold kidsL; rw [if_pos (by rw [hml]; omega)]
              have h2 := kidsF_len (q : Int) 0 (midL els q)
              rw [h1]
              omega
            rw [hkl] at hk0
            have hzx : (txt x).length ≤ 1000000000 := HSH.out x (List.mem_of_getElem? hx)
            obtain ⟨g, cap', e1, -, -⟩ := hon.out.at (by rw [hml]; omega)
            injection e1 with e1 e3 e2
            clear e3
            subst e1 e2
            have htc := hot.out.cells
            rcases htc with ⟨-, hnil⟩ | ⟨gx, cap'', e1, -, -, -⟩
            · exfalso
              have := congrArg List.length hnil
              rw [List.length_map, HM.out] at this
              simp at this
              omega
            injection e1 with e1 e3 e2
            clear e3
            subst e1 e2
            have HMA := Lib.hid hma
            have HML := Lib.hid hml
            clear hkl hx hma hml
            go_upto_region 13 with fail
            go_wp2_with fail
            refine HKS.out.mono ?_
            rintro e w8 ⟨⟨v8, rfl, o8⟩, b8⟩
            obtain ⟨KA, kc, hkv⟩ := o8.slice
            rw [HKL.out] at hkv
            subst hkv
            have ON8 := Lib.hid (hon.out.below b8)
            have GB8 := Lib.hid (hgb.out.below b8 hgb.out.lt)
            have OT8 := Lib.hid (hot.out.keep (.below b8))
            have B8 : Hid (Below G w w8) := hbl2.out.trans (b8.mono (by have := hz2.out; omega))
            have Z8 : Hid (G + 1 ≤ w8.heap.size) := Nat.le_trans hz2.out b8.size
            clear o8 b8 hon hgb hot hbl2 hz2 c0 HKS
            have d0 : w8.cell? ⟨G, 0, none⟩ = some (.slice (some ⟨g, 0, none⟩) m cap2) := GB8.out.cell 0
            have d2 : w8.cell? ⟨G, 2, none⟩ = some (.slice (some ⟨gx, 0, none⟩) m xcap2) := GB8.out.cell 2
            obtain ⟨tx, htx⟩ : ∃ tx, bts (txt x) = tx := ⟨_, rfl⟩
            have kx : w8.cell? ⟨gx, q, none⟩ = some (.string tx) := by
              rcases OT8.out.cells with ⟨h1, -⟩ | ⟨g9, c9, h1, -, -, hat⟩
              · cases h1
              · injection h1 with h1 _ _
                injection h1 with h1
                injection h1 with h1 _ _
                subst h1
                rw [← htx]
                exact hat q (txt x) (by rw [List.getElem?_map, HX1.out]; rfl)
            obtain ⟨k1, k5⟩ : w8.cell? ⟨g, q * 6 + 1, none⟩ = some (.int .i64 x.2.1) ∧ w8.cell? ⟨g, q * 6 + 5, none⟩ = some (.string ⟨#[]⟩) := by
              obtain ⟨g9, c9, h1, -, hat⟩ := ON8.out.at (by rw [HML.out]; omega)
              injection h1 with h1 _ _
              injection h1 with h1
              injection h1 with h1 _ _
              subst h1
              obtain ⟨u9, _, _, h2, _, _, _, h3⟩ := hat q (bare x) HMA.out
              exact ⟨h2, h3⟩
            obtain ⟨cs, hcs⟩ : ∃ cs, Bk w8 g 34 cs := by
              obtain ⟨ks, _, h2, _⟩ := ON8.out
              exact row_block h2 g rfl
            have f5 : w8.frozen? ⟨g, q * 6 + 5, none⟩ = false := hcs.free _
            have HCS := Lib.hid hcs
            have hsz : tx.size ≤ 1000000000 := by rw [← htx]; show (⟨(txt x).toArray⟩ : ByteArray).size ≤ _; exact hzx
            have HBL := rBlank_any tx w8 (by omega)
            rw [show tx.data.toList = txt x by rw [← htx]] at HBL
            have HTX := Lib.hid htx
            have hqi : (q : Int) < (m : Int) := by omega
            have hqb : q < 1000 := by omega
            have HNE : Hid (G ≠ g) := Bk.type_ne GB8.out hcs (by decide)
            have HGg : Hid (G ≤ g) := by
              obtain ⟨ks, _, h2, _⟩ := ON8.out
              have h3 := (World.ownsRow.lt h2 g rfl).1
              unfold Hid
              omega
            obtain ⟨f, hf⟩ : ∃ f, kidOf els q = f := ⟨_, rfl⟩
            rw [hf] at hk0 HWR
            have HF := Lib.hid hf
            clear hcs htx hzx hf
            cases f with
            | false =>
              have hk1 : kl = 0 := of_decide_eq_true hk0
              have HW0 : Hid (wrongAt els q = false) := by unfold Hid; rw [HWR.out]; rfl
              have hno2 : Hid (∀ j, j < q + 1 → wrongAt els j = false) := fun j hj => by
                rcases Nat.lt_or_ge j q with h | h
                · exact hno.out j h
                · obtain rfl : j = q := by omega
                  exact HW0.out
              have HDA : Hid (doneAt els q x = (x.1, x.2.1, x.2.2.1, x.2.2.2.1, x.2.2.2.2.1, txt x)) := by unfold Hid doneAt; rw [HF.out]; rfl
              clear hk0 HBL k1
              subst hk1
              go_upto_region 14 with fail
              go_region
              all_goals
                have h5 := OwnN.say5 (cap := cap2) (by rw [HML.out]; exact ON8.out) HMA.out (txt x)
                rw [HML.out, HTX.out] at h5
                have ON9 : Hid (OwnN (G + 1) (w8.setCell ⟨g, q * 6 + 5, none⟩ (.string tx)).drew (.slice (some ⟨g, 0, none⟩) m cap2) (midL els (q + 1))) := by
                  unfold Hid
                  rw [HMS.out, HDA.out]
                  exact h5.below (Below.refl _ _).drew
                have GB9 : Hid (Bk (w8.setCell ⟨g, q * 6 + 5, none⟩ (.string tx)).drew G 57 #[.slice (some ⟨g, 0, none⟩) m cap2, .slice OA2 o ocap2, .slice (some ⟨gx, 0, none⟩) m xcap2]) := (GB8.out.far (p := ⟨g, q * 6 + 5, none⟩) HNE.out _).drew
                have OT9 : Hid (OwnT (G + 1) (w8.setCell ⟨g, q * 6 + 5, none⟩ (.string tx)).drew (.slice (some ⟨gx, 0, none⟩) m xcap2) (els.map txt)) := (OT8.out.keep (KeepT.set HCS.out (by decide) _ _)).keep (.below (Below.refl _ _).drew)
                have B9 : Hid (Below G w (w8.setCell ⟨g, q * 6 + 5, none⟩ (.string tx)).drew) := (B8.out.setCell (show G ≤ g from HGg.out) _).drew
                have Z9 : Hid (G + 1 ≤ (w8.setCell ⟨g, q * 6 + 5, none⟩ (.string tx)).drew.heap.size) := by
                  unfold Hid
                  show G + 1 ≤ (w8.setCell ⟨g, q * 6 + 5, none⟩ (.string tx)).heap.size
                  rw [World.size_setCell]
                  exact Z8.out
                clear h5 d0 d2 kx k5 f5
                go_wp2_with fail
                go_roundw
                case rel => exact ⟨q + 1, by omega, by go_num, ON9, hno2, GB9, OT9, B9, Z9⟩
                case measure => simp [intOf]; omega
            | true =>
              have hk1 : kl ≠ 0 := of_decide_eq_false hk0
              have gk : ((kl : Int) == 0) = false := by simp; omega
              have HDA : Hid (doneAt els q x = bare x) := by unfold Hid doneAt; rw [HF.out]; rfl
              have HWQ : Hid (wrongAt els q = !blankL (txt x)) := by unfold Hid; rw [HWR.out]; rfl
              obtain ⟨b, hb⟩ : ∃ b, blankL (txt x) = b := ⟨_, rfl⟩
              rw [hb] at HBL HWQ
              have HBB := Lib.hid HBL
              clear hk0 hk1 HBL hb k5 f5
              cases b with
              | true =>
                have hno2 : Hid (∀ j, j < q + 1 → wrongAt els j = false) := fun j hj => by
                  rcases Nat.lt_or_ge j q with h | h
                  · exact hno.out j h
                  · obtain rfl : j = q := by omega
                    exact HWQ.out
                have ON9 : Hid (OwnN (G + 1) w8 (.slice (some ⟨g, 0, none⟩) m cap2) (midL els (q + 1))) := by
                  unfold Hid
                  rw [HMS.out, HDA.out, set_same HMA.out]
                  exact ON8.out
                clear k1
                go_wp2_with (go_at_call 24; refine HBB.out.mono ?_; rintro e w9 ⟨rfl, hw9⟩; have hw9' := hw9.symm; clear hw9; subst hw9')
                go_roundw
                case rel => exact ⟨q + 1, by omega, by go_num, ON9, hno2, GB8, OT8, B8, Z8⟩
                case measure => simp [intOf]; omega
              | false =>
                have HR2 : Hid (buildL ts = ([], x.2.1, 10)) := by
                  unfold Hid
                  rw [HR.out, fin_wrong hno.out HX1.out HWQ.out]
                obtain ⟨a1, ha1⟩ : ∃ a1 : Int, x.2.1 = a1 := ⟨_, rfl⟩
                rw [ha1] at k1 HR2
                clear ha1
                go_wp2_with (go_at_call 24; refine HBB.out.mono ?_; rintro e w9 ⟨rfl, hw9⟩; have hw9' := hw9.symm; clear hw9; subst hw9')
                go_quiet (fail)
                go_wp2_with fail
                refine bodyPost_ret (v := .tuple #[.slice none 0 0, .int .i64 a1, .int .i64 10]) (by simp [results, Tryz.results9, go_sem]) rfl ⟨BuiltOut.err HR2.out rfl, drewN_low B8.out _⟩
          · have hqm : q = m := by omega
            have HR2 : Hid (buildL ts = (doneF els 0 els, 0, 0)) := by
              unfold Hid
              rw [HR.out, fin_right (fun i hi => hno.out i (by have := HM.out; omega))]
            have O9 : Hid (OwnN (G + 1) wr (.slice A2 m cap2) (doneF els 0 els)) := by
              have h1 := hon.out
              rw [show midL els q = doneF els 0 els by rw [hqm, ← HM.out]; exact mid_end els] at h1
              exact h1
            clear hqm
            go_wp2_with fail
            refine bodyPost_ret (v := .tuple #[.slice A2 m cap2, .int .i64 0, .int .i64 0]) (by simp [results, Tryz.results9, go_sem]) rfl ⟨⟨_, by rw [HR2.out]; rfl, ?_⟩, hbl2.out⟩
            rw [HR2.out]
            exact O9.out.weak (Nat.le_succ G)
end Go.Proofs.YtpomcamkkcggmaaGreatDoor
/-
  cardexref08: ParseTree.
-/
namespace Go.Proofs.YtpomcamkkcggmaaGreatDoor
open Go.RowKit Tk Tr

set_option maxHeartbeats 4000000 in
set_option maxRecDepth 100000 in
theorem rparse_any (s : ByteArray) (w : World) (hs : s.size ≤ 100000) :
    Calls Tryz.prog 11 #[.string s] w fun e w' => BuiltOut w.heap.size (parseL s.data.toList) e w' ∧ Below w.heap.size w w' := by
  have hsz := Lib.size_eq s
  have H1 := Lib.hid (rtokens_any s w (by omega))
  have HCN := Lib.hid (toks_count s.data.toList (by omega))
  have HCA := Lib.hid (toks_attrs s.data.toList (by omega))
  have HCB := Lib.hid (bulk_toks s.data.toList (by omega))
  have HPB := Lib.hid (parse_bad (l := s.data.toList))
  have HPG := Lib.hid (parse_good (l := s.data.toList))
  obtain ⟨O, hO⟩ : ∃ O, tokensL s.data.toList = O := ⟨_, rfl⟩
  rw [hO] at H1 HCN HCA HCB HPB HPG
  obtain ⟨tl, p, q⟩ := O
  simp only at H1 HCN HCA HCB HPB HPG
  clear hO hsz hs
  obtain ⟨pz, hpz⟩ : ∃ z : Int, (p : Int) = z := ⟨_, rfl⟩
  obtain ⟨qz, hqz⟩ : ∃ z : Int, (q : Int) = z := ⟨_, rfl⟩
  have HPZ := Lib.hid hpz
  have HQZ := Lib.hid hqz
  by_cases hq : q = 0
  · have HR := Lib.hid (HPG.out hq)
    have hq0 : qz = 0 := by omega
    obtain ⟨bo, hbo⟩ : ∃ bo, buildL (tl.map toI) = bo := ⟨_, rfl⟩
    obtain ⟨rn, ra, re⟩ := bo
    rw [hbo] at HR
    have HBO := Lib.hid hbo
    clear hpz hqz hq hbo
    go_enter Tryz.func11, Tryz.ntmps11
    go_wp2_with fail
    refine H1.out.mono ?_
    rintro e w1 ⟨⟨v, rfl, o1⟩, b1⟩
    simp only
    rw [HPZ.out, HQZ.out, hq0]
    have HBU := Lib.hid (rbuild_any v (tl.map toI) w1 o1.reads.readI (by rw [List.length_map]; exact HCN.out) (by have := HCB.out; omega) (fun t ht => by
      obtain ⟨k, hk, rfl⟩ := List.mem_map.1 ht
      have := HCA.out k hk
      show k.2.2.2.2.1.length ≤ _
      omega))
    rw [HBO.out] at HBU
    obtain ⟨A, cap, rfl⟩ := o1.len
    have B1 := Lib.hid b1
    clear o1 b1
    go_wp2_with fail
    refine HBU.out.mono ?_
    rintro e w2 ⟨⟨v2, rfl, o2⟩, b2⟩
    have B2 : Hid (Below w.heap.size w w2) := B1.out.trans (b2.mono B1.out.size)
    have O2 := Lib.hid (o2.weak B1.out.size)
    simp only at O2 o2 ⊢
    obtain ⟨A2, cap2, rfl⟩ := o2.slice
    clear b2 o2
    go_wp2_with fail
    refine bodyPost_ret (v := .tuple #[.slice A2 rn.length cap2, .int .i64 ra, .int .i64 (re : Nat)]) (by simp [results, Tryz.results11, go_sem]) rfl ⟨by rw [HR.out]; exact ⟨_, rfl, O2.out⟩, B2.out⟩
  · have HR := Lib.hid (HPB.out hq)
    have hq0 : (qz != 0) = true := by simp; omega
    clear hpz hqz hq
    go_enter Tryz.func11, Tryz.ntmps11
    go_wp2_with fail
    refine H1.out.mono ?_
    rintro e w1 ⟨⟨v, rfl, o1⟩, b1⟩
    simp only
    rw [HPZ.out, HQZ.out]
    obtain ⟨A, cap, rfl⟩ := o1.len
    have B1 := Lib.hid b1
    clear o1 b1
    go_wp2_with fail
    refine bodyPost_ret (v := .tuple #[.slice none 0 0, .int .i64 pz, .int .i64 qz]) (by simp [results, Tryz.results11, go_sem]) rfl ⟨BuiltOut.err HR.out (by rw [HPZ.out, HQZ.out]), B1.out⟩
end Go.Proofs.YtpomcamkkcggmaaGreatDoor
