import Derived.Test.YtogjhpcjjmcjfaaGreatDoorL43
import Derived.Test.YtogjhpcjjmcjfaaGreatDoorL44
import Derived.Test.YtogjhpcjjmcjfaaGreatDoorL45
import Derived.Test.YtogjhpcjjmcjfaaGreatDoorL35
import Derived.Test.YtogjhpcjjmcjfaaGreatDoorL47
import Derived.Test.YtogjhpcjjmcjfaaGreatDoorL46
import Derived.Test.YtogjhpcjjmcjfaaGreatDoorL24
/- what is reached of it -/
namespace Go.Proofs.YtogjhpcjjmcjfaaGreatDoor
open Go.RowKit Go.Sort Sy Vc Ct Tx
theorem ownIt_reads {B : Nat} {w : World} {v : Value} {L : List ItOk} (h : OwnIt B w v L) (hT : ∀ x ∈ L, ReadT w.heap.size w (sl x.1.2) (sts x.1.1.groups)) : ReadI w.heap.size w v (L.map (·.1)) := by
  rcases h.cells with ⟨rfl, rfl⟩ | ⟨g, cap, rfl, hc, _, hg, hcell⟩
  · exact ⟨none, 0, rfl, fun h0 => absurd h0 (Nat.lt_irrefl _), fun p hp => by cases hp⟩
  · refine ⟨_, cap, by rw [List.length_map], fun _ => ⟨g, 0, rfl, hg, fun i p hi c u hu => ?_⟩, fun p hp => ?_⟩
    · rw [List.getElem?_map] at hi
      obtain ⟨x, hx, rfl⟩ := Option.map_eq_some_iff.1 hi
      have hc6 : c < 6 := by
        have := (List.getElem?_eq_some_iff.1 hu).1
        simpa [encI] using this
      obtain ⟨hil, hxe⟩ := List.getElem?_eq_some_iff.1 hx
      have e := flatI_at L i c hil hc6
      rw [getElem!_pos L.toArray i (by simpa using hil), List.getElem_toArray, hxe] at e
      rw [Nat.zero_add]
      exact hcell _ _ (e.trans hu)
    · obtain ⟨x, hx, rfl⟩ := List.mem_map.1 hp
      exact hT x hx
theorem rsortIt_any (v : Value) (l : List (Itm × Slc)) (w : World) (hR : ReadI w.heap.size w v l) (hl : l.length ≤ 1000000) (h : ∀ p ∈ l, p.1.jid.length ≤ 1000000000) :
    Calls Tryz.prog 18 #[v] w fun e w' => ∃ v' l', e = .returned v' ∧ ReadI w'.heap.size w' v' l' ∧ l'.map (·.1) = sortS ltJ (l.map (·.1)) ∧ Below w.heap.size w w' := by
  refine (rsortR_any v l h w hR hl).mono ?_
  rintro e w' ⟨⟨u, rfl, ho⟩, hb⟩
  refine ⟨u, _, rfl, ownIt_reads ho (fun x hx => ?_), ?_, hb⟩
  · have h1 := (sortS_perm (okI l h)).mem_iff.1 hx
    have h2 : x.1 ∈ l := by rw [← okI_val l h]; exact List.mem_map.2 ⟨x, h1, rfl⟩
    obtain ⟨_, _, _, _, hT⟩ := hR
    exact (hT _ h2).upon hb
  · have e2 := sort_okI (okI l h)
    rw [List.map_map]
    show (sortS ltI (okI l h)).map (fun x => x.1.1) = _
    rw [e2]
    conv => rhs; rw [← okI_val l h, List.map_map]
    rfl
theorem wp_items {o : Oper} {a : Act} {K : Act → World → Prop} {Q : Exit → Act → World → Prop} (s x : Operand) (ho : o.op = .call { callee := .builtin .append, args := #[s, x], argTypes := #[25, 25] })
    (B : Nat) (v : Value) (A : Option Addr) (m c : Nat) (xs ys : List ItOk) (hm : ys.length = m) (W : World) (hB : B ≤ W.heap.size) (hs : a.eval s = v) (hown : OwnIt B W v xs) (hx : a.eval x = .slice A m c)
    (hy : 0 < ys.length → ∃ ad : Addr, A = some ad ∧ ∀ j u, (flatI ys)[j]? = some u → W.cell? (ad.add j) = some u) (hn : xs.length + ys.length ≤ 1000000000)
    (h : ∀ v' w', OwnIt B w' v' (xs ++ ys) → Below B W w' → K (a.put o.dst v') w') : Oper.wp Tryz.prog o a W K Q := by
  subst hm
  obtain ⟨i0, hi, hz0, hz1, hz2⟩ := info_parts infoItm
  have hown' : W.ownsRow B 24 6 v xs.length (flatI xs) := hown
  cases A with
  | none =>
    have h0 : ys = [] := by
      cases ys with
      | nil => rfl
      | cons y t => obtain ⟨_, e, _⟩ := hy (by simp); cases e
    subst h0
    have hx2 : a.eval x = .slice none 0 c := hx
    have hrun := run_append_noneC (P := Tryz.prog) (w := W) B 25 o.type 24 i0 6 c Tryz.underlying25 hi v xs.length (flatI xs) hown'
    unfold Oper.wp
    simp [execOp, ho, resolve, invoke, builtin, hs, hx2, hrun, Result.andThen]
    exact h v W (by rw [List.append_nil]; exact hown) (Below.refl _ _)
  | some ad =>
    refine wp_append_own _ s x 25 ho B 24 i0 _ 6 72 Tryz.underlying25 hi hz0 hz1 hz2 rfl (by decide) v xs.length (flatI xs) hs hown' ad ys.length c (flatI ys) hx (flatI_len ys) ?_ (flatI_one ys) ?_ (by omega) hB ?_
    · intro j u hj
      have hlt : 0 < ys.length := by
        have := (List.getElem?_eq_some_iff.1 hj).1
        rw [flatI_len] at this
        omega
      obtain ⟨ad2, e, hc⟩ := hy hlt
      obtain rfl := Option.some.inj e
      exact hc j u hj
    · unfold maxLen; omega
    · intro v' w' h1 hg _
      refine h v' w' ?_ ((Below.refl B W).grown hg hB (fun j hj => (World.ownsRow.lt hown' j hj).1))
      unfold OwnIt
      rw [flatI_cat, List.length_append]
      exact h1
theorem readI_flat {w : World} {v : Value} {l : List (Itm × Slc)} (hR : ReadI w.heap.size w v l) (h : ∀ p ∈ l, p.1.jid.length ≤ 1000000000) : ∃ A cap, v = .slice A l.length cap ∧ (0 < (okI l h).length → ∃ ad : Addr, A = some ad ∧ ∀ W, Below w.heap.size w W → ∀ j u, (flatI (okI l h))[j]? = some u → W.cell? (ad.add j) = some u) := by
  obtain ⟨A, cap, rfl, hc, _⟩ := hR
  refine ⟨A, cap, rfl, fun h0 => ?_⟩
  rw [okI_len] at h0
  obtain ⟨b, off, rfl, hb, hcc⟩ := hc h0
  refine ⟨_, rfl, fun W hW j u hj => ?_⟩
  have hj1 := (List.getElem?_eq_some_iff.1 hj).1
  rw [flatI_len, okI_len] at hj1
  have hj2 : j / 6 < l.length := by omega
  have hj3 : j % 6 < 6 := Nat.mod_lt _ (by decide)
  have hj4 : j / 6 * 6 + j % 6 = j := by omega
  have hlt2 : j / 6 < (okI l h).length := by rw [okI_len]; exact hj2
  have e1 := flatI_at (okI l h) (j / 6) (j % 6) hlt2 hj3
  rw [hj4, hj, getElem!_pos (okI l h).toArray (j / 6) (by simpa using hlt2), List.getElem_toArray] at e1
  have e2 : l[j / 6]? = some ((okI l h)[j / 6]).1 := by
    conv => lhs; rw [← okI_val l h]
    rw [List.getElem?_map, List.getElem?_eq_getElem hlt2]
    rfl
  rw [add_at, hW.cell (p := ⟨b, off + j, none⟩) hb]
  have := hcc (j / 6) _ e2 (j % 6) u e1.symm
  rw [show off + j / 6 * 6 + j % 6 = off + j by omega] at this
  exact this
def noneI : Itm := ⟨[], [], [], 0, false, false⟩
/-- who is found, and whether there is one -/
def foundI (l : List (Itm × Slc)) (j : List UInt8) : Itm × Bool := match l.find? (fun p => decide (p.1.jid = j)) with
  | some p => (p.1, true)
  | none => (noneI, false)
theorem findP_any (v : Value) (l : List (Itm × Slc)) (j : List UInt8) (w : World) (hR : ReadI w.heap.size w v l) (hl : l.length ≤ 1000000) (hg : ∀ p ∈ l, p.1.groups.length ≤ 8000000000000) :
    Calls Tryz.prog 12 #[v, .string (bts j)] w fun e w' => ∃ g : Slc, e = .returned (.tuple #[agI (foundI l j).1 (sl g), .bool (foundI l j).2]) ∧ ReadT w'.heap.size w' (sl g) (sts (foundI l j).1.groups) ∧ Below w.heap.size w w' := by
  refine (findI_all v l j w hR hl hg).mono ?_
  rintro e w' ⟨hb, h⟩
  unfold foundI
  rcases h with ⟨hn, rfl⟩ | ⟨p, hp, gv, rfl, hr⟩
  · rw [hn]
    exact ⟨(none, 0, 0), rfl, ReadT.nil _ _ _, hb⟩
  · rw [hp]
    obtain ⟨A, c, hgv, _⟩ := id hr
    subst hgv
    exact ⟨(A, _, c), rfl, hr, hb⟩
theorem rfindP_any (v : Value) (l : List (Itm × Slc)) (j : List UInt8) (w : World) (hR : ReadI w.heap.size w v l) (hl : l.length ≤ 1000000) :
    Calls Tryz.prog 13 #[v, .string (bts j)] w fun e w' => ∃ g : Slc, e = .returned (.tuple #[agI (foundI l j).1 (sl g), .bool (foundI l j).2]) ∧ ReadT w'.heap.size w' (sl g) (sts (foundI l j).1.groups) ∧ Below w.heap.size w w' := by
  refine (rfindI_any v l j w hR hl).mono ?_
  rintro e w' ⟨hb, h⟩
  unfold foundI
  rcases h with ⟨hn, rfl⟩ | ⟨p, hp, rfl⟩
  · rw [hn]
    exact ⟨(none, 0, 0), rfl, ReadT.nil _ _ _, hb⟩
  · rw [hp]
    obtain ⟨_, _, _, _, hT⟩ := hR
    exact ⟨p.2, rfl, (hT p (List.mem_of_find?_eq_some hp)).upon hb, hb⟩
theorem found_groups (l : List (Itm × Slc)) (j : List UInt8) (n : Nat) (h : ∀ p ∈ l, p.1.groups.length ≤ n) : (foundI l j).1.groups.length ≤ n := by
  unfold foundI
  split
  · next p hp => exact h p (List.mem_of_find?_eq_some hp)
  · exact Nat.zero_le _
set_option linter.unusedSimpArgs false in
set_option maxHeartbeats 16000000 in
set_option maxRecDepth 100000 in
theorem itemTells_any (x : Itm) (gv v : Value) (l : List (Itm × Slc)) (u : Value) (gs : List (List UInt8)) (j : List UInt8) (w : World) (hO : Okw w)
    (hRx : ReadT w.heap.size w gv (sts x.groups)) (hbx : heavyI x ≤ 1000000000) (hR : ReadI w.heap.size w v l) (hl : l.length ≤ 1000000) (hb : heavyIs l ≤ 100000000) (hRg : ReadT w.heap.size w u (sts gs)) (hgl : gs.length ≤ 1000000000) (hgs : heavyT gs ≤ 1000000000000) :
    Calls Tryz.prog 3 #[agI x gv, v, u, .string (bts j)] w fun e w' => e = .returned (.bool true) ∧ Below w.heap.size w w' := by
  have HSM : Hid (∀ W, Below w.heap.size w W → Calls Tryz.prog 8 #[v] W fun e w' => e = .returned (.bool (smallIs l)) ∧ Below W.heap.size W w') := fun W hW => smallIs_any v l W (hR.upon hW) hl (fun p hp => by have h1 := heavy_each hp; have := (heavy_parts (Nat.le_trans h1 hb)).2.2.1; omega) (by omega)
  obtain ⟨GA, gn, gcap, rfl⟩ : ∃ A n cap, gv = .slice A n cap := by obtain ⟨A, cap, e, _⟩ := hRx; exact ⟨A, _, cap, e⟩
  have HSX : Hid (∀ (W : World) (b : Nat), Below w.heap.size w W → Bk W b 24 (encI x (.slice GA gn gcap)).toArray → Calls Tryz.prog 8 #[.slice (some ⟨b, 0, none⟩) 1 1] W fun e w' => e = .returned (.bool (smallIs [(x, GA, gn, gcap)])) ∧ Below W.heap.size W w') := fun W b hW k =>
    smallIs_any _ _ W (readI_one x (GA, gn, gcap) k (hRx.upon hW)) (by simp) (fun p hp => by rw [List.mem_singleton] at hp; subst hp; have := (heavy_parts hbx).2.2.1; show x.groups.length ≤ _; omega) (by rw [heavy_one]; exact Nat.le_trans hbx (by decide))
  have HTX : Hid (∀ W, Below w.heap.size w W → Calls Tryz.prog 9 #[u] W fun e w' => e = .returned (.int .i64 (heavyT gs : Nat)) ∧ w' = W) := fun W hW => ptexts_any u gs W (hRg.upon hW) hgl hgs
  have HAW : Hid (∀ W, Below w.heap.size w W → Calls Tryz.prog 10 #[] W fun e w' => e = .returned (.bool true) ∧ Below W.heap.size W w') := fun W h => iawake_any W (hO.below h)
  have hsx : smallIs [(x, GA, gn, gcap)] = true → x.jid.length ≤ 20000 ∧ x.name.length ≤ 20000 ∧ x.groups.length ≤ 20000 ∧ ∀ g ∈ x.groups, g.length ≤ 20000 := fun h => (small_parts h).2 (x, GA, gn, gcap) (List.mem_singleton.2 rfl)
  -- what is asked when all are small
  have HRI : Hid (smallIs [(x, GA, gn, gcap)] = true → ∀ W, Below w.heap.size w W → Calls Tryz.prog 14 #[agI x (.slice GA gn gcap)] W fun e w' => e = .returned (.bool (rightI x)) ∧ Below W.heap.size W w') := fun h W hW => by
    obtain ⟨h1, h2, h3, h4⟩ := hsx h
    exact iright_any x _ W (hO.below hW) (hRx.upon hW) (by omega) (by omega) (by omega) (fun g hg => by have := h4 g hg; omega)
  have HRR : Hid (smallIs [(x, GA, gn, gcap)] = true → ∀ W, Below w.heap.size w W → Calls Tryz.prog 15 #[agI x (.slice GA gn gcap)] W fun e w' => e = .returned (.bool (rightI x)) ∧ Below W.heap.size W w') := fun h W hW => by
    obtain ⟨h1, h2, h3, h4⟩ := hsx h
    exact rrightI_any x _ W (hRx.upon hW) (by omega) (by omega) (by omega) (fun g hg => by have := h4 g hg; omega)
  have hsl : smallIs l = true → l.length ≤ 150 ∧ ∀ p ∈ l, p.1.jid.length ≤ 20000 ∧ p.1.name.length ≤ 20000 ∧ p.1.groups.length ≤ 20000 ∧ ∀ g ∈ p.1.groups, g.length ≤ 20000 := small_parts
  have HS1 : Hid (smallIs l = true → ∀ W, Below w.heap.size w W → Calls Tryz.prog 17 #[v] W fun e w' => ∃ v' l', e = .returned v' ∧ ReadI w'.heap.size w' v' l' ∧ l'.map (·.1) = sortS ltJ (l.map (·.1)) ∧ Below W.heap.size W w') := fun h W hW =>
    sortIt_any v l W (hO.below hW) (hR.upon hW) hl (fun p hp => by have := ((hsl h).2 p hp).1; omega) (fun p hp => by have := ((hsl h).2 p hp).2.2.1; omega)
  have HS2 : Hid (smallIs l = true → ∀ W, Below w.heap.size w W → Calls Tryz.prog 18 #[v] W fun e w' => ∃ v' l', e = .returned v' ∧ ReadI w'.heap.size w' v' l' ∧ l'.map (·.1) = sortS ltJ (l.map (·.1)) ∧ Below W.heap.size W w') := fun h W hW =>
    rsortIt_any v l W (hR.upon hW) hl (fun p hp => by have := ((hsl h).2 p hp).1; omega)
  have HF1 : Hid (smallIs l = true → ∀ W, Below w.heap.size w W → Calls Tryz.prog 12 #[v, .string (bts j)] W fun e w' => ∃ g : Slc, e = .returned (.tuple #[agI (foundI l j).1 (sl g), .bool (foundI l j).2]) ∧ ReadT w'.heap.size w' (sl g) (sts (foundI l j).1.groups) ∧ Below W.heap.size W w') := fun h W hW =>
    findP_any v l j W (hR.upon hW) hl (fun p hp => by have := ((hsl h).2 p hp).2.2.1; omega)
  have HF2 : Hid (∀ W, Below w.heap.size w W → Calls Tryz.prog 13 #[v, .string (bts j)] W fun e w' => ∃ g : Slc, e = .returned (.tuple #[agI (foundI l j).1 (sl g), .bool (foundI l j).2]) ∧ ReadT w'.heap.size w' (sl g) (sts (foundI l j).1.groups) ∧ Below W.heap.size W w') := fun W hW =>
    rfindP_any v l j W (hR.upon hW) hl
  have HFG : Hid (smallIs l = true → (foundI l j).1.groups.length ≤ 140737488355328) := fun h => Nat.le_trans (found_groups l j 20000 (fun p hp => ((hsl h).2 p hp).2.2.1)) (by decide)
  -- two lists that are sorted alike
  have HII : Hid (smallIs l = true → ∀ (a b : Value) (l1 l2 : List (Itm × Slc)) (W : World), ReadI W.heap.size W a l1 → ReadI W.heap.size W b l2 → l1.map (·.1) = sortS ltJ (l.map (·.1)) → l2.map (·.1) = sortS ltJ (l.map (·.1)) → Calls Tryz.prog 16 #[a, b] W fun e w' => e = .returned (.bool true) ∧ Below W.heap.size W w') := fun h a b l1 l2 W h1 h2 h3 h4 =>
    itemsI_same a b l1 l2 W h1 h2 (h3.trans h4.symm) (by
      have := congrArg List.length h3
      rw [List.length_map, sortS_len, List.length_map] at this
      omega) (fun p hp => by
      have h5 : p.1 ∈ l1.map (·.1) := List.mem_map.2 ⟨p, hp, rfl⟩
      rw [h3] at h5
      obtain ⟨q, hq, e⟩ := List.mem_map.1 ((sortS_perm _).mem_iff.1 h5)
      rw [← e]
      exact Nat.le_trans ((hsl h).2 q hq).2.2.1 (by decide))
  have HIW : Hid (smallIs l = true → ∀ (b : Value) (W : World), Below w.heap.size w W → ReadI W.heap.size W b l → Calls Tryz.prog 16 #[v, b] W fun e w' => e = .returned (.bool true) ∧ Below W.heap.size W w') := fun h b W hW h2 =>
    itemsI_same v b l l W (hR.upon hW) h2 rfl hl (fun p hp => Nat.le_trans ((hsl h).2 p hp).2.2.1 (by decide))
  have HOW : Hid (gs.length ≤ 1000000 → ∀ W, Below w.heap.size w W → Calls Tryz.prog 11 #[u, .string ⟨#[102, 105, 108, 108]⟩] W fun e w' => ∃ q, e = .returned q ∧ OwnS3 W.heap.size w' q (sts gs) ⟨#[102, 105, 108, 108]⟩ ∧ Below W.heap.size W w') := fun h W hW =>
    ownT_any u (sts gs) _ W (hRg.upon hW) (by unfold sts; rw [List.length_map]; exact h)
  have HKE : Hid (gs.length ≤ 1000000 → ∀ (B : Nat) (q : Value) (W : World), Below w.heap.size w W → OwnS3 B W q (sts gs) ⟨#[102, 105, 108, 108]⟩ → Calls Tryz.prog 22 #[q, u, .string ⟨#[102, 105, 108, 108]⟩] W fun e w' => e = .returned (.bool true) ∧ Below W.heap.size W w') := fun h B q W hW ho =>
    keptT_any B q u (sts gs) _ W ho (hRg.upon hW) (by unfold sts; rw [List.length_map]; exact h)
  have HG1 : Hid (gs.length ≤ 1000000 → ∀ (q : Value) (W : World), ReadT W.heap.size W q (sts gs) → Calls Tryz.prog 20 #[q] W fun e w' => ∃ q2, e = .returned q2 ∧ ReadT w'.heap.size w' q2 (sts (groupsL gs)) ∧ Below W.heap.size W w') := fun h q W hr => igroups_any q gs W hr h
  have HG2 : Hid (gs.length ≤ 1000000 → ∀ W, Below w.heap.size w W → Calls Tryz.prog 21 #[u] W fun e w' => (∃ q2, e = .returned q2 ∧ OwnT W.heap.size w' q2 (sts (groupsL gs))) ∧ Below W.heap.size W w') := fun h W hW => rgroups_any u gs W (hRg.upon hW) h
  have HPL : Hid (gs.length ≤ 1000000 → ∀ (a b : Value) (W : World), ReadT W.heap.size W a (sts (groupsL gs)) → ReadT W.heap.size W b (sts (groupsL gs)) → Calls Tryz.prog 19 #[a, b] W fun e w' => e = .returned (.bool true) ∧ Below W.heap.size W w') := fun h a b W h1 h2 => by
    have hgg := groups_len gs
    have := plainT_any W.heap.size a b (sts (groupsL gs)) (sts (groupsL gs)) W h1 h2 (by unfold sts; rw [List.length_map]; omega) (by unfold sts; rw [List.length_map]; omega)
    rw [decide_eq_true rfl] at this
    exact this
  have HFL : Hid (smallIs l = true → ∃ L : List ItOk, L.map (·.1) = l ∧ L.length = l.length ∧ ∃ A cap, v = .slice A l.length cap ∧ (0 < L.length → ∃ ad : Addr, A = some ad ∧ ∀ W, Below w.heap.size w W → ∀ j u, (flatI L)[j]? = some u → W.cell? (ad.add j) = some u)) := fun h => by
    have hj : ∀ p ∈ l, p.1.jid.length ≤ 1000000000 := fun p hp => by have := ((hsl h).2 p hp).1; omega
    obtain ⟨A, cap, h1, h2⟩ := readI_flat hR hj
    exact ⟨okI l hj, okI_val l hj, okI_len l hj, A, cap, h1, h2⟩
  have HT0 : Hid (∀ W, Below w.heap.size w W → ∀ p ∈ l, ReadT W.heap.size W (sl p.2) (sts p.1.groups)) := fun W hW p hp => by
    obtain ⟨_, _, _, _, hT⟩ := hR
    exact (hT p hp).upon hW
  have HLL : Hid (smallIs l = true → l.length ≤ 150) := fun h => (hsl h).1
  have hhg : gs.length ≤ heavyT gs := (heavy_mem gs).1
  have HHG := Lib.hid hhg
  obtain ⟨LA, ln, lcap, rfl⟩ : ∃ A n cap, v = .slice A n cap := by obtain ⟨A, cap, e, _⟩ := hR; exact ⟨A, _, cap, e⟩
  obtain ⟨UA, un, ucap, rfl⟩ : ∃ A n cap, u = .slice A n cap := by obtain ⟨A, cap, e, _⟩ := hRg; exact ⟨A, _, cap, e⟩
  have hAX : agI x (.slice GA gn gcap) = .agg #[.string (bts x.jid), .string (bts x.name), .slice GA gn gcap, .int .i64 x.sub, .bool x.ask, .bool x.app] := rfl
  have hex : (encI x (.slice GA gn gcap)).toArray = #[.string (bts x.jid), .string (bts x.name), .slice GA gn gcap, .int .i64 x.sub, .bool x.ask, .bool x.app] := rfl
  rw [hex] at HSX
  rw [hAX] at HRI HRR ⊢
  obtain ⟨hv, hhv⟩ : ∃ h, heavyT gs = h := ⟨_, rfl⟩
  rw [hhv] at HTX HHG
  obtain ⟨cl, hcl⟩ : ∃ b, smallIs l = b := ⟨_, rfl⟩
  obtain ⟨cx, hcx⟩ : ∃ b, smallIs [(x, GA, gn, gcap)] = b := ⟨_, rfl⟩
  obtain ⟨r, hr⟩ : ∃ b, rightI x = b := ⟨_, rfl⟩
  obtain ⟨J, hJ⟩ : ∃ b, bts j = b := ⟨_, rfl⟩
  obtain ⟨fx, hfx⟩ : ∃ b, foundI l j = b := ⟨_, rfl⟩
  rw [hcl] at HSM HS1 HS2 HF1 HFG HII HIW HFL HLL
  rw [hcx] at HSX HRI HRR
  rw [hr] at HRI HRR
  rw [hJ, hfx] at HF1 HF2
  rw [hfx] at HFG
  rw [hJ]
  obtain ⟨X0, hX0⟩ : ∃ X, bts x.jid = X := ⟨_, rfl⟩
  obtain ⟨X1, hX1⟩ : ∃ X, bts x.name = X := ⟨_, rfl⟩
  obtain ⟨SB, hSB⟩ : ∃ X, x.sub = X := ⟨_, rfl⟩
  obtain ⟨AK, hAK⟩ : ∃ X, x.ask = X := ⟨_, rfl⟩
  obtain ⟨AP, hAP⟩ : ∃ X, x.app = X := ⟨_, rfl⟩
  rw [hX0, hX1, hSB, hAK, hAP] at HSX HRI HRR ⊢
  obtain ⟨⟨fj, fm, fg, fs, fk, fa⟩, f⟩ := fx
  obtain ⟨FJ, hFJ⟩ : ∃ X, bts fj = X := ⟨_, rfl⟩
  obtain ⟨FM, hFM⟩ : ∃ X, bts fm = X := ⟨_, rfl⟩
  have HAG : Hid (∀ A m c, agI ⟨fj, fm, fg, fs, fk, fa⟩ (sl (A, m, c)) = .agg #[.string FJ, .string FM, .slice A m c, .int .i64 fs, .bool fk, .bool fa]) := fun A m c => by rw [← hFJ, ← hFM]; rfl
  clear hO hRx hbx hR hl hb hRg hgl hgs hsx hsl hhg hAX hex hhv hcl hcx hr hJ hfx hX0 hX1 hSB hAK hAP hFJ hFM
  obtain ⟨W1, hW1⟩ : ∃ W1, w.alloc (.cells #[.string X0, .string X1, .slice GA gn gcap, .int .i64 SB, .bool AK, .bool AP] 24) = W1 := ⟨_, rfl⟩
  obtain ⟨G, hG⟩ : ∃ G, w.heap.size = G := ⟨_, rfl⟩
  have K1 : Hid (Bk W1 G 24 #[.string X0, .string X1, .slice GA gn gcap, .int .i64 SB, .bool AK, .bool AP]) := by rw [← hW1, ← hG]; exact Bk.new _ _ _
  have B1 : Hid (Below w.heap.size w W1) := by rw [← hW1]; exact (Below.refl _ _).alloc (Nat.le_refl _) _
  have HW1 := Lib.hid hW1
  have HGE := Lib.hid hG
  clear hW1 hG
  have AWK : Hid (∀ (W : World), Below w.heap.size w W → Calls Tryz.prog 10 #[] W fun e w' => e = .returned (.bool true) ∧ Below w.heap.size w w') := fun W hW => (HAW.out W hW).mono fun e w' ⟨he, hb⟩ => ⟨he, hW.trans (hb.mono hW.size)⟩
  go_enter Tryz.func3, Tryz.ntmps3
  go_upto_region 1 with fail
  (try rw [HW1.out])
  (try rw [HGE.out])
  go_wp2_with fail
  refine (HSM.out W1 B1.out).mono ?_
  rintro e w2 ⟨rfl, b2⟩
  have B2 : Hid (Below w.heap.size w w2) := B1.out.trans (b2.mono B1.out.size)
  have K2 := Lib.hid (K1.out.below b2 K1.out.lt)
  clear b2
  cases cl with
  | false =>
    have HA := Lib.hid (AWK.out w2 B2.out)
    go_wp2_with fail
    refine HA.out.mono ?_
    rintro e w3 ⟨rfl, b3⟩
    go_wp2_with fail
    go_ret
    exact ⟨rfl, by first | exact b3 | (rw [← HGE.out]; exact b3)⟩
  | true =>
  obtain ⟨W3, hW3⟩ : ∃ W, w2.alloc (.cells #[.string X0, .string X1, .slice GA gn gcap, .int .i64 SB, .bool AK, .bool AP] 24) = W := ⟨_, rfl⟩
  obtain ⟨bb, hbb⟩ : ∃ G, w2.heap.size = G := ⟨_, rfl⟩
  have k3 : Bk W3 bb 24 #[.string X0, .string X1, .slice GA gn gcap, .int .i64 SB, .bool AK, .bool AP] := by rw [← hW3, ← hbb]; exact Bk.new _ _ _
  have b3 : Below w2.heap.size w2 W3 := by rw [← hW3]; exact (Below.refl _ _).alloc (Nat.le_refl _) _
  have B3 : Hid (Below w.heap.size w W3) := B2.out.trans (b3.mono B2.out.size)
  have K3 := Lib.hid (K2.out.below b3 K2.out.lt)
  have HSX3 := Lib.hid (HSX.out W3 bb B3.out k3)
  have c0 : w2.cell? ⟨G, 0, none⟩ = some (.string X0) := K2.out.cell 0
  have c1 : w2.cell? ⟨G, 1, none⟩ = some (.string X1) := K2.out.cell 1
  have c2 : w2.cell? ⟨G, 2, none⟩ = some (.slice GA gn gcap) := K2.out.cell 2
  have c3 : w2.cell? ⟨G, 3, none⟩ = some (.int .i64 SB) := K2.out.cell 3
  have c4 : w2.cell? ⟨G, 4, none⟩ = some (.bool AK) := K2.out.cell 4
  have c5 : w2.cell? ⟨G, 5, none⟩ = some (.bool AP) := K2.out.cell 5
  clear k3 b3
  go_wp2_with fail
  refine HSX3.out.mono ?_
  rintro e w4 ⟨rfl, b4⟩
  have B4 : Hid (Below w.heap.size w w4) := B3.out.trans (b4.mono B3.out.size)
  have K4 := Lib.hid (K3.out.below b4 K3.out.lt)
  clear b4 hW3 hbb c0 c1 c2 c3 c4 c5
  cases cx with
  | false =>
    have HA := Lib.hid (AWK.out w4 B4.out)
    go_wp2_with fail
    refine HA.out.mono ?_
    rintro e w5 ⟨rfl, b5⟩
    go_wp2_with fail
    go_ret
    exact ⟨rfl, by first | exact b5 | (rw [← HGE.out]; exact b5)⟩
  | true =>
  go_wp2_with fail
  refine (HTX.out w4 B4.out).mono ?_
  rintro e w5 ⟨rfl, hw5⟩
  rw [hw5]
  clear hw5
  by_cases hbig : 3000 < hv
  · have hbz : (3000 : Int) < (hv : Int) := by omega
    have HA := Lib.hid (AWK.out w4 B4.out)
    go_wp2_with fail
    refine HA.out.mono ?_
    rintro e w5 ⟨rfl, b5⟩
    go_wp2_with fail
    go_ret
    exact ⟨rfl, by first | exact b5 | (rw [← HGE.out]; exact b5)⟩
  · have hbz : ¬ (3000 : Int) < (hv : Int) := by omega
    have hgl : gs.length ≤ 1000000 := by have := HHG.out; omega
    have HGL := Lib.hid hgl
    have RI := Lib.hid (HRI.out (by first | rfl | trivial))
    have RR := Lib.hid (HRR.out (by first | rfl | trivial))
    have S1 := Lib.hid (HS1.out (by first | rfl | trivial))
    have S2 := Lib.hid (HS2.out (by first | rfl | trivial))
    have F1 := Lib.hid (HF1.out (by first | rfl | trivial))
    have FG := Lib.hid (HFG.out (by first | rfl | trivial))
    have II := Lib.hid (HII.out (by first | rfl | trivial))
    have IW := Lib.hid (HIW.out (by first | rfl | trivial))
    have OW := Lib.hid (HOW.out hgl)
    have KE := Lib.hid (HKE.out hgl)
    have G1 := Lib.hid (HG1.out hgl)
    have G2 := Lib.hid (HG2.out hgl)
    have PL := Lib.hid (HPL.out hgl)
    have hfl := HFL.out (by first | rfl | trivial)
    have hll := HLL.out (by first | rfl | trivial)
    obtain ⟨L, hLv, hLl, A2, c2, hv2, hLc⟩ := hfl
    injection hv2 with e1 e2 e3
    subst e1
    have HLV := Lib.hid hLv
    have hLn : L.length = ln := by rw [hLl]; exact e2.symm
    have HLN := Lib.hid hLn
    have HLC := Lib.hid hLc
    have HL150 : Hid (ln ≤ 150) := by unfold Hid; omega
    clear hgl hll hLv hLl hLc hLn e2 e3 HRI HRR HS1 HS2 HF1 HFG HII HIW HOW HKE HG1 HG2 HPL HFL HLL HSM HSX HTX HHG hbig
    go_wp2_with fail
    refine (OW.out w4 B4.out).mono ?_
    rintro e w5 ⟨q, rfl, ho, b5⟩
    have B5 : Hid (Below w.heap.size w w5) := B4.out.trans (b5.mono B4.out.size)
    have K5 := Lib.hid (K4.out.below b5 K4.out.lt)
    have HOQ := Lib.hid ho
    obtain ⟨qA, qn, qc, rfl⟩ : ∃ A n c, q = .slice A n c := by obtain ⟨g, hg, _⟩ := ho; exact ⟨_, _, _, hg⟩
    clear ho b5
    go_wp2_with (at_builtin; refine BigFrame.wpList_want rfl (fun K hK => wp_items _ _ rfl w5.heap.size (.slice none 0 0) LA ln lcap [] L HLN.out w5 (Nat.le_refl _) rfl (OwnIt.nil _ _) rfl (fun h0 => by obtain ⟨ad, ha, hc⟩ := HLC.out h0; exact ⟨ad, ha, hc w5 B5.out⟩) (by have := HLN.out; have := HL150.out; simp; omega) (fun v6 w6 o6 b6 => hK _ _ ?_)))
    have B6 : Hid (Below w.heap.size w w6) := B5.out.trans (b6.mono B5.out.size)
    have K6 := Lib.hid (K5.out.below b6 K5.out.lt)
    have HOQ6 := Lib.hid (HOQ.out.below b6 (Nat.le_refl _))
    have HW6 : Hid (ReadI w6.heap.size w6 v6 l) := by
      have o6' : OwnIt w5.heap.size w6 v6 L := by rw [List.nil_append] at o6; exact o6
      have := ownIt_reads o6' (fun x hx => HT0.out w6 B6.out x.1 (by rw [← HLV.out]; exact List.mem_map.2 ⟨x, hx, rfl⟩))
      rw [HLV.out] at this
      exact this
    obtain ⟨wA, wn, wc, rfl⟩ : ∃ A n c, v6 = .slice A n c := by obtain ⟨A, cap, e, _⟩ := HW6.out; exact ⟨A, _, cap, e⟩
    clear o6 b6 HOQ
    go_wp2_with fail
    refine (F1.out w6 B6.out).mono ?_
    rintro e w7 ⟨⟨pA, pn, pc⟩, rfl, hg1, b7⟩
    have B7 : Hid (Below w.heap.size w w7) := B6.out.trans (b7.mono B6.out.size)
    have K7 := Lib.hid (K6.out.below b7 K6.out.lt)
    have HOQ7 := Lib.hid (HOQ6.out.below b7 (Nat.le_refl _))
    have HW7 := Lib.hid (HW6.out.upon b7)
    have HP7 := Lib.hid hg1
    rw [HAG.out]
    clear b7 hg1 HOQ6 HW6
    obtain ⟨W8, hW8⟩ : ∃ W, w7.alloc (.cells #[.string ⟨#[]⟩, .string ⟨#[]⟩, .slice none 0 0, .int .i64 0, .bool false, .bool false] 24) = W := ⟨_, rfl⟩
    obtain ⟨d1, hd1⟩ : ∃ b, w7.heap.size = b := ⟨_, rfl⟩
    have K8 : Hid (Bk W8 d1 24 #[.string ⟨#[]⟩, .string ⟨#[]⟩, .slice none 0 0, .int .i64 0, .bool false, .bool false]) := by rw [← hW8, ← hd1]; exact Bk.new _ _ _
    have b8 : Below w7.heap.size w7 W8 := by rw [← hW8]; exact (Below.refl _ _).alloc (Nat.le_refl _) _
    have HD1 : Hid (w7.heap.size ≤ d1) := by rw [← hd1]; exact Nat.le_refl _
    have z0 : W8.cell? ⟨d1, 0, none⟩ = some (.string ⟨#[]⟩) := K8.out.cell 0
    have zf0 : W8.frozen? ⟨d1, 0, none⟩ = false := K8.out.free 0
    have z1 : W8.cell? ⟨d1, 1, none⟩ = some (.string ⟨#[]⟩) := K8.out.cell 1
    have zf1 : W8.frozen? ⟨d1, 1, none⟩ = false := K8.out.free 1
    have z2 : W8.cell? ⟨d1, 2, none⟩ = some (.slice none 0 0) := K8.out.cell 2
    have zf2 : W8.frozen? ⟨d1, 2, none⟩ = false := K8.out.free 2
    have z3 : W8.cell? ⟨d1, 3, none⟩ = some (.int .i64 0) := K8.out.cell 3
    have zf3 : W8.frozen? ⟨d1, 3, none⟩ = false := K8.out.free 3
    have z4 : W8.cell? ⟨d1, 4, none⟩ = some (.bool false) := K8.out.cell 4
    have zf4 : W8.frozen? ⟨d1, 4, none⟩ = false := K8.out.free 4
    have z5 : W8.cell? ⟨d1, 5, none⟩ = some (.bool false) := K8.out.cell 5
    have zf5 : W8.frozen? ⟨d1, 5, none⟩ = false := K8.out.free 5
    have D9 := Lib.hid (laid6_bk K8.out (.string FJ) (.string FM) (.slice pA pn pc) (.int .i64 fs) (.bool fk) (.bool fa))
    have b9 := laid6_below b8 HD1.out (.string FJ) (.string FM) (.slice pA pn pc) (.int .i64 fs) (.bool fk) (.bool fa)
    obtain ⟨w9, hw9⟩ : ∃ z, laid6 W8 d1 (.string FJ) (.string FM) (.slice pA pn pc) (.int .i64 fs) (.bool fk) (.bool fa) = z := ⟨_, rfl⟩
    rw [hw9] at D9 b9
    have B9 : Hid (Below w.heap.size w w9) := B7.out.trans (b9.mono B7.out.size)
    have K9 := Lib.hid (K7.out.below b9 K7.out.lt)
    have HOQ9 := Lib.hid (HOQ7.out.below b9 (Nat.le_refl _))
    have HW9 := Lib.hid (HW7.out.upon b9)
    have HP9 := Lib.hid (HP7.out.upon b9)
    clear b8 b9 HOQ7 HW7 HP7
    go_upto_region 6 with fail
    (try rw [hw9])
    clear hW8 hd1 hw9 z0 zf0 z1 zf1 z2 zf2 z3 zf3 z4 zf4 z5 zf5
    go_wp2_with fail
    refine (HF2.out w9 B9.out).mono ?_
    rintro e w10 ⟨⟨tA, tn, tc⟩, rfl, hg2, b10⟩
    have B10 : Hid (Below w.heap.size w w10) := B9.out.trans (b10.mono B9.out.size)
    have K10 := Lib.hid (K9.out.below b10 K9.out.lt)
    have D10 := Lib.hid (D9.out.below b10 D9.out.lt)
    have HOQ10 := Lib.hid (HOQ9.out.below b10 (Nat.le_refl _))
    have HW10 := Lib.hid (HW9.out.upon b10)
    have HP10 := Lib.hid (HP9.out.upon b10)
    have HT10 := Lib.hid hg2
    rw [HAG.out]
    clear b10 hg2 HOQ9 HW9 HP9
    obtain ⟨W11, hW11⟩ : ∃ W, w10.alloc (.cells #[.string ⟨#[]⟩, .string ⟨#[]⟩, .slice none 0 0, .int .i64 0, .bool false, .bool false] 24) = W := ⟨_, rfl⟩
    obtain ⟨d2, hd2⟩ : ∃ b, w10.heap.size = b := ⟨_, rfl⟩
    have K11 : Hid (Bk W11 d2 24 #[.string ⟨#[]⟩, .string ⟨#[]⟩, .slice none 0 0, .int .i64 0, .bool false, .bool false]) := by rw [← hW11, ← hd2]; exact Bk.new _ _ _
    have b11 : Below w10.heap.size w10 W11 := by rw [← hW11]; exact (Below.refl _ _).alloc (Nat.le_refl _) _
    have HD2 : Hid (w10.heap.size ≤ d2) := by rw [← hd2]; exact Nat.le_refl _
    have z0 : W11.cell? ⟨d2, 0, none⟩ = some (.string ⟨#[]⟩) := K11.out.cell 0
    have zf0 : W11.frozen? ⟨d2, 0, none⟩ = false := K11.out.free 0
    have z1 : W11.cell? ⟨d2, 1, none⟩ = some (.string ⟨#[]⟩) := K11.out.cell 1
    have zf1 : W11.frozen? ⟨d2, 1, none⟩ = false := K11.out.free 1
    have z2 : W11.cell? ⟨d2, 2, none⟩ = some (.slice none 0 0) := K11.out.cell 2
    have zf2 : W11.frozen? ⟨d2, 2, none⟩ = false := K11.out.free 2
    have z3 : W11.cell? ⟨d2, 3, none⟩ = some (.int .i64 0) := K11.out.cell 3
    have zf3 : W11.frozen? ⟨d2, 3, none⟩ = false := K11.out.free 3
    have z4 : W11.cell? ⟨d2, 4, none⟩ = some (.bool false) := K11.out.cell 4
    have zf4 : W11.frozen? ⟨d2, 4, none⟩ = false := K11.out.free 4
    have z5 : W11.cell? ⟨d2, 5, none⟩ = some (.bool false) := K11.out.cell 5
    have zf5 : W11.frozen? ⟨d2, 5, none⟩ = false := K11.out.free 5
    have E12 := Lib.hid (laid6_bk K11.out (.string FJ) (.string FM) (.slice tA tn tc) (.int .i64 fs) (.bool fk) (.bool fa))
    have b12 := laid6_below b11 HD2.out (.string FJ) (.string FM) (.slice tA tn tc) (.int .i64 fs) (.bool fk) (.bool fa)
    obtain ⟨wB, hwB⟩ : ∃ z, laid6 W11 d2 (.string FJ) (.string FM) (.slice tA tn tc) (.int .i64 fs) (.bool fk) (.bool fa) = z := ⟨_, rfl⟩
    rw [hwB] at E12 b12
    have BB : Hid (Below w.heap.size w wB) := B10.out.trans (b12.mono B10.out.size)
    have K12 := Lib.hid (K10.out.below b12 K10.out.lt)
    have D12 := Lib.hid (D10.out.below b12 D10.out.lt)
    have HOQB := Lib.hid (HOQ10.out.below b12 (Nat.le_refl _))
    have HWB := Lib.hid (HW10.out.upon b12)
    have HPB := Lib.hid (HP10.out.upon b12)
    have HTB := Lib.hid (HT10.out.upon b12)
    clear b11 b12 HOQ10 HW10 HP10 HT10
    go_upto_region 7 with fail
    (try rw [hwB])
    clear hW11 hd2 hwB z0 zf0 z1 zf1 z2 zf2 z3 zf3 z4 zf4 z5 zf5
    have UP : Hid (∀ W, Below wB.heap.size wB W → Below w.heap.size w W) := fun W h => BB.out.trans (h.mono BB.out.size)
    have HX0 : Hid (∀ W, Below wB.heap.size wB W → W.cell? ⟨G, 0, none⟩ = some (.string X0)) := fun W h => (K12.out.below h K12.out.lt).cell 0
    have HX1 : Hid (∀ W, Below wB.heap.size wB W → W.cell? ⟨G, 1, none⟩ = some (.string X1)) := fun W h => (K12.out.below h K12.out.lt).cell 1
    have HX2 : Hid (∀ W, Below wB.heap.size wB W → W.cell? ⟨G, 2, none⟩ = some (.slice GA gn gcap)) := fun W h => (K12.out.below h K12.out.lt).cell 2
    have HX3 : Hid (∀ W, Below wB.heap.size wB W → W.cell? ⟨G, 3, none⟩ = some (.int .i64 SB)) := fun W h => (K12.out.below h K12.out.lt).cell 3
    have HX4 : Hid (∀ W, Below wB.heap.size wB W → W.cell? ⟨G, 4, none⟩ = some (.bool AK)) := fun W h => (K12.out.below h K12.out.lt).cell 4
    have HX5 : Hid (∀ W, Below wB.heap.size wB W → W.cell? ⟨G, 5, none⟩ = some (.bool AP)) := fun W h => (K12.out.below h K12.out.lt).cell 5
    have HA0 : Hid (∀ W, Below wB.heap.size wB W → W.cell? ⟨d1, 0, none⟩ = some (.string FJ)) := fun W h => (D12.out.below h D12.out.lt).cell 0
    have HA1 : Hid (∀ W, Below wB.heap.size wB W → W.cell? ⟨d1, 1, none⟩ = some (.string FM)) := fun W h => (D12.out.below h D12.out.lt).cell 1
    have HA2 : Hid (∀ W, Below wB.heap.size wB W → W.cell? ⟨d1, 2, none⟩ = some (.slice pA pn pc)) := fun W h => (D12.out.below h D12.out.lt).cell 2
    have HA3 : Hid (∀ W, Below wB.heap.size wB W → W.cell? ⟨d1, 3, none⟩ = some (.int .i64 fs)) := fun W h => (D12.out.below h D12.out.lt).cell 3
    have HA4 : Hid (∀ W, Below wB.heap.size wB W → W.cell? ⟨d1, 4, none⟩ = some (.bool fk)) := fun W h => (D12.out.below h D12.out.lt).cell 4
    have HA5 : Hid (∀ W, Below wB.heap.size wB W → W.cell? ⟨d1, 5, none⟩ = some (.bool fa)) := fun W h => (D12.out.below h D12.out.lt).cell 5
    have HB0 : Hid (∀ W, Below wB.heap.size wB W → W.cell? ⟨d2, 0, none⟩ = some (.string FJ)) := fun W h => (E12.out.below h E12.out.lt).cell 0
    have HB1 : Hid (∀ W, Below wB.heap.size wB W → W.cell? ⟨d2, 1, none⟩ = some (.string FM)) := fun W h => (E12.out.below h E12.out.lt).cell 1
    have HB2 : Hid (∀ W, Below wB.heap.size wB W → W.cell? ⟨d2, 2, none⟩ = some (.slice tA tn tc)) := fun W h => (E12.out.below h E12.out.lt).cell 2
    have HB3 : Hid (∀ W, Below wB.heap.size wB W → W.cell? ⟨d2, 3, none⟩ = some (.int .i64 fs)) := fun W h => (E12.out.below h E12.out.lt).cell 3
    have HB4 : Hid (∀ W, Below wB.heap.size wB W → W.cell? ⟨d2, 4, none⟩ = some (.bool fk)) := fun W h => (E12.out.below h E12.out.lt).cell 4
    have HB5 : Hid (∀ W, Below wB.heap.size wB W → W.cell? ⟨d2, 5, none⟩ = some (.bool fa)) := fun W h => (E12.out.below h E12.out.lt).cell 5
    have AW2 : Hid (∀ W, Below wB.heap.size wB W → Calls Tryz.prog 10 #[] W fun e w' => e = .returned (.bool true) ∧ Below W.heap.size W w') := fun W h => HAW.out W (UP.out W h)
    have IT : Hid (∀ W, Below wB.heap.size wB W → Calls Tryz.prog 23 #[.agg #[.string FJ, .string FM, .slice pA pn pc, .int .i64 fs, .bool fk, .bool fa], .agg #[.string FJ, .string FM, .slice tA tn tc, .int .i64 fs, .bool fk, .bool fa]] W fun e w' => e = .returned (.bool true) ∧ Below W.heap.size W w') := fun W h => by
      have := helpI_same ⟨fj, fm, fg, fs, fk, fa⟩ (pA, pn, pc) (tA, tn, tc) W (HPB.out.upon h) (HTB.out.upon h) FG.out
      rw [HAG.out, HAG.out] at this
      exact this
    clear K1 K2 K3 K4 K5 K6 K7 K9 K10 D9 D10 K8 K11 B1 B2 B3 B4 B5 B6 B7 B9 B10 HW1 HLC HAW
    have hrr : (r == r) = true := by simp
    have hff : (f == f) = true := by simp
    go_upto_region 7 with fail
    have bN : Below wB.heap.size wB wB.drew := (Below.refl _ _).drew
    refine wp_region_held_drew (S := fun w' => Below wB.heap.size wB w' ∧ w'.cell? ⟨G, 0, none⟩ = some (.string X0) ∧ w'.cell? ⟨G, 1, none⟩ = some (.string X1) ∧ w'.cell? ⟨G, 2, none⟩ = some (.slice GA gn gcap) ∧ w'.cell? ⟨G, 3, none⟩ = some (.int .i64 SB) ∧ w'.cell? ⟨G, 4, none⟩ = some (.bool AK) ∧ w'.cell? ⟨G, 5, none⟩ = some (.bool AP) ∧ w'.cell? ⟨d1, 0, none⟩ = some (.string FJ) ∧ w'.cell? ⟨d1, 1, none⟩ = some (.string FM) ∧ w'.cell? ⟨d1, 2, none⟩ = some (.slice pA pn pc) ∧ w'.cell? ⟨d1, 3, none⟩ = some (.int .i64 fs) ∧ w'.cell? ⟨d1, 4, none⟩ = some (.bool fk) ∧ w'.cell? ⟨d1, 5, none⟩ = some (.bool fa) ∧ w'.cell? ⟨d2, 0, none⟩ = some (.string FJ) ∧ w'.cell? ⟨d2, 1, none⟩ = some (.string FM) ∧ w'.cell? ⟨d2, 2, none⟩ = some (.slice tA tn tc) ∧ w'.cell? ⟨d2, 3, none⟩ = some (.int .i64 fs) ∧ w'.cell? ⟨d2, 4, none⟩ = some (.bool fk) ∧ w'.cell? ⟨d2, 5, none⟩ = some (.bool fa)) (by kernel_rfl) ?_ (fun hHeld => ?_)
    · exact ⟨bN, HX0.out _ bN, HX1.out _ bN, HX2.out _ bN, HX3.out _ bN, HX4.out _ bN, HX5.out _ bN, HA0.out _ bN, HA1.out _ bN, HA2.out _ bN, HA3.out _ bN, HA4.out _ bN, HA5.out _ bN, HB0.out _ bN, HB1.out _ bN, HB2.out _ bN, HB3.out _ bN, HB4.out _ bN, HB5.out _ bN⟩
    refine wpAnyH_ready (rs := [0]) (by kernel_rfl) (by simp) ?_
    refine AllReadyH.cons (i := 0) rfl (fun K hK => ?_) AllReadyH.nil
    go_simp
    refine (AW2.out _ bN).mono ?_
    rintro e wv0 ⟨rfl, bC⟩
    have bN := bN.trans (bC.mono bN.size)
    clear bC
    go_wp2_with fail
    refine hK.out _ _ ?_ (fun hHeld => ?_)
    · exact ⟨bN, HX0.out _ bN, HX1.out _ bN, HX2.out _ bN, HX3.out _ bN, HX4.out _ bN, HX5.out _ bN, HA0.out _ bN, HA1.out _ bN, HA2.out _ bN, HA3.out _ bN, HA4.out _ bN, HA5.out _ bN, HB0.out _ bN, HB1.out _ bN, HB2.out _ bN, HB3.out _ bN, HB4.out _ bN, HB5.out _ bN⟩
    clear hK K
    try simp only [Act.put, List.setIfInBounds_toArray, List.set_cons_zero, List.set_cons_succ]
    refine take_w 1 (some 47) ?v2 rfl rfl (by kernel_rfl) (by kernel_rfl) (by kernel_rfl) (by rfl) ?y2 (fun _ _ _ h => h) (by assumption) ?n2
    case y2 =>
      intro w hSw
      try dsimp only at hSw
      go_simp
      try with_reducible rfl
    try simp only [Act.put, List.setIfInBounds_toArray, List.set_cons_zero, List.set_cons_succ]
    refine take_w 2 (some 48) ?v3 rfl rfl (by kernel_rfl) (by kernel_rfl) (by kernel_rfl) (by rfl) ?y3 (fun _ _ _ h => h) (by assumption) ?n3
    case y3 =>
      intro w hSw
      try dsimp only at hSw
      go_simp
      try with_reducible rfl
    try simp only [Act.put, List.setIfInBounds_toArray, List.set_cons_zero, List.set_cons_succ]
    refine take_w 4 (some 50) ?v4 rfl rfl (by kernel_rfl) (by kernel_rfl) (by kernel_rfl) (by rfl) ?y4 (fun _ _ _ h => h) (by assumption) ?n4
    case y4 =>
      intro w hSw
      try dsimp only at hSw
      go_simp
      try with_reducible rfl
    try simp only [Act.put, List.setIfInBounds_toArray, List.set_cons_zero, List.set_cons_succ]
    refine wpAnyH_ready (rs := [3]) (by kernel_rfl) (by simp) ?_
    refine AllReadyH.cons (i := 3) rfl (fun K hK => ?_) AllReadyH.nil
    go_simp
    refine (RI.out _ (UP.out _ bN)).mono ?_
    rintro e wv3 ⟨rfl, bC⟩
    have bN := bN.trans (bC.mono bN.size)
    clear bC
    go_wp2_with fail
    refine hK.out _ _ ?_ (fun hHeld => ?_)
    · exact ⟨bN, HX0.out _ bN, HX1.out _ bN, HX2.out _ bN, HX3.out _ bN, HX4.out _ bN, HX5.out _ bN, HA0.out _ bN, HA1.out _ bN, HA2.out _ bN, HA3.out _ bN, HA4.out _ bN, HA5.out _ bN, HB0.out _ bN, HB1.out _ bN, HB2.out _ bN, HB3.out _ bN, HB4.out _ bN, HB5.out _ bN⟩
    clear hK K
    try simp only [Act.put, List.setIfInBounds_toArray, List.set_cons_zero, List.set_cons_succ]
    refine wpAnyH_ready (rs := [5]) (by kernel_rfl) (by simp) ?_
    refine AllReadyH.cons (i := 5) rfl (fun K hK => ?_) AllReadyH.nil
    go_simp
    refine (RR.out _ (UP.out _ bN)).mono ?_
    rintro e wv5 ⟨rfl, bC⟩
    have bN := bN.trans (bC.mono bN.size)
    clear bC
    go_wp2_with fail
    refine hK.out _ _ ?_ (fun hHeld => ?_)
    · exact ⟨bN, HX0.out _ bN, HX1.out _ bN, HX2.out _ bN, HX3.out _ bN, HX4.out _ bN, HX5.out _ bN, HA0.out _ bN, HA1.out _ bN, HA2.out _ bN, HA3.out _ bN, HA4.out _ bN, HA5.out _ bN, HB0.out _ bN, HB1.out _ bN, HB2.out _ bN, HB3.out _ bN, HB4.out _ bN, HB5.out _ bN⟩
    clear hK K
    try simp only [Act.put, List.setIfInBounds_toArray, List.set_cons_zero, List.set_cons_succ]
    refine take_w 6 (some 52) ?v7 rfl rfl (by kernel_rfl) (by kernel_rfl) (by kernel_rfl) (by rfl) ?y7 (fun _ _ _ h => h) (by assumption) ?n7
    case y7 =>
      intro w hSw
      try dsimp only at hSw
      go_simp
      try with_reducible rfl
    try simp only [Act.put, List.setIfInBounds_toArray, List.set_cons_zero, List.set_cons_succ]
    refine take_w 7 (some 53) ?v8 rfl rfl (by kernel_rfl) (by kernel_rfl) (by kernel_rfl) (by rfl) ?y8 (fun _ _ _ h => h) (by assumption) ?n8
    case y8 =>
      intro w hSw
      try dsimp only at hSw
      go_simp
      try with_reducible rfl
    try simp only [Act.put, List.setIfInBounds_toArray, List.set_cons_zero, List.set_cons_succ]
    refine take_w 8 (some 54) ?v9 rfl rfl (by kernel_rfl) (by kernel_rfl) (by kernel_rfl) (by rfl) ?y9 (fun _ _ _ h => h) (by assumption) ?n9
    case y9 =>
      intro w hSw
      try dsimp only at hSw
      go_simp
      try with_reducible rfl
    try simp only [Act.put, List.setIfInBounds_toArray, List.set_cons_zero, List.set_cons_succ]
    refine take_w 9 (some 55) ?v10 rfl rfl (by kernel_rfl) (by kernel_rfl) (by kernel_rfl) (by rfl) ?y10 (fun _ _ _ h => h) (by assumption) ?n10
    case y10 =>
      intro w hSw
      try dsimp only at hSw
      go_simp
      try with_reducible rfl
    try simp only [Act.put, List.setIfInBounds_toArray, List.set_cons_zero, List.set_cons_succ]
    refine take_w 11 (some 57) ?v11 rfl rfl (by kernel_rfl) (by kernel_rfl) (by kernel_rfl) (by rfl) ?y11 (fun _ _ _ h => h) (by assumption) ?n11
    case y11 =>
      intro w hSw
      try dsimp only at hSw
      go_simp
      try with_reducible rfl
    try simp only [Act.put, List.setIfInBounds_toArray, List.set_cons_zero, List.set_cons_succ]
    refine wpAnyH_ready (rs := [10]) (by kernel_rfl) (by simp) ?_
    refine AllReadyH.cons (i := 10) rfl (fun K hK => ?_) AllReadyH.nil
    go_simp
    refine (S1.out _ (UP.out _ bN)).mono ?_
    rintro e wv10 ⟨vs1, l1, rfl, hr1, hm1, bC⟩
    have bN := bN.trans (bC.mono bN.size)
    have HR1 := Lib.hid hr1
    have HM1 := Lib.hid hm1
    obtain ⟨y1A, y1n, y1c, rfl⟩ : ∃ A n c, vs1 = .slice A n c := by obtain ⟨A, cap, e, _⟩ := hr1; exact ⟨A, _, cap, e⟩
    clear bC hr1 hm1
    go_wp2_with fail
    refine hK.out _ _ ?_ (fun hHeld => ?_)
    · exact ⟨bN, HX0.out _ bN, HX1.out _ bN, HX2.out _ bN, HX3.out _ bN, HX4.out _ bN, HX5.out _ bN, HA0.out _ bN, HA1.out _ bN, HA2.out _ bN, HA3.out _ bN, HA4.out _ bN, HA5.out _ bN, HB0.out _ bN, HB1.out _ bN, HB2.out _ bN, HB3.out _ bN, HB4.out _ bN, HB5.out _ bN⟩
    clear hK K
    try simp only [Act.put, List.setIfInBounds_toArray, List.set_cons_zero, List.set_cons_succ]
    refine wpAnyH_ready (rs := [12]) (by kernel_rfl) (by simp) ?_
    refine AllReadyH.cons (i := 12) rfl (fun K hK => ?_) AllReadyH.nil
    go_simp
    refine (S2.out _ (UP.out _ bN)).mono ?_
    rintro e wv12 ⟨vs2, l2, rfl, hr2, hm2, bC⟩
    have bN := bN.trans (bC.mono bN.size)
    have HR1 := Lib.hid (HR1.out.upon bC)
    have HR2 := Lib.hid hr2
    have HM2 := Lib.hid hm2
    obtain ⟨y2A, y2n, y2c, rfl⟩ : ∃ A n c, vs2 = .slice A n c := by obtain ⟨A, cap, e, _⟩ := hr2; exact ⟨A, _, cap, e⟩
    clear bC hr2 hm2
    go_wp2_with fail
    refine hK.out _ _ ?_ (fun hHeld => ?_)
    · exact ⟨bN, HX0.out _ bN, HX1.out _ bN, HX2.out _ bN, HX3.out _ bN, HX4.out _ bN, HX5.out _ bN, HA0.out _ bN, HA1.out _ bN, HA2.out _ bN, HA3.out _ bN, HA4.out _ bN, HA5.out _ bN, HB0.out _ bN, HB1.out _ bN, HB2.out _ bN, HB3.out _ bN, HB4.out _ bN, HB5.out _ bN⟩
    clear hK K
    try simp only [Act.put, List.setIfInBounds_toArray, List.set_cons_zero, List.set_cons_succ]
    refine wpAnyH_ready (rs := [13]) (by kernel_rfl) (by simp) ?_
    refine AllReadyH.cons (i := 13) rfl (fun K hK => ?_) AllReadyH.nil
    go_simp
    refine (II.out _ _ l1 l2 _ HR1.out HR2.out HM1.out HM2.out).mono ?_
    rintro e wv13 ⟨rfl, bC⟩
    have bN := bN.trans (bC.mono bN.size)
    clear bC HR1 HR2 HM1 HM2
    go_wp2_with fail
    refine hK.out _ _ ?_ (fun hHeld => ?_)
    · exact ⟨bN, HX0.out _ bN, HX1.out _ bN, HX2.out _ bN, HX3.out _ bN, HX4.out _ bN, HX5.out _ bN, HA0.out _ bN, HA1.out _ bN, HA2.out _ bN, HA3.out _ bN, HA4.out _ bN, HA5.out _ bN, HB0.out _ bN, HB1.out _ bN, HB2.out _ bN, HB3.out _ bN, HB4.out _ bN, HB5.out _ bN⟩
    clear hK K
    try simp only [Act.put, List.setIfInBounds_toArray, List.set_cons_zero, List.set_cons_succ]
    refine take_w 14 (some 60) ?v15 rfl rfl (by kernel_rfl) (by kernel_rfl) (by kernel_rfl) (by rfl) ?y15 (fun _ _ _ h => h) (by assumption) ?n15
    case y15 =>
      intro w hSw
      try dsimp only at hSw
      go_simp
      try with_reducible rfl
    try simp only [Act.put, List.setIfInBounds_toArray, List.set_cons_zero, List.set_cons_succ]
    refine take_w 15 (some 61) ?v16 rfl rfl (by kernel_rfl) (by kernel_rfl) (by kernel_rfl) (by rfl) ?y16 (fun _ _ _ h => h) (by assumption) ?n16
    case y16 =>
      intro w hSw
      try dsimp only at hSw
      go_simp
      try with_reducible rfl
    try simp only [Act.put, List.setIfInBounds_toArray, List.set_cons_zero, List.set_cons_succ]
    refine take_w 16 (some 62) ?v17 rfl rfl (by kernel_rfl) (by kernel_rfl) (by kernel_rfl) (by rfl) ?y17 (fun _ _ _ h => h) (by assumption) ?n17
    case y17 =>
      intro w hSw
      try dsimp only at hSw
      go_simp
      try with_reducible rfl
    try simp only [Act.put, List.setIfInBounds_toArray, List.set_cons_zero, List.set_cons_succ]
    refine take_w 17 (some 63) ?v18 rfl rfl (by kernel_rfl) (by kernel_rfl) (by kernel_rfl) (by rfl) ?y18 (fun _ _ _ h => h) (by assumption) ?n18
    case y18 =>
      intro w hSw
      try dsimp only at hSw
      go_simp
      try with_reducible rfl
    try simp only [Act.put, List.setIfInBounds_toArray, List.set_cons_zero, List.set_cons_succ]
    refine wpAnyH_ready (rs := [18]) (by kernel_rfl) (by simp) ?_
    refine AllReadyH.cons (i := 18) rfl (fun K hK => ?_) AllReadyH.nil
    go_simp
    refine (IW.out _ _ (UP.out _ bN) (HWB.out.upon bN)).mono ?_
    rintro e wv18 ⟨rfl, bC⟩
    have bN := bN.trans (bC.mono bN.size)
    clear bC
    go_wp2_with fail
    refine hK.out _ _ ?_ (fun hHeld => ?_)
    · exact ⟨bN, HX0.out _ bN, HX1.out _ bN, HX2.out _ bN, HX3.out _ bN, HX4.out _ bN, HX5.out _ bN, HA0.out _ bN, HA1.out _ bN, HA2.out _ bN, HA3.out _ bN, HA4.out _ bN, HA5.out _ bN, HB0.out _ bN, HB1.out _ bN, HB2.out _ bN, HB3.out _ bN, HB4.out _ bN, HB5.out _ bN⟩
    clear hK K
    try simp only [Act.put, List.setIfInBounds_toArray, List.set_cons_zero, List.set_cons_succ]
    refine take_w 19 (some 65) ?v20 rfl rfl (by kernel_rfl) (by kernel_rfl) (by kernel_rfl) (by rfl) ?y20 (fun _ _ _ h => h) (by assumption) ?n20
    case y20 =>
      intro w hSw
      try dsimp only at hSw
      go_simp
      try with_reducible rfl
    try simp only [Act.put, List.setIfInBounds_toArray, List.set_cons_zero, List.set_cons_succ]
    refine take_w 20 (some 66) ?v21 rfl rfl (by kernel_rfl) (by kernel_rfl) (by kernel_rfl) (by rfl) ?y21 (fun _ _ _ h => h) (by assumption) ?n21
    case y21 =>
      intro w hSw
      try dsimp only at hSw
      go_simp
      try with_reducible rfl
    try simp only [Act.put, List.setIfInBounds_toArray, List.set_cons_zero, List.set_cons_succ]
    refine take_w 21 (some 67) ?v22 rfl rfl (by kernel_rfl) (by kernel_rfl) (by kernel_rfl) (by rfl) ?y22 (fun _ _ _ h => h) (by assumption) ?n22
    case y22 =>
      intro w hSw
      try dsimp only at hSw
      go_simp
      try with_reducible rfl
    try simp only [Act.put, List.setIfInBounds_toArray, List.set_cons_zero, List.set_cons_succ]
    refine take_w 23 (some 69) ?v23 rfl rfl (by kernel_rfl) (by kernel_rfl) (by kernel_rfl) (by rfl) ?y23 (fun _ _ _ h => h) (by assumption) ?n23
    case y23 =>
      intro w hSw
      try dsimp only at hSw
      go_simp
      try with_reducible rfl
    try simp only [Act.put, List.setIfInBounds_toArray, List.set_cons_zero, List.set_cons_succ]
    refine wpAnyH_ready (rs := [22]) (by kernel_rfl) (by simp) ?_
    refine AllReadyH.cons (i := 22) rfl (fun K hK => ?_) AllReadyH.nil
    go_simp
    refine (G1.out _ _ ((HOQB.out.below bN (Nat.le_refl _)).reads)).mono ?_
    rintro e wv22 ⟨z1, rfl, hr1, bC⟩
    have bN := bN.trans (bC.mono bN.size)
    have HZ1 := Lib.hid hr1
    obtain ⟨z1A, z1n, z1c, rfl⟩ : ∃ A n c, z1 = .slice A n c := by obtain ⟨A, cap, e, _⟩ := hr1; exact ⟨A, _, cap, e⟩
    clear bC hr1
    go_wp2_with fail
    refine hK.out _ _ ?_ (fun hHeld => ?_)
    · exact ⟨bN, HX0.out _ bN, HX1.out _ bN, HX2.out _ bN, HX3.out _ bN, HX4.out _ bN, HX5.out _ bN, HA0.out _ bN, HA1.out _ bN, HA2.out _ bN, HA3.out _ bN, HA4.out _ bN, HA5.out _ bN, HB0.out _ bN, HB1.out _ bN, HB2.out _ bN, HB3.out _ bN, HB4.out _ bN, HB5.out _ bN⟩
    clear hK K
    try simp only [Act.put, List.setIfInBounds_toArray, List.set_cons_zero, List.set_cons_succ]
    refine wpAnyH_ready (rs := [24]) (by kernel_rfl) (by simp) ?_
    refine AllReadyH.cons (i := 24) rfl (fun K hK => ?_) AllReadyH.nil
    go_simp
    refine (G2.out _ (UP.out _ bN)).mono ?_
    rintro e wv24 ⟨⟨z2, rfl, ho2⟩, bC⟩
    have bN := bN.trans (bC.mono bN.size)
    have HZ1 := Lib.hid (HZ1.out.upon bC)
    have HZ2 := Lib.hid ho2.reads
    obtain ⟨z2A, z2n, z2c, rfl⟩ : ∃ A n c, z2 = .slice A n c := by obtain ⟨A, cap, e⟩ := ho2.slice; exact ⟨A, _, cap, e⟩
    clear bC ho2
    go_wp2_with fail
    refine hK.out _ _ ?_ (fun hHeld => ?_)
    · exact ⟨bN, HX0.out _ bN, HX1.out _ bN, HX2.out _ bN, HX3.out _ bN, HX4.out _ bN, HX5.out _ bN, HA0.out _ bN, HA1.out _ bN, HA2.out _ bN, HA3.out _ bN, HA4.out _ bN, HA5.out _ bN, HB0.out _ bN, HB1.out _ bN, HB2.out _ bN, HB3.out _ bN, HB4.out _ bN, HB5.out _ bN⟩
    clear hK K
    try simp only [Act.put, List.setIfInBounds_toArray, List.set_cons_zero, List.set_cons_succ]
    refine wpAnyH_ready (rs := [25]) (by kernel_rfl) (by simp) ?_
    refine AllReadyH.cons (i := 25) rfl (fun K hK => ?_) AllReadyH.nil
    go_simp
    refine (PL.out _ _ _ HZ1.out HZ2.out).mono ?_
    rintro e wv25 ⟨rfl, bC⟩
    have bN := bN.trans (bC.mono bN.size)
    clear bC HZ1 HZ2
    go_wp2_with fail
    refine hK.out _ _ ?_ (fun hHeld => ?_)
    · exact ⟨bN, HX0.out _ bN, HX1.out _ bN, HX2.out _ bN, HX3.out _ bN, HX4.out _ bN, HX5.out _ bN, HA0.out _ bN, HA1.out _ bN, HA2.out _ bN, HA3.out _ bN, HA4.out _ bN, HA5.out _ bN, HB0.out _ bN, HB1.out _ bN, HB2.out _ bN, HB3.out _ bN, HB4.out _ bN, HB5.out _ bN⟩
    clear hK K
    try simp only [Act.put, List.setIfInBounds_toArray, List.set_cons_zero, List.set_cons_succ]
    refine take_w 26 (some 72) ?v27 rfl rfl (by kernel_rfl) (by kernel_rfl) (by kernel_rfl) (by rfl) ?y27 (fun _ _ _ h => h) (by assumption) ?n27
    case y27 =>
      intro w hSw
      try dsimp only at hSw
      go_simp
      try with_reducible rfl
    try simp only [Act.put, List.setIfInBounds_toArray, List.set_cons_zero, List.set_cons_succ]
    refine take_w 27 (some 73) ?v28 rfl rfl (by kernel_rfl) (by kernel_rfl) (by kernel_rfl) (by rfl) ?y28 (fun _ _ _ h => h) (by assumption) ?n28
    case y28 =>
      intro w hSw
      try dsimp only at hSw
      go_simp
      try with_reducible rfl
    try simp only [Act.put, List.setIfInBounds_toArray, List.set_cons_zero, List.set_cons_succ]
    refine take_w 28 (some 74) ?v29 rfl rfl (by kernel_rfl) (by kernel_rfl) (by kernel_rfl) (by rfl) ?y29 (fun _ _ _ h => h) (by assumption) ?n29
    case y29 =>
      intro w hSw
      try dsimp only at hSw
      go_simp
      try with_reducible rfl
    try simp only [Act.put, List.setIfInBounds_toArray, List.set_cons_zero, List.set_cons_succ]
    refine take_w 29 (some 75) ?v30 rfl rfl (by kernel_rfl) (by kernel_rfl) (by kernel_rfl) (by rfl) ?y30 (fun _ _ _ h => h) (by assumption) ?n30
    case y30 =>
      intro w hSw
      try dsimp only at hSw
      go_simp
      try with_reducible rfl
    try simp only [Act.put, List.setIfInBounds_toArray, List.set_cons_zero, List.set_cons_succ]
    refine wpAnyH_ready (rs := [30]) (by kernel_rfl) (by simp) ?_
    refine AllReadyH.cons (i := 30) rfl (fun K hK => ?_) AllReadyH.nil
    go_simp
    refine (KE.out _ _ _ (UP.out _ bN) (HOQB.out.below bN (Nat.le_refl _))).mono ?_
    rintro e wv30 ⟨rfl, bC⟩
    have bN := bN.trans (bC.mono bN.size)
    clear bC
    go_wp2_with fail
    refine hK.out _ _ ?_ (fun hHeld => ?_)
    · exact ⟨bN, HX0.out _ bN, HX1.out _ bN, HX2.out _ bN, HX3.out _ bN, HX4.out _ bN, HX5.out _ bN, HA0.out _ bN, HA1.out _ bN, HA2.out _ bN, HA3.out _ bN, HA4.out _ bN, HA5.out _ bN, HB0.out _ bN, HB1.out _ bN, HB2.out _ bN, HB3.out _ bN, HB4.out _ bN, HB5.out _ bN⟩
    clear hK K
    try simp only [Act.put, List.setIfInBounds_toArray, List.set_cons_zero, List.set_cons_succ]
    refine take_w 31 (some 77) ?v32 rfl rfl (by kernel_rfl) (by kernel_rfl) (by kernel_rfl) (by rfl) ?y32 (fun _ _ _ h => h) (by assumption) ?n32
    case y32 =>
      intro w hSw
      try dsimp only at hSw
      go_simp
      try with_reducible rfl
    try simp only [Act.put, List.setIfInBounds_toArray, List.set_cons_zero, List.set_cons_succ]
    refine take_w 32 (some 78) ?v33 rfl rfl (by kernel_rfl) (by kernel_rfl) (by kernel_rfl) (by rfl) ?y33 (fun _ _ _ h => h) (by assumption) ?n33
    case y33 =>
      intro w hSw
      try dsimp only at hSw
      go_simp
      try with_reducible rfl
    try simp only [Act.put, List.setIfInBounds_toArray, List.set_cons_zero, List.set_cons_succ]
    refine take_w 33 (some 79) ?v34 rfl rfl (by kernel_rfl) (by kernel_rfl) (by kernel_rfl) (by rfl) ?y34 (fun _ _ _ h => h) (by assumption) ?n34
    case y34 =>
      intro w hSw
      try dsimp only at hSw
      go_simp
      try with_reducible rfl
    try simp only [Act.put, List.setIfInBounds_toArray, List.set_cons_zero, List.set_cons_succ]
    refine take_w 34 (some 80) ?v35 rfl rfl (by kernel_rfl) (by kernel_rfl) (by kernel_rfl) (by rfl) ?y35 (fun _ _ _ h => h) (by assumption) ?n35
    case y35 =>
      intro w hSw
      try dsimp only at hSw
      go_simp
      try with_reducible rfl
    try simp only [Act.put, List.setIfInBounds_toArray, List.set_cons_zero, List.set_cons_succ]
    refine wpAnyH_ready (rs := [35]) (by kernel_rfl) (by simp) ?_
    refine AllReadyH.cons (i := 35) rfl (fun K hK => ?_) AllReadyH.nil
    go_simp
    refine (IT.out _ bN).mono ?_
    rintro e wv35 ⟨rfl, bC⟩
    have bN := bN.trans (bC.mono bN.size)
    clear bC
    go_wp2_with fail
    refine hK.out _ _ ?_ (fun hHeld => ?_)
    · exact ⟨bN, HX0.out _ bN, HX1.out _ bN, HX2.out _ bN, HX3.out _ bN, HX4.out _ bN, HX5.out _ bN, HA0.out _ bN, HA1.out _ bN, HA2.out _ bN, HA3.out _ bN, HA4.out _ bN, HA5.out _ bN, HB0.out _ bN, HB1.out _ bN, HB2.out _ bN, HB3.out _ bN, HB4.out _ bN, HB5.out _ bN⟩
    clear hK K
    try simp only [Act.put, List.setIfInBounds_toArray, List.set_cons_zero, List.set_cons_succ]
    refine take_w 36 (some 82) ?v37 rfl rfl (by kernel_rfl) (by kernel_rfl) (by kernel_rfl) (by rfl) ?y37 (fun _ _ _ h => h) (by assumption) ?n37
    case y37 =>
      intro w hSw
      try dsimp only at hSw
      go_simp
      try with_reducible rfl
    try simp only [Act.put, List.setIfInBounds_toArray, List.set_cons_zero, List.set_cons_succ]
    refine take_w 37 (some 83) ?v38 rfl rfl (by kernel_rfl) (by kernel_rfl) (by kernel_rfl) (by rfl) ?y38 (fun _ _ _ h => h) (by assumption) ?n38
    case y38 =>
      intro w hSw
      try dsimp only at hSw
      go_simp
      try with_reducible rfl
    try simp only [Act.put, List.setIfInBounds_toArray, List.set_cons_zero, List.set_cons_succ]
    refine take_w 38 (some 84) ?v39 rfl rfl (by kernel_rfl) (by kernel_rfl) (by kernel_rfl) (by rfl) ?y39 (fun _ _ _ h => h) (by assumption) ?n39
    case y39 =>
      intro w hSw
      try dsimp only at hSw
      go_simp
      try with_reducible rfl
    try simp only [Act.put, List.setIfInBounds_toArray, List.set_cons_zero, List.set_cons_succ]
    refine take_w 39 (some 85) ?v40 rfl rfl (by kernel_rfl) (by kernel_rfl) (by kernel_rfl) (by rfl) ?y40 (fun _ _ _ h => h) (by assumption) ?n40
    case y40 =>
      intro w hSw
      try dsimp only at hSw
      go_simp
      try with_reducible rfl
    try simp only [Act.put, List.setIfInBounds_toArray, List.set_cons_zero, List.set_cons_succ]
    refine take_w 40 (some 86) ?v41 rfl rfl (by kernel_rfl) (by kernel_rfl) (by kernel_rfl) (by rfl) ?y41 (fun _ _ _ h => h) (by assumption) ?n41
    case y41 =>
      intro w hSw
      try dsimp only at hSw
      go_simp
      try with_reducible rfl
    try simp only [Act.put, List.setIfInBounds_toArray, List.set_cons_zero, List.set_cons_succ]
    refine take_w 41 (some 87) ?v42 rfl rfl (by kernel_rfl) (by kernel_rfl) (by kernel_rfl) (by rfl) ?y42 (fun _ _ _ h => h) (by assumption) ?n42
    case y42 =>
      intro w hSw
      try dsimp only at hSw
      go_simp
      try with_reducible rfl
    try simp only [Act.put, List.setIfInBounds_toArray, List.set_cons_zero, List.set_cons_succ]
    refine take_w 42 (some 8) ?v43 rfl rfl (by kernel_rfl) (by kernel_rfl) (by kernel_rfl) (by rfl) ?y43 (fun _ _ _ h => h) (by assumption) ?n43
    case y43 =>
      intro w hSw
      try dsimp only at hSw
      go_simp
      try with_reducible rfl
    try simp only [Act.put, List.setIfInBounds_toArray, List.set_cons_zero, List.set_cons_succ]
    refine wpAnyH_done (by kernel_rfl) ?_ _
    go_wp2_with fail
    go_ret
    exact ⟨rfl, by first | exact UP.out _ bN | (rw [← HGE.out]; exact UP.out _ bN)⟩
end Go.Proofs.YtogjhpcjjmcjfaaGreatDoor
