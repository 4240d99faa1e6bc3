import Derived.Test.YtbgaglcgennhiaaGreatDoorB49
import Derived.Test.YtbgaglcgennhiaaGreatDoorB36
import Derived.Test.YtbgaglcgennhiaaGreatDoorB24
import Derived.Lib.ConvBytes
import Derived.Lib.AtoiErrMem
/- what is reached of it -/
namespace Go.Proofs.YtbgaglcgennhiaaGreatDoor
open Go.RowKit Go.Sort Tx Vc Ct
/-- the i-th name -/
def nmB (i : Nat) : List UInt8 := [UInt8.ofNat (97 + i / 26), UInt8.ofNat (97 + i % 26)]
theorem nm_ok : ∀ i : Fin 64, (nmB i).all (Jd.fitB 1) = true ∧ (nmB i).all (Jd.fitB 2) = true ∧ (Jd.pcs 46 (nmB i)).any Jd.badB = false ∧ Jd.cutB 47 (nmB i ++ [64, 104]) = (nmB i ++ [64, 104], [], false) ∧ Jd.halfL (nmB i ++ [64, 104]) = (nmB i, [104], true) := by decide +kernel
theorem nm_lt : ∀ i : Fin 64, Jd.ltL (nmB i) (nmB (i + 1)) = true ∧ Jd.lessL (nmB i ++ [64, 104]) (nmB (i + 1) ++ [64, 104]) = true := by decide +kernel
theorem nm_dom {i : Nat} (h : i < 64) : domB (nmB i) = true := se_dom (nm_ok ⟨i, h⟩).2.1 (by simp [nmB]) (by simp [nmB]) (nm_ok ⟨i, h⟩).2.2.1
theorem nm_node {i : Nat} (h : i < 64) : nodeB (nmB i) = true := se_node (nm_ok ⟨i, h⟩).1 (by simp [nmB]) (by simp [nmB])
theorem nm_addr {i : Nat} (h : i < 64) : addrB (nmB i ++ [64, 104]) = true := se_addr (nm_ok ⟨i, h⟩).1 (by simp [nmB]) (by simp [nmB]) (nm_ok ⟨i, h⟩).2.2.2.1 (nm_ok ⟨i, h⟩).2.2.2.2
/-- so many that rise, each of which fits -/
theorem right_range {α : Type} [Inhabited α] (f : Nat → α) (most N : Nat) (lt : α → α → Bool) (ok : α → Bool) (hok : ∀ i, i < N → ok (f i) = true) (hlt : ∀ i, i + 1 < N → lt (f i) (f (i + 1)) = true) : rightK most lt ok ((List.range N).map f) = decide (N ≤ most) := by
  by_cases h : N ≤ most
  · rw [decide_eq_true h]
    refine rightK_yes (by simpa using h) fun i hi => ?_
    have hi2 : i < N := by simpa using hi
    have e : ∀ j, j < N → ((List.range N).map f)[j]! = f j := fun j hj => by rw [getElem!_pos _ j (by simpa using hj)]; simp
    unfold stepK
    rw [e i hi2, hok i hi2, Bool.and_true]
    by_cases h0 : i = 0
    · rw [decide_eq_true h0]; rfl
    · rw [e (i - 1) (by omega)]
      have := hlt (i - 1) (by omega)
      rw [show i - 1 + 1 = i by omega] at this
      rw [this, Bool.or_true]
  · rw [decide_eq_false h]
    exact rightK_many (by simpa using Nat.lt_of_not_le h)
theorem range_snoc {α : Type} (f : Nat → α) (n : Nat) : (List.range n).map f ++ [f n] = (List.range (n + 1)).map f := by rw [List.range_succ, List.map_append]; rfl
def hB (i : Nat) : Hst := ⟨nmB i, [], (none, 0, 0)⟩
def uB (i : Nat) : Usr := ⟨nmB i, [], [], (none, 0, 0), [], (none, 0, 0)⟩
def iB (i : Nat) : Itm × Slc := (⟨nmB i ++ [64, 104], [], [], 0, false, false⟩, none, 0, 0)
def pB (i : Nat) : List UInt8 := nmB i ++ [64, 104]
theorem line_nil : line [] 100 = true := by decide +kernel
theorem bounds0 (n : Nat) (h : n ≤ 63) : rightS ((List.range n).map hB) = decide (n ≤ 5) := right_range hB 5 n ltH fitH
  (fun i hi => by
    show (domB (nmB i) && rightU []) = true
    rw [nm_dom (by omega)]
    exact (rightK_nil (most := 20) (lt := ltU) (ok := fitU)))
  (fun i hi => (nm_lt ⟨i, by omega⟩).1)
theorem fit_uB {i : Nat} (h : i < 64) : fitU (uB i) = true := by
  show (nodeB (nmB i) && line [] 100 && rightK 60 ltIS okIS [] && rightK 60 Jd.lessL addrB [] && !([] : List (Itm × Slc)).any (waitB (uB i))) = true
  rw [nm_node h, line_nil, rightK_nil, rightK_nil]
  rfl
theorem bounds1 (n : Nat) (q : Slc) (h : n ≤ 63) : rightS [⟨[104], (List.range n).map uB, q⟩] = decide (n ≤ 20) := by
  unfold rightS
  rw [rightK_one _ (by decide)]
  show (domB [104] && rightU ((List.range n).map uB)) = _
  rw [se_domB_h, Bool.true_and]
  exact right_range uB 20 n ltU fitU (fun i hi => fit_uB (by omega)) (fun i hi => (nm_lt ⟨i, by omega⟩).1)
theorem se_u : nodeB [117] = true := se_node (by decide) (by decide) (by decide)
theorem bounds2 (n : Nat) (q iv pv : Slc) (h : n ≤ 63) : rightS [⟨[104], [⟨[117], [], (List.range n).map iB, iv, [], pv⟩], q⟩] = decide (n ≤ 60) := by
  rw [se_host, se_domB_h, Bool.true_and, se_fitU, se_u, line_nil, rightK_nil]
  have h1 : rightK 60 ltIS okIS ((List.range n).map iB) = decide (n ≤ 60) := right_range iB 60 n ltIS okIS (fun i hi => by
      show rightI (seI (nmB i ++ [64, 104]) 0 false false) = true
      rw [se_right, nm_addr (by omega)]
      rfl) (fun i hi => (nm_lt ⟨i, by omega⟩).2)
  have h2 : (((List.range n).map iB).any fun p : Itm × Slc => letB p.1 && decide (p.1.jid ∈ ([] : List (List UInt8)))) = false := by simp
  rw [h1, h2]
  simp
theorem bounds3 (n : Nat) (q iv pv : Slc) (h : n ≤ 63) : rightS [⟨[104], [⟨[117], [], [], iv, (List.range n).map pB, pv⟩], q⟩] = decide (n ≤ 60) := by
  rw [se_host, se_domB_h, Bool.true_and, se_fitU, se_u, line_nil, rightK_nil]
  have h1 : rightK 60 Jd.lessL addrB ((List.range n).map pB) = decide (n ≤ 60) := right_range pB 60 n Jd.lessL addrB (fun i hi => nm_addr (by omega)) (fun i hi => (nm_lt ⟨i, by omega⟩).2)
  rw [h1]
  simp
theorem owns_other {W : World} {B k n : Nat} {t t' : TypeId} {v : Value} {xs : List Value} {g : Nat} {cs : Array Value} (h : W.ownsRow B t k v n xs) (hb : Bk W g t' cs) (hne : t' ≠ t) : some g ≠ v.ownBlock := by
  rcases h.2 with ⟨rfl, _⟩ | ⟨g2, cap, cur, rfl, _, hh, _⟩
  · intro e; cases e
  · intro e
    have e2 : g = g2 := Option.some.inj e
    subst e2
    unfold Bk at hb
    rw [hh] at hb
    injection hb with hb
    injection hb with _ hb
    exact hne hb.symm
theorem bk_keep {W W' : World} {B k n : Nat} {t t' : TypeId} {v : Value} {xs : List Value} {g : Nat} {cs : Array Value} (h : W.ownsRow B t k v n xs) (hb : Bk W g t' cs) (hne : t' ≠ t) (f : ∀ q, q < W.heap.size → some q ≠ v.ownBlock → W'.heap[q]? = W.heap[q]?) : Bk W' g t' cs := by
  have h1 := f g hb.lt (owns_other h hb hne)
  unfold Bk at hb ⊢
  rw [h1]
  exact hb
theorem owns_set {W : World} {B k n : Nat} {t t' : TypeId} {v : Value} {xs : List Value} {g i : Nat} {cs : Array Value} {u : Value} (h : W.ownsRow B t k v n xs) (hb : Bk W g t' cs) (hne : t' ≠ t) : (W.setCell ⟨g, i, none⟩ u).ownsRow B t k v n xs := by
  refine ⟨h.1, ?_⟩
  rcases h.2 with h1 | ⟨g2, cap, cur, hv, hge, hh, h3⟩
  · exact .inl h1
  · refine .inr ⟨g2, cap, cur, hv, hge, ?_, h3⟩
    rw [Below.heap_setCell W ⟨g, i, none⟩ u g2 (fun e => owns_other h hb hne (by rw [hv]; exact congrArg some (show g = g2 from e.symm)))]
    exact hh
theorem bk_set {W : World} {t t' : TypeId} {g g2 i : Nat} {cs cs2 : Array Value} {u : Value} (h : Bk W g t cs) (hb : Bk W g2 t' cs2) (hne : t ≠ t') : Bk (W.setCell ⟨g2, i, none⟩ u) g t cs := h.far (p := ⟨g2, i, none⟩) (fun e => Bk.type_ne h hb hne e) u
theorem sePush : ∀ (p : List UInt8) (r : ByteArray), ((p.map fun c : UInt8 => (c.toNat : Int)).foldl (fun r n => r.push (UInt8.ofNat n.toNat)) r) = ⟨(r.data.toList ++ p).toArray⟩
  | [], r => by simp
  | c :: t, r => by
    rw [List.map_cons, List.foldl_cons, sePush t]
    have : (r.push (UInt8.ofNat ((c.toNat : Int)).toNat)).data.toList = r.data.toList ++ [c] := by
      show (r.data.push _).toList = _
      rw [Array.toList_push]
      simp
    rw [this]
    simp
/-- 'string(part)' -/
theorem seStr {P : Program} {tb ts te : TypeId} (hb : P.underlying tb = some (.slice te)) (he : P.underlying te = some (.int .u8)) (hs : P.underlying ts = some .string) (W : World) (g o cap n : Nat) (p : List UInt8) (hn : p.length = n)
    (hc : ∀ j c, p[j]? = some c → W.cell? ⟨g, o + j, none⟩ = some (.int .u8 (c.toNat : Nat))) : (convert tb ts (.slice (some ⟨g, o, none⟩) n cap)).run P W = .ok (.string ⟨p.toArray⟩) W := by
  subst hn
  rw [run_convert_bytes_string _ tb ts te _ _ _ hb he hs]
  have h := run_loadCells_list (P := P) (w := W) ⟨g, o, none⟩ (p.map fun c => Value.int .u8 (c.toNat : Int)) (by
    intro j v hj
    rw [List.getElem?_map] at hj
    obtain ⟨c, hc2, rfl⟩ := Option.map_eq_some_iff.1 hj
    rw [add_at]
    exact hc j c hc2)
  rw [List.length_map] at h
  have := run_bytesToString (P := P) W ⟨g, o, none⟩ p.length cap (p.map fun c : UInt8 => (c.toNat : Int)) (by
    rw [h, List.map_map]
    rfl)
  rw [this, sePush]
  congr 3

theorem step_strB {ops : Array Oper} {o : Oper} {a : Act} {Q : Exit → Act → World → Prop} {KK : Act → World → Prop} {E : Prop} (hgd : o.guard = none) (s x : Operand) (ho : o.op = .call { callee := .builtin .append, args := #[s, x], argTypes := #[26, 26] })
    (B : Nat) (v : Value) (ad : Addr) (xs : List (List UInt8)) (y : List UInt8) (w0 W : World) (hW : Below B w0 W) (hB : B ≤ w0.heap.size) (hs : a.eval s = v) (hown : OwnT B W v (sts xs)) (hx : a.eval x = .slice (some ad) 1 1)
    (hy : W.cell? (ad.add 0) = some (.string (bts y))) (hn : xs.length ≤ 1000000000)
    (h : ∀ v' w', OwnT B w' v' (sts (xs ++ [y])) → Below B w0 w' → (∀ q, q < W.heap.size → some q ≠ v.ownBlock → w'.heap[q]? = W.heap[q]?) → KK (a.put o.dst v') w') : if Region.wanted o (yielded ops a.tmps) = true then Oper.wp Tryz.prog o a W KK Q else E := by
  rw [if_pos (by simp [Region.wanted, hgd])]
  obtain ⟨i0, hi, hz0, hz1, hz2⟩ := info_parts infoStr
  have hown' : W.ownsRow B 9 1 v (sts xs).length (strs (sts xs)) := hown
  have hll : (sts xs).length = xs.length := List.length_map _
  have hsW : B ≤ W.heap.size := Nat.le_trans hB hW.size
  refine wp_append_own _ s x 26 ho B 9 i0 _ 1 16 Tryz.underlying26 hi hz0 hz1 hz2 rfl (by decide) v (sts xs).length (strs (sts xs)) hs hown' ad 1 1 [.string (bts y)] hx rfl ?_ ?_ ?_ (by omega) hsW ?_
  · intro j u hj
    have hj0 : j = 0 := by have := (List.getElem?_eq_some_iff.1 hj).1; simpa using this
    subst hj0
    obtain rfl : Value.string (bts y) = u := by simpa using hj
    exact hy
  · intro u hu
    obtain rfl := List.mem_singleton.1 hu
    rfl
  · unfold maxLen; omega
  · intro v' w' h1 hg _
    refine h v' w' ?_ (hW.grown hg hsW (fun j hj => (World.ownsRow.lt hown' j hj).1)) (fun q hq hne => hg.block q hq hne)
    unfold OwnT
    have e1 : sts (xs ++ [y]) = sts xs ++ [bts y] := by simp [sts]
    rw [e1, strs_snoc, List.length_append]
    exact h1
set_option maxHeartbeats 2000000 in
set_option maxRecDepth 100000 in
theorem name_any (i : Nat) (hi : i < 64) (w : World) : Calls Tryz.prog 29 #[.int .i64 (i : Nat)] w fun e w' => e = .returned (.string (bts (nmB i))) ∧ Below w.heap.size w w' := by
  have h1 : (i : Int).tdiv 26 = ((i / 26 : Nat) : Int) := by rw [Int.tdiv_eq_ediv_of_nonneg (by omega)]; rfl
  have h2 : (i : Int).tmod 26 = ((i % 26 : Nat) : Int) := by rw [Int.tmod_eq_emod_of_nonneg (by omega)]; rfl
  obtain ⟨a, ha⟩ : ∃ a, i / 26 = a := ⟨_, rfl⟩
  obtain ⟨b, hb⟩ : ∃ b, i % 26 = b := ⟨_, rfl⟩
  have ha3 : a ≤ 2 := by omega
  have hb26 : b < 26 := by omega
  rw [ha] at h1
  rw [hb] at h2
  have hnm : bts (nmB i) = ⟨#[UInt8.ofNat (97 + a), UInt8.ofNat (97 + b)]⟩ := by unfold nmB; rw [ha, hb]
  have w1 : IntKind.i64.wrap (a : Int) = (a : Int) := by rw [IntKind.wrap_i64]; omega
  have w2 : IntKind.i64.wrap (b : Int) = (b : Int) := by rw [IntKind.wrap_i64]; omega
  have u1 : IntKind.u8.wrap (a : Int) = (a : Int) := by simp [IntKind.wrap, IntKind.bits, IntKind.signed]; omega
  have u2 : IntKind.u8.wrap (b : Int) = (b : Int) := by simp [IntKind.wrap, IntKind.bits, IntKind.signed]; omega
  have u3 : IntKind.u8.wrap (97 + (a : Int)) = ((97 + a : Nat) : Int) := by simp [IntKind.wrap, IntKind.bits, IntKind.signed]; omega
  have u4 : IntKind.u8.wrap (97 + (b : Int)) = ((97 + b : Nat) : Int) := by simp [IntKind.wrap, IntKind.bits, IntKind.signed]; omega
  rw [hnm]
  clear ha hb hnm
  have K1 : Bk (w.alloc (.cells #[.int .u8 (97 + (a : Int)), .int .u8 (97 + (b : Int))] 5)) w.heap.size 5 #[.int .u8 (97 + (a : Int)), .int .u8 (97 + (b : Int))] := Bk.new _ _ _
  have hcv := seStr (P := Tryz.prog) (tb := 57) (ts := 9) (te := 5) Tryz.underlying57 Tryz.underlying5 Tryz.underlying9 (w.alloc (.cells #[.int .u8 (97 + (a : Int)), .int .u8 (97 + (b : Int))] 5)) w.heap.size 0 2 2 [UInt8.ofNat (97 + a), UInt8.ofNat (97 + b)] rfl (fun j c hj => by
    rw [Nat.zero_add, K1.cell]
    match j, hj with
    | 0, hj =>
      obtain rfl : UInt8.ofNat (97 + a) = c := by simpa using hj
      have : ((UInt8.ofNat (97 + a)).toNat : Int) = 97 + (a : Int) := by rw [UInt8.toNat_ofNat']; omega
      rw [this]
      rfl
    | 1, hj =>
      obtain rfl : UInt8.ofNat (97 + b) = c := by simpa using hj
      have : ((UInt8.ofNat (97 + b)).toNat : Int) = 97 + (b : Int) := by rw [UInt8.toNat_ofNat']; omega
      rw [this]
      rfl
    | j + 2, hj => simp at hj)
  have B1 : Hid (Below w.heap.size w (w.alloc (.cells #[.int .u8 (97 + (a : Int)), .int .u8 (97 + (b : Int))] 5))) := (Below.refl _ _).alloc (Nat.le_refl _) _
  have e0 : (⟨[UInt8.ofNat (97 + a), UInt8.ofNat (97 + b)].toArray⟩ : ByteArray) = ⟨#[UInt8.ofNat (97 + a), UInt8.ofNat (97 + b)]⟩ := rfl
  rw [e0] at hcv
  obtain ⟨NM, hNM⟩ : ∃ z, (⟨#[UInt8.ofNat (97 + a), UInt8.ofNat (97 + b)]⟩ : ByteArray) = z := ⟨_, rfl⟩
  rw [hNM] at hcv ⊢
  have HCV := Lib.hid hcv
  clear hcv K1 e0 hNM
  go_enter Tryz.func29, Tryz.ntmps29
  go_wp2_with fail
  rw [HCV.out]
  go_wp2_with fail
  go_ret
  exact ⟨rfl, B1.out⟩
theorem sm_hB (i : Nat) : SmH (hB i) := ⟨by simp [hB, nmB], by simp [hB], fun u hu => absurd hu (by simp [hB])⟩
theorem sm_uB (i : Nat) : SmU (uB i) := ⟨by simp [uB, nmB], by simp [uB], by simp [uB], fun p hp => absurd hp (by simp [uB]), by simp [uB], fun p hp => absurd hp (by simp [uB])⟩
theorem sm_iB (i : Nat) : SmI (iB i).1 := ⟨by simp [iB, nmB], by simp [iB], by simp [iB], fun p hp => absurd hp (by simp [iB])⟩
theorem in_uB (i : Nat) (W : World) : InU W (uB i) := ⟨readI_bare ⟨none, 0, rfl, fun h => absurd h (by simp [uB])⟩ (fun p hp => absurd hp (by simp [uB])), readT_nil W _ 0⟩
theorem map_all {α : Type} {P : α → Prop} {f : Nat → α} {n : Nat} (h : ∀ i, P (f i)) : ∀ x ∈ (List.range n).map f, P x := fun x hx => by
  obtain ⟨i, _, rfl⟩ := List.mem_map.1 hx
  exact h i
theorem smH_big {hn : List UInt8} {us : List Usr} {q : Slc} (h1 : hn.length ≤ 1000) (h2 : us.length ≤ 1000) (h3 : ∀ u ∈ us, SmU u) : SmH ⟨hn, us, q⟩ := ⟨Nat.le_trans h1 (by decide), Nat.le_trans h2 (by decide), h3⟩
theorem mem_one {α : Type} {P : α → Prop} {x : α} (h : P x) : ∀ y ∈ [x], P y := fun y hy => by obtain rfl := List.mem_singleton.1 hy; exact h
set_option linter.unusedSimpArgs false in
set_option maxHeartbeats 40000000 in
set_option maxRecDepth 100000 in
theorem stateBounds_any (n what : Int) (w : World) (hO : Okw w) (hT : Tabs w) :
    Calls Tryz.prog 7 #[.int .i64 n, .int .i64 what] w fun e w' => e = .returned (.bool true) ∧ Below w.heap.size w w' := by
  have HO := Lib.hid hO
  have HT := Lib.hid hT
  obtain ⟨k, hk, hk4⟩ := uintMod what 4 (by omega) (by omega)
  have hk2 : IntKind.i64.wrap ((IntKind.u64.wrap what).tmod 4) = (k : Int) := by have h := hk; unfold wrap64 at h; rw [IntKind.wrap_i64]; exact h
  have HK := Lib.hid hk2
  obtain ⟨r, hr, hr5⟩ := uintMod n 5 (by omega) (by omega)
  have hr2 : IntKind.i64.wrap ((IntKind.u64.wrap n).tmod 5) = (r : Int) := by have h := hr; unfold wrap64 at h; rw [IntKind.wrap_i64]; exact h
  have hrz : r < 5 := by omega
  clear hk hr hO hT hk2 hr5
  have hkk : k = 0 ∨ k = 1 ∨ k = 2 ∨ k = 3 := by omega
  clear hk4
  rcases hkk with rfl | rfl | rfl | rfl
  · have hk : IntKind.i64.wrap ((IntKind.u64.wrap what).tmod 4) = 0 := HK.out
    obtain ⟨N, hN⟩ : ∃ N, 3 + r = N := ⟨_, rfl⟩
    have wN : IntKind.i64.wrap (3 + (r : Int)) = (N : Int) := by rw [IntKind.wrap_i64]; omega
    have HN63 : Hid (N ≤ 63) := by unfold Hid; omega
    have hN62 : N ≤ 62 := by omega
    obtain ⟨ib, hib⟩ : ∃ b, w.heap.size = b := ⟨_, rfl⟩
    obtain ⟨ub, hub⟩ : ∃ b, ib + 1 = b := ⟨_, rfl⟩
    obtain ⟨hb0, hhb0⟩ : ∃ b, ub + 1 = b := ⟨_, rfl⟩
    obtain ⟨q, hq⟩ : ∃ b, hb0 + 1 = b := ⟨_, rfl⟩
    obtain ⟨V0, hV0⟩ : ∃ W, w.alloc (.cells #[.int .i64 5, .int .i64 20, .int .i64 60, .int .i64 60] 3) = W := ⟨_, rfl⟩
    have s0 : w.heap.size = ib := hib
    have t0 : V0.heap.size = ib + 1 := by rw [← hV0, World.size_alloc, s0]
    have j0 : Bk V0 ib 3 #[.int .i64 5, .int .i64 20, .int .i64 60, .int .i64 60] := by rw [← hV0, ← s0]; exact Bk.new _ _ _
    have B0 : Below w.heap.size w V0 := by rw [← hV0]; exact (Below.refl _ _).alloc (Nat.le_refl _) _
    obtain ⟨V1, hV1⟩ : ∃ W, V0.alloc (.cells #[.string ⟨#[117]⟩, .string ⟨#[]⟩, .slice none 0 0, .slice none 0 0] 28) = W := ⟨_, rfl⟩
    have s1 : V0.heap.size = ub := by rw [t0, hub]
    have t1 : V1.heap.size = ub + 1 := by rw [← hV1, World.size_alloc, s1]
    have j1 : Bk V1 ub 28 #[.string ⟨#[117]⟩, .string ⟨#[]⟩, .slice none 0 0, .slice none 0 0] := by rw [← hV1, ← s1]; exact Bk.new _ _ _
    have B1 : Below w.heap.size w V1 := by rw [← hV1]; exact B0.alloc (by omega) _
    obtain ⟨V2, hV2⟩ : ∃ W, V1.alloc (.cells #[.string ⟨#[104]⟩, .slice (some ⟨ub, 0, none⟩) 1 1] 47) = W := ⟨_, rfl⟩
    have s2 : V1.heap.size = hb0 := by rw [t1, hhb0]
    have t2 : V2.heap.size = hb0 + 1 := by rw [← hV2, World.size_alloc, s2]
    have j2 : Bk V2 hb0 47 #[.string ⟨#[104]⟩, .slice (some ⟨ub, 0, none⟩) 1 1] := by rw [← hV2, ← s2]; exact Bk.new _ _ _
    have B2 : Below w.heap.size w V2 := by rw [← hV2]; exact B1.alloc (by omega) _
    obtain ⟨V3, hV3⟩ : ∃ W, V2.alloc (.cells #[.slice none 0 0] 24) = W := ⟨_, rfl⟩
    have s3 : V2.heap.size = q := by rw [t2, hq]
    have t3 : V3.heap.size = q + 1 := by rw [← hV3, World.size_alloc, s3]
    have j3 : Bk V3 q 24 #[.slice none 0 0] := by rw [← hV3, ← s3]; exact Bk.new _ _ _
    have B3 : Below w.heap.size w V3 := by rw [← hV3]; exact B2.alloc (by omega) _
    have iK : V0.cell? ⟨ib, 0, none⟩ = some (.int .i64 5) := j0.cell 0
    have z0 : V3.cell? ⟨q, 0, none⟩ = some (.slice none 0 0) := j3.cell 0
    have zf0 : V3.frozen? ⟨q, 0, none⟩ = false := j3.free 0
    obtain ⟨V4, hV4⟩ : ∃ z, V3.setCell ⟨q, 0, none⟩ (.slice (some ⟨hb0, 0, none⟩) 1 1) = z := ⟨_, rfl⟩
    have k4 : Bk V4 q 24 #[.slice (some ⟨hb0, 0, none⟩) 1 1] := by rw [← hV4]; exact j3.put 0 _
    have B4 : Below w.heap.size w V4 := by rw [← hV4]; exact B3.setCell (p := ⟨q, 0, none⟩) (by show w.heap.size ≤ q; omega) _
    obtain ⟨hb, hhb⟩ : ∃ b, q + 1 = b := ⟨_, rfl⟩
    obtain ⟨V5, hV5⟩ : ∃ W, V4.alloc (.cells #[.string ⟨#[104]⟩, .slice none 0 0] 47) = W := ⟨_, rfl⟩
    have s5 : V4.heap.size = hb := by rw [← hV4, World.size_setCell, t3, hhb]
    have j5 : Bk V5 hb 47 #[.string ⟨#[104]⟩, .slice none 0 0] := by rw [← hV5, ← s5]; exact Bk.new _ _ _
    have B5 : Below w.heap.size w V5 := by rw [← hV5]; exact B4.alloc (by omega) _
    have k5 : Bk V5 q 24 #[.slice (some ⟨hb0, 0, none⟩) 1 1] := by rw [← hV5]; exact k4.alloc _
    have z5 : V5.cell? ⟨q, 0, none⟩ = some (.slice (some ⟨hb0, 0, none⟩) 1 1) := k5.cell 0
    have zf5 : V5.frozen? ⟨q, 0, none⟩ = false := k5.free 0
    obtain ⟨V6, hV6⟩ : ∃ z, V5.setCell ⟨q, 0, none⟩ (.slice (some ⟨hb, 0, none⟩) 1 1) = z := ⟨_, rfl⟩
    have k6 : Bk V6 q 24 #[.slice (some ⟨hb, 0, none⟩) 1 1] := by rw [← hV6]; exact k5.put 0 _
    have kh : Bk V6 hb 47 #[.string ⟨#[104]⟩, .slice none 0 0] := by rw [← hV6]; exact j5.far (p := ⟨q, 0, none⟩) (by show hb ≠ q; omega) _
    have B6 : Below w.heap.size w V6 := by rw [← hV6]; exact B5.setCell (p := ⟨q, 0, none⟩) (by show w.heap.size ≤ q; omega) _
    have z6 : V6.cell? ⟨q, 0, none⟩ = some (.slice (some ⟨hb, 0, none⟩) 1 1) := k6.cell 0
    have zf6 : V6.frozen? ⟨q, 0, none⟩ = false := k6.free 0
    obtain ⟨V7, hV7⟩ : ∃ z, V6.setCell ⟨q, 0, none⟩ (.slice none 0 0) = z := ⟨_, rfl⟩
    have k7 : Bk V7 q 24 #[.slice none 0 0] := by rw [← hV7]; exact k6.put 0 _
    have B7 : Below w.heap.size w V7 := by rw [← hV7]; exact B6.setCell (p := ⟨q, 0, none⟩) (by show w.heap.size ≤ q; omega) _
    have J0own : Hid (OwnV encH 2 47 w.heap.size V7 (.slice none 0 0) ((List.range 0).map hB)) := OwnV.nil
    have J0k0 : Hid (Bk V7 q 24 #[.slice none 0 0]) := k7
    have BJ : Hid (Below w.heap.size w V7) := B7
    have HLOW : Hid (w.heap.size ≤ q) := by unfold Hid; omega
    have HEV0 := Lib.hid hV0
    have HEV1 := Lib.hid hV1
    have HEV2 := Lib.hid hV2
    have HEV3 := Lib.hid hV3
    have HEV4 := Lib.hid hV4
    have HEV5 := Lib.hid hV5
    have HEV6 := Lib.hid hV6
    have HEV7 := Lib.hid hV7
    have HIB := Lib.hid hib
    have HBub := Lib.hid hub
    have HBhb0 := Lib.hid hhb0
    have HBq := Lib.hid hq
    have HBhb := Lib.hid hhb
    go_enter Tryz.func7, Tryz.ntmps7
    go_wp2_with fail
    (try rw [hV0])
    (try rw [hV1])
    (try rw [hV2])
    (try rw [hV3])
    (try rw [hV4])
    (try rw [hV5])
    (try rw [hV6])
    (try rw [hV7])
    clear hV0 hV1 hV2 hV3 hV4 hV5 hV6 hV7 hib hub hhb0 hq hhb
    go_loopw [8] (fun iv wr => ∃ (i : Nat) (A : Option Addr) (c : Nat), iv = .int .i64 (i : Nat) ∧ i ≤ N ∧ Hid (OwnV encH 2 47 w.heap.size wr (.slice A i c) ((List.range i).map hB)) ∧ Hid (Bk wr q 24 #[.slice A i c]) ∧ Hid (Below w.heap.size w wr)) (fun iv _ => N - (intOf iv).toNat)
    case atStart => exact ⟨0, none, 0, rfl, Nat.zero_le _, J0own, J0k0, BJ.out⟩
    case round =>
      obtain ⟨i, A, c, rfl, hi, Iown, Ik0, BWR⟩ := hrel
      by_cases hin : i < N
      · have hiz : (i : Int) < (N : Int) := by omega
        have hnm := fun W => name_any i (by omega) W
        obtain ⟨NM, hNM⟩ : ∃ z, bts (nmB i) = z := ⟨_, rfl⟩
        rw [hNM] at hnm
        have HNM := Lib.hid hnm
        have HEL : Hid (encH (hB i) = [.string NM, .slice none 0 0]) := by unfold Hid; rw [← hNM]; rfl
        clear hnm hNM
        go_upto_region 16 with fail
        obtain ⟨W0, hW0⟩ : ∃ W0, wr.drew = W0 := ⟨_, rfl⟩
        have b0 : Below wr.heap.size wr W0 := by rw [← hW0]; exact (Below.refl _ _).drew
        have M0own : Hid (OwnV encH 2 47 w.heap.size W0 (.slice A i c) ((List.range i).map hB)) := Iown.out.below b0
        have M0k0 : Hid (Bk W0 q 24 #[.slice A i c]) := Ik0.out.below b0 Ik0.out.lt
        have BW0 : Hid (Below w.heap.size w W0) := BWR.out.trans (b0.mono BWR.out.size)
        have HW0 := Lib.hid hW0
        clear hW0 b0
        refine any_region (fun w' => w'.cell? ⟨q, 0, none⟩ = some (.slice A i c)) 9 (by kernel_rfl) ?_
        rw [HW0.out]
        refine Any.take 0 (some 66) ?v1 [] (S' := fun _ => True) rfl rfl (by kernel_rfl) (by kernel_rfl) (by kernel_rfl) (by kernel_rfl) (by kernel_rfl) (by decide) (by rfl) (fun _ _ _ _ => trivial) ?y1 (fun _ _ _ h => h) (fun _ => M0k0.out.cell 0) ?n1
        case y1 =>
          intro w hSw
          clear hSw
          go_simp
          try with_reducible rfl
        try simp only [Act.put, List.setIfInBounds_toArray, List.set_cons_zero, List.set_cons_succ]
        refine Any.take 1 (some 67) ?v2 [9] (S' := fun w' => w'.cell? ⟨q, 0, none⟩ = some (.slice A i c)) rfl rfl (by kernel_rfl) (by kernel_rfl) (by kernel_rfl) (by kernel_rfl) (by kernel_rfl) (by decide) (by rfl) (fun _ _ hl hS => hS (hl 9 (by simp))) ?y2 (fun _ _ _ h => h) (fun _ => M0k0.out.cell 0) ?n2
        case y2 =>
          intro w hSw
          try dsimp only at hSw
          go_simp
          try with_reducible rfl
        try simp only [Act.put, List.setIfInBounds_toArray, List.set_cons_zero, List.set_cons_succ]
        refine Any.take 2 (some 68) ?v3 [] (S' := fun _ => True) rfl rfl (by kernel_rfl) (by kernel_rfl) (by kernel_rfl) (by kernel_rfl) (by kernel_rfl) (by decide) (by rfl) (fun _ _ _ _ => trivial) ?y3 (fun _ _ _ h => h) (fun _ => M0k0.out.cell 0) ?n3
        case y3 =>
          intro w hSw
          clear hSw
          go_simp
          try with_reducible rfl
        try simp only [Act.put, List.setIfInBounds_toArray, List.set_cons_zero, List.set_cons_succ]
        refine Any.take 3 (some 69) ?v4 [] (S' := fun _ => True) rfl rfl (by kernel_rfl) (by kernel_rfl) (by kernel_rfl) (by kernel_rfl) (by kernel_rfl) (by decide) (by rfl) (fun _ _ _ _ => trivial) ?y4 (fun _ _ _ h => h) (fun _ => M0k0.out.cell 0) ?n4
        case y4 =>
          intro w hSw
          clear hSw
          go_simp
          try with_reducible rfl
        try simp only [Act.put, List.setIfInBounds_toArray, List.set_cons_zero, List.set_cons_succ]
        refine Any.up (rs := [4]) (by kernel_rfl) (by simp) ?_
        refine AllUp.cons (i := 4) rfl (fun K hK => ?_) (AllUp.nil)
        have egN := Go.Proofs.enters_of Tryz.func29 (by kernel_rfl) rfl
        go_simp
        refine (HNM.out W0).mono ?_
        rintro e Wc ⟨rfl, bc⟩
        have Mcown : Hid (OwnV encH 2 47 w.heap.size Wc (.slice A i c) ((List.range i).map hB)) := M0own.out.below bc
        have Mck0 : Hid (Bk Wc q 24 #[.slice A i c]) := M0k0.out.below bc M0k0.out.lt
        have BWc : Hid (Below w.heap.size w Wc) := BW0.out.trans (bc.mono BW0.out.size)
        clear bc egN
        refine hK.out _ _ (fun _ _ => Mck0.out.cell 0) ?_
        clear hK K
        try simp only [Act.put, List.setIfInBounds_toArray, List.set_cons_zero, List.set_cons_succ]
        refine Any.up (rs := [5]) (by kernel_rfl) (by simp) ?_
        refine AllUp.cons (i := 5) rfl (fun K hK => ?_) (AllUp.nil)
        go_simp
        refine hK.out _ _ (fun _ _ => Mck0.out.cell 0) ?_
        clear hK K
        try simp only [Act.put, List.setIfInBounds_toArray, List.set_cons_zero, List.set_cons_succ]
        refine Any.up (rs := [6]) (by kernel_rfl) (by simp) ?_
        refine AllUp.cons (i := 6) rfl (fun K hK => ?_) (AllUp.nil)
        obtain ⟨Wa, hWa⟩ : ∃ W9, Wc.alloc (.cells #[.string NM, .slice none 0 0] 47) = W9 := ⟨_, rfl⟩
        obtain ⟨ha, hha⟩ : ∃ H9, Wc.heap.size = H9 := ⟨_, rfl⟩
        have ba : Below Wc.heap.size Wc Wa := by rw [← hWa]; exact (Below.refl _ _).alloc (Nat.le_refl _) _
        have Maown : Hid (OwnV encH 2 47 w.heap.size Wa (.slice A i c) ((List.range i).map hB)) := Mcown.out.below ba
        have Mak0 : Hid (Bk Wa q 24 #[.slice A i c]) := Mck0.out.below ba Mck0.out.lt
        have NA_ : Hid (Bk Wa ha 47 #[.string NM, .slice none 0 0]) := by rw [← hWa, ← hha]; exact Bk.new _ _ _
        have BWa : Hid (Below w.heap.size w Wa) := BWc.out.trans (ba.mono BWc.out.size)
        have HWa := Lib.hid hWa
        have HHa := Lib.hid hha
        clear hWa hha ba
        go_simp
        rw [HWa.out, HHa.out]
        refine hK.out _ _ (fun _ _ => Mak0.out.cell 0) ?_
        clear hK K
        try simp only [Act.put, List.setIfInBounds_toArray, List.set_cons_zero, List.set_cons_succ]
        refine Any.up (rs := [7]) (by kernel_rfl) (by simp) ?_
        refine AllUp.cons (i := 7) rfl (fun K hK => ?_) (AllUp.nil)
        refine stepH_row rfl _ _ rfl w.heap.size (.slice A i c) ⟨ha, 0, none⟩ ((List.range i).map hB) (hB i) w _ BWa.out (Nat.le_refl _) rfl Maown.out rfl (fun j u hj => by rw [add_at, Nat.zero_add, NA_.out.cell, ← Array.getElem?_toList, ← hj]; rw [HEL.out]) (by rw [List.length_map, List.length_range]; omega) ?_
        intro v4 w4 o4 b4 f4
        rw [range_snoc] at o4
        obtain ⟨A4, c4, hv4⟩ := o4.slice
        have hl4 : ((List.range (i + 1)).map hB).length = i + 1 := by simp
        rw [hl4] at hv4
        subst hv4
        have M4own := Lib.hid o4
        have M4k0 : Hid (Bk w4 q 24 #[.slice A i c]) := bk_keep Maown.out Mak0.out (by decide) f4
        have BW4 := Lib.hid b4
        clear o4 b4 f4 hl4
        refine hK.out _ _ (fun _ _ => M4k0.out.cell 0) ?_
        clear hK K
        try simp only [Act.put, List.setIfInBounds_toArray, List.set_cons_zero, List.set_cons_succ]
        refine Any.up (rs := [8]) (by kernel_rfl) (by simp) ?_
        refine AllUp.cons (i := 8) rfl (fun K hK => ?_) (AllUp.nil)
        go_simp
        refine hK.out _ _ (fun _ _ => M4k0.out.cell 0) ?_
        clear hK K
        try simp only [Act.put, List.setIfInBounds_toArray, List.set_cons_zero, List.set_cons_succ]
        refine Any.up (rs := [9]) (by kernel_rfl) (by simp) ?_
        refine AllUp.cons (i := 9) rfl (fun K hK => ?_) (AllUp.nil)
        have y0 := M4k0.out.cell 0
        have y1 := M4k0.out.free 0
        go_simp
        refine hK.out _ _ (fun hne _ => absurd rfl hne) ?_
        clear y0 y1
        clear hK K
        try simp only [Act.put, List.setIfInBounds_toArray, List.set_cons_zero, List.set_cons_succ]
        refine Any.done (by kernel_rfl) ?_ _
        obtain ⟨w5, hw5⟩ : ∃ z, w4.setCell ⟨q, 0, none⟩ (.slice A4 (i + 1) c4) = z := ⟨_, rfl⟩
        have M5own : Hid (OwnV encH 2 47 w.heap.size w5 (.slice A4 (i + 1) c4) ((List.range (i + 1)).map hB)) := by rw [← hw5]; exact owns_set M4own.out M4k0.out (by decide)
        have M5k0 : Hid (Bk w5 q 24 #[.slice A4 (i + 1) c4]) := by rw [← hw5]; exact M4k0.out.put 0 _
        have BW5 : Hid (Below w.heap.size w w5) := by rw [← hw5]; exact BW4.out.setCell (p := ⟨q, 0, none⟩) HLOW.out _
        rw [hw5]
        clear hw5
        clear M0own M0k0
        go_wp2_with fail
        go_roundw
        case rel => exact ⟨i + 1, A4, c4, by go_num, by omega, M5own, M5k0, BW5⟩
        case measure => simp [intOf]; omega
      · have hiz : ¬ (i : Int) < (N : Int) := by omega
        obtain rfl : i = N := by omega
        have HAW := Lib.hid (seaw_any wr (HO.out.below BWR.out) (HT.out.below BWR.out))
        have RH : Hid (ReadH wr (.slice A i c) ((List.range i).map hB)) := ⟨Iown.out.row (fun _ => rfl), map_all (P := fun p : Hst => ReadU wr (sl p.uv) p.users) fun j => ⟨⟨none, 0, rfl, fun h => absurd h (by simp [hB])⟩, fun p hp => absurd hp (by simp [hB])⟩⟩
        have HSM : Hid (∀ h ∈ ((List.range i).map hB), SmH h) := map_all sm_hB
        have HRG : Hid (rightS ((List.range i).map hB) = decide (i ≤ 5)) := bounds0 i HN63.out
        have HLE : Hid (((List.range i).map hB).length ≤ 1000000) := by unfold Hid; simp; omega
        obtain ⟨LL, hLL⟩ : ∃ l, ((List.range i).map hB) = l := ⟨_, rfl⟩
        rw [hLL] at RH HSM HRG HLE
        clear hLL
        go_wp2_with fail
        refine HAW.out.mono ?_
        rintro e w2 ⟨rfl, b2⟩
        have B2 : Hid (Below w.heap.size w w2) := BWR.out.trans (b2.mono BWR.out.size)
        have HRT := Lib.hid (sright_any _ LL w2 (HO.out.below B2.out) (HT.out.below B2.out) (RH.out.upon b2) HLE.out HSM.out)
        rw [HRG.out] at HRT
        have c0 : w2.cell? ⟨q, 0, none⟩ = some (.slice A i c) := (Ik0.out.below b2 Ik0.out.lt).cell 0
        clear b2 HAW
        by_cases hle : i ≤ 5
        · have hm : i ≤ 5 := hle
          have hmz : (i : Int) ≤ 5 := by omega
          rw [decide_eq_true hm] at HRT
          go_wp2_with fail
          refine HRT.out.mono ?_
          rintro e w3 ⟨rfl, b3⟩
          have B3 : Hid (Below w.heap.size w w3) := B2.out.trans (b3.mono B2.out.size)
          clear b3
          go_wp2_with fail
          go_ret
          exact ⟨by first | rfl | simp [hmz], B3.out⟩
        · have hm : ¬ i ≤ 5 := hle
          have hmz : ¬ (i : Int) ≤ 5 := by omega
          rw [decide_eq_false hm] at HRT
          go_wp2_with fail
          refine HRT.out.mono ?_
          rintro e w3 ⟨rfl, b3⟩
          have B3 : Hid (Below w.heap.size w w3) := B2.out.trans (b3.mono B2.out.size)
          clear b3
          go_wp2_with fail
          go_ret
          exact ⟨by first | rfl | simp [hmz], B3.out⟩
  · have hk : IntKind.i64.wrap ((IntKind.u64.wrap what).tmod 4) = 1 := HK.out
    obtain ⟨N, hN⟩ : ∃ N, 18 + r = N := ⟨_, rfl⟩
    have wN : IntKind.i64.wrap (18 + (r : Int)) = (N : Int) := by rw [IntKind.wrap_i64]; omega
    have HN63 : Hid (N ≤ 63) := by unfold Hid; omega
    have hN62 : N ≤ 62 := by omega
    obtain ⟨ib, hib⟩ : ∃ b, w.heap.size = b := ⟨_, rfl⟩
    obtain ⟨ub, hub⟩ : ∃ b, ib + 1 = b := ⟨_, rfl⟩
    obtain ⟨hb0, hhb0⟩ : ∃ b, ub + 1 = b := ⟨_, rfl⟩
    obtain ⟨q, hq⟩ : ∃ b, hb0 + 1 = b := ⟨_, rfl⟩
    obtain ⟨V0, hV0⟩ : ∃ W, w.alloc (.cells #[.int .i64 5, .int .i64 20, .int .i64 60, .int .i64 60] 3) = W := ⟨_, rfl⟩
    have s0 : w.heap.size = ib := hib
    have t0 : V0.heap.size = ib + 1 := by rw [← hV0, World.size_alloc, s0]
    have j0 : Bk V0 ib 3 #[.int .i64 5, .int .i64 20, .int .i64 60, .int .i64 60] := by rw [← hV0, ← s0]; exact Bk.new _ _ _
    have B0 : Below w.heap.size w V0 := by rw [← hV0]; exact (Below.refl _ _).alloc (Nat.le_refl _) _
    obtain ⟨V1, hV1⟩ : ∃ W, V0.alloc (.cells #[.string ⟨#[117]⟩, .string ⟨#[]⟩, .slice none 0 0, .slice none 0 0] 28) = W := ⟨_, rfl⟩
    have s1 : V0.heap.size = ub := by rw [t0, hub]
    have t1 : V1.heap.size = ub + 1 := by rw [← hV1, World.size_alloc, s1]
    have j1 : Bk V1 ub 28 #[.string ⟨#[117]⟩, .string ⟨#[]⟩, .slice none 0 0, .slice none 0 0] := by rw [← hV1, ← s1]; exact Bk.new _ _ _
    have B1 : Below w.heap.size w V1 := by rw [← hV1]; exact B0.alloc (by omega) _
    obtain ⟨V2, hV2⟩ : ∃ W, V1.alloc (.cells #[.string ⟨#[104]⟩, .slice (some ⟨ub, 0, none⟩) 1 1] 47) = W := ⟨_, rfl⟩
    have s2 : V1.heap.size = hb0 := by rw [t1, hhb0]
    have t2 : V2.heap.size = hb0 + 1 := by rw [← hV2, World.size_alloc, s2]
    have j2 : Bk V2 hb0 47 #[.string ⟨#[104]⟩, .slice (some ⟨ub, 0, none⟩) 1 1] := by rw [← hV2, ← s2]; exact Bk.new _ _ _
    have B2 : Below w.heap.size w V2 := by rw [← hV2]; exact B1.alloc (by omega) _
    obtain ⟨V3, hV3⟩ : ∃ W, V2.alloc (.cells #[.slice none 0 0] 24) = W := ⟨_, rfl⟩
    have s3 : V2.heap.size = q := by rw [t2, hq]
    have t3 : V3.heap.size = q + 1 := by rw [← hV3, World.size_alloc, s3]
    have j3 : Bk V3 q 24 #[.slice none 0 0] := by rw [← hV3, ← s3]; exact Bk.new _ _ _
    have B3 : Below w.heap.size w V3 := by rw [← hV3]; exact B2.alloc (by omega) _
    have iK : V0.cell? ⟨ib, 1, none⟩ = some (.int .i64 20) := j0.cell 1
    have z0 : V3.cell? ⟨q, 0, none⟩ = some (.slice none 0 0) := j3.cell 0
    have zf0 : V3.frozen? ⟨q, 0, none⟩ = false := j3.free 0
    obtain ⟨V4, hV4⟩ : ∃ z, V3.setCell ⟨q, 0, none⟩ (.slice (some ⟨hb0, 0, none⟩) 1 1) = z := ⟨_, rfl⟩
    have k4 : Bk V4 q 24 #[.slice (some ⟨hb0, 0, none⟩) 1 1] := by rw [← hV4]; exact j3.put 0 _
    have B4 : Below w.heap.size w V4 := by rw [← hV4]; exact B3.setCell (p := ⟨q, 0, none⟩) (by show w.heap.size ≤ q; omega) _
    obtain ⟨hb, hhb⟩ : ∃ b, q + 1 = b := ⟨_, rfl⟩
    obtain ⟨V5, hV5⟩ : ∃ W, V4.alloc (.cells #[.string ⟨#[104]⟩, .slice none 0 0] 47) = W := ⟨_, rfl⟩
    have s5 : V4.heap.size = hb := by rw [← hV4, World.size_setCell, t3, hhb]
    have j5 : Bk V5 hb 47 #[.string ⟨#[104]⟩, .slice none 0 0] := by rw [← hV5, ← s5]; exact Bk.new _ _ _
    have B5 : Below w.heap.size w V5 := by rw [← hV5]; exact B4.alloc (by omega) _
    have k5 : Bk V5 q 24 #[.slice (some ⟨hb0, 0, none⟩) 1 1] := by rw [← hV5]; exact k4.alloc _
    have z5 : V5.cell? ⟨q, 0, none⟩ = some (.slice (some ⟨hb0, 0, none⟩) 1 1) := k5.cell 0
    have zf5 : V5.frozen? ⟨q, 0, none⟩ = false := k5.free 0
    obtain ⟨V6, hV6⟩ : ∃ z, V5.setCell ⟨q, 0, none⟩ (.slice (some ⟨hb, 0, none⟩) 1 1) = z := ⟨_, rfl⟩
    have k6 : Bk V6 q 24 #[.slice (some ⟨hb, 0, none⟩) 1 1] := by rw [← hV6]; exact k5.put 0 _
    have kh : Bk V6 hb 47 #[.string ⟨#[104]⟩, .slice none 0 0] := by rw [← hV6]; exact j5.far (p := ⟨q, 0, none⟩) (by show hb ≠ q; omega) _
    have B6 : Below w.heap.size w V6 := by rw [← hV6]; exact B5.setCell (p := ⟨q, 0, none⟩) (by show w.heap.size ≤ q; omega) _
    have J0own : Hid (OwnV encU 4 28 w.heap.size V6 (.slice none 0 0) ((List.range 0).map uB)) := OwnV.nil
    have J0k0 : Hid (Bk V6 q 24 #[.slice (some ⟨hb, 0, none⟩) 1 1]) := k6
    have J0k1 : Hid (Bk V6 hb 47 #[.string ⟨#[104]⟩, .slice none 0 0]) := kh
    have BJ : Hid (Below w.heap.size w V6) := B6
    have HLOW : Hid (w.heap.size ≤ hb) := by unfold Hid; omega
    have HEV0 := Lib.hid hV0
    have HEV1 := Lib.hid hV1
    have HEV2 := Lib.hid hV2
    have HEV3 := Lib.hid hV3
    have HEV4 := Lib.hid hV4
    have HEV5 := Lib.hid hV5
    have HEV6 := Lib.hid hV6
    have HIB := Lib.hid hib
    have HBub := Lib.hid hub
    have HBhb0 := Lib.hid hhb0
    have HBq := Lib.hid hq
    have HBhb := Lib.hid hhb
    go_enter Tryz.func7, Tryz.ntmps7
    go_wp2_with fail
    (try rw [hV0])
    (try rw [hV1])
    (try rw [hV2])
    (try rw [hV3])
    (try rw [hV4])
    (try rw [hV5])
    (try rw [hV6])
    clear hV0 hV1 hV2 hV3 hV4 hV5 hV6 hib hub hhb0 hq hhb
    go_loopw [8] (fun iv wr => ∃ (i : Nat) (A : Option Addr) (c : Nat), iv = .int .i64 (i : Nat) ∧ i ≤ N ∧ Hid (OwnV encU 4 28 w.heap.size wr (.slice A i c) ((List.range i).map uB)) ∧ Hid (Bk wr q 24 #[.slice (some ⟨hb, 0, none⟩) 1 1]) ∧ Hid (Bk wr hb 47 #[.string ⟨#[104]⟩, .slice A i c]) ∧ Hid (Below w.heap.size w wr)) (fun iv _ => N - (intOf iv).toNat)
    case atStart => exact ⟨0, none, 0, rfl, Nat.zero_le _, J0own, J0k0, J0k1, BJ.out⟩
    case round =>
      obtain ⟨i, A, c, rfl, hi, Iown, Ik0, Ik1, BWR⟩ := hrel
      by_cases hin : i < N
      · have hiz : (i : Int) < (N : Int) := by omega
        have hnm := fun W => name_any i (by omega) W
        obtain ⟨NM, hNM⟩ : ∃ z, bts (nmB i) = z := ⟨_, rfl⟩
        rw [hNM] at hnm
        have HNM := Lib.hid hnm
        have HEL : Hid (encU (uB i) = [.string NM, .string ⟨#[]⟩, .slice none 0 0, .slice none 0 0]) := by unfold Hid; rw [← hNM]; rfl
        clear hnm hNM
        go_upto_region 18 with fail
        obtain ⟨W0, hW0⟩ : ∃ W0, wr.drew = W0 := ⟨_, rfl⟩
        have b0 : Below wr.heap.size wr W0 := by rw [← hW0]; exact (Below.refl _ _).drew
        have M0own : Hid (OwnV encU 4 28 w.heap.size W0 (.slice A i c) ((List.range i).map uB)) := Iown.out.below b0
        have M0k0 : Hid (Bk W0 q 24 #[.slice (some ⟨hb, 0, none⟩) 1 1]) := Ik0.out.below b0 Ik0.out.lt
        have M0k1 : Hid (Bk W0 hb 47 #[.string ⟨#[104]⟩, .slice A i c]) := Ik1.out.below b0 Ik1.out.lt
        have BW0 : Hid (Below w.heap.size w W0) := BWR.out.trans (b0.mono BWR.out.size)
        have HW0 := Lib.hid hW0
        clear hW0 b0
        refine any_region (fun w' => w'.cell? ⟨q, 0, none⟩ = some (.slice (some ⟨hb, 0, none⟩) 1 1) ∧ w'.cell? ⟨hb, 1, none⟩ = some (.slice A i c)) 15 (by kernel_rfl) ?_
        rw [HW0.out]
        refine Any.take 0 (some 77) ?v5 [] (S' := fun _ => True) rfl rfl (by kernel_rfl) (by kernel_rfl) (by kernel_rfl) (by kernel_rfl) (by kernel_rfl) (by decide) (by rfl) (fun _ _ _ _ => trivial) ?y5 (fun _ _ _ h => h) (fun _ => ⟨M0k0.out.cell 0, M0k1.out.cell 1⟩) ?n5
        case y5 =>
          intro w hSw
          clear hSw
          go_simp
          try with_reducible rfl
        try simp only [Act.put, List.setIfInBounds_toArray, List.set_cons_zero, List.set_cons_succ]
        refine Any.take 1 (some 78) ?v6 [15] (S' := fun w' => w'.cell? ⟨q, 0, none⟩ = some (.slice (some ⟨hb, 0, none⟩) 1 1) ∧ w'.cell? ⟨hb, 1, none⟩ = some (.slice A i c)) rfl rfl (by kernel_rfl) (by kernel_rfl) (by kernel_rfl) (by kernel_rfl) (by kernel_rfl) (by decide) (by rfl) (fun _ _ hl hS => hS (hl 15 (by simp))) ?y6 (fun _ _ _ h => h) (fun _ => ⟨M0k0.out.cell 0, M0k1.out.cell 1⟩) ?n6
        case y6 =>
          intro w hSw
          try dsimp only at hSw
          obtain ⟨s0, s1⟩ := hSw
          go_simp
          try with_reducible rfl
        try simp only [Act.put, List.setIfInBounds_toArray, List.set_cons_zero, List.set_cons_succ]
        refine Any.take 2 (some 79) ?v7 [] (S' := fun _ => True) rfl rfl (by kernel_rfl) (by kernel_rfl) (by kernel_rfl) (by kernel_rfl) (by kernel_rfl) (by decide) (by rfl) (fun _ _ _ _ => trivial) ?y7 (fun _ _ _ h => h) (fun _ => ⟨M0k0.out.cell 0, M0k1.out.cell 1⟩) ?n7
        case y7 =>
          intro w hSw
          clear hSw
          go_simp
          try with_reducible rfl
        try simp only [Act.put, List.setIfInBounds_toArray, List.set_cons_zero, List.set_cons_succ]
        refine Any.take 3 (some 80) ?v8 [15] (S' := fun w' => w'.cell? ⟨q, 0, none⟩ = some (.slice (some ⟨hb, 0, none⟩) 1 1) ∧ w'.cell? ⟨hb, 1, none⟩ = some (.slice A i c)) rfl rfl (by kernel_rfl) (by kernel_rfl) (by kernel_rfl) (by kernel_rfl) (by kernel_rfl) (by decide) (by rfl) (fun _ _ hl hS => hS (hl 15 (by simp))) ?y8 (fun _ _ _ h => h) (fun _ => ⟨M0k0.out.cell 0, M0k1.out.cell 1⟩) ?n8
        case y8 =>
          intro w hSw
          try dsimp only at hSw
          obtain ⟨s0, s1⟩ := hSw
          go_simp
          try with_reducible rfl
        try simp only [Act.put, List.setIfInBounds_toArray, List.set_cons_zero, List.set_cons_succ]
        refine Any.take 4 (some 81) ?v9 [] (S' := fun _ => True) rfl rfl (by kernel_rfl) (by kernel_rfl) (by kernel_rfl) (by kernel_rfl) (by kernel_rfl) (by decide) (by rfl) (fun _ _ _ _ => trivial) ?y9 (fun _ _ _ h => h) (fun _ => ⟨M0k0.out.cell 0, M0k1.out.cell 1⟩) ?n9
        case y9 =>
          intro w hSw
          clear hSw
          go_simp
          try with_reducible rfl
        try simp only [Act.put, List.setIfInBounds_toArray, List.set_cons_zero, List.set_cons_succ]
        refine Any.take 5 (some 82) ?v10 [] (S' := fun _ => True) rfl rfl (by kernel_rfl) (by kernel_rfl) (by kernel_rfl) (by kernel_rfl) (by kernel_rfl) (by decide) (by rfl) (fun _ _ _ _ => trivial) ?y10 (fun _ _ _ h => h) (fun _ => ⟨M0k0.out.cell 0, M0k1.out.cell 1⟩) ?n10
        case y10 =>
          intro w hSw
          clear hSw
          go_simp
          try with_reducible rfl
        try simp only [Act.put, List.setIfInBounds_toArray, List.set_cons_zero, List.set_cons_succ]
        refine Any.take 6 (some 83) ?v11 [15] (S' := fun w' => w'.cell? ⟨q, 0, none⟩ = some (.slice (some ⟨hb, 0, none⟩) 1 1) ∧ w'.cell? ⟨hb, 1, none⟩ = some (.slice A i c)) rfl rfl (by kernel_rfl) (by kernel_rfl) (by kernel_rfl) (by kernel_rfl) (by kernel_rfl) (by decide) (by rfl) (fun _ _ hl hS => hS (hl 15 (by simp))) ?y11 (fun _ _ _ h => h) (fun _ => ⟨M0k0.out.cell 0, M0k1.out.cell 1⟩) ?n11
        case y11 =>
          intro w hSw
          try dsimp only at hSw
          obtain ⟨s0, s1⟩ := hSw
          go_simp
          try with_reducible rfl
        try simp only [Act.put, List.setIfInBounds_toArray, List.set_cons_zero, List.set_cons_succ]
        refine Any.take 7 (some 84) ?v12 [] (S' := fun _ => True) rfl rfl (by kernel_rfl) (by kernel_rfl) (by kernel_rfl) (by kernel_rfl) (by kernel_rfl) (by decide) (by rfl) (fun _ _ _ _ => trivial) ?y12 (fun _ _ _ h => h) (fun _ => ⟨M0k0.out.cell 0, M0k1.out.cell 1⟩) ?n12
        case y12 =>
          intro w hSw
          clear hSw
          go_simp
          try with_reducible rfl
        try simp only [Act.put, List.setIfInBounds_toArray, List.set_cons_zero, List.set_cons_succ]
        refine Any.take 8 (some 85) ?v13 [] (S' := fun _ => True) rfl rfl (by kernel_rfl) (by kernel_rfl) (by kernel_rfl) (by kernel_rfl) (by kernel_rfl) (by decide) (by rfl) (fun _ _ _ _ => trivial) ?y13 (fun _ _ _ h => h) (fun _ => ⟨M0k0.out.cell 0, M0k1.out.cell 1⟩) ?n13
        case y13 =>
          intro w hSw
          clear hSw
          go_simp
          try with_reducible rfl
        try simp only [Act.put, List.setIfInBounds_toArray, List.set_cons_zero, List.set_cons_succ]
        refine Any.up (rs := [9]) (by kernel_rfl) (by simp) ?_
        refine AllUp.cons (i := 9) rfl (fun K hK => ?_) (AllUp.nil)
        have egN := Go.Proofs.enters_of Tryz.func29 (by kernel_rfl) rfl
        go_simp
        refine (HNM.out W0).mono ?_
        rintro e Wc ⟨rfl, bc⟩
        have Mcown : Hid (OwnV encU 4 28 w.heap.size Wc (.slice A i c) ((List.range i).map uB)) := M0own.out.below bc
        have Mck0 : Hid (Bk Wc q 24 #[.slice (some ⟨hb, 0, none⟩) 1 1]) := M0k0.out.below bc M0k0.out.lt
        have Mck1 : Hid (Bk Wc hb 47 #[.string ⟨#[104]⟩, .slice A i c]) := M0k1.out.below bc M0k1.out.lt
        have BWc : Hid (Below w.heap.size w Wc) := BW0.out.trans (bc.mono BW0.out.size)
        clear bc egN
        refine hK.out _ _ (fun _ _ => ⟨Mck0.out.cell 0, Mck1.out.cell 1⟩) ?_
        clear hK K
        try simp only [Act.put, List.setIfInBounds_toArray, List.set_cons_zero, List.set_cons_succ]
        refine Any.up (rs := [10]) (by kernel_rfl) (by simp) ?_
        refine AllUp.cons (i := 10) rfl (fun K hK => ?_) (AllUp.nil)
        go_simp
        refine hK.out _ _ (fun _ _ => ⟨Mck0.out.cell 0, Mck1.out.cell 1⟩) ?_
        clear hK K
        try simp only [Act.put, List.setIfInBounds_toArray, List.set_cons_zero, List.set_cons_succ]
        refine Any.up (rs := [11]) (by kernel_rfl) (by simp) ?_
        refine AllUp.cons (i := 11) rfl (fun K hK => ?_) (AllUp.nil)
        obtain ⟨Wa, hWa⟩ : ∃ W9, Wc.alloc (.cells #[.string NM, .string ⟨#[]⟩, .slice none 0 0, .slice none 0 0] 28) = W9 := ⟨_, rfl⟩
        obtain ⟨ha, hha⟩ : ∃ H9, Wc.heap.size = H9 := ⟨_, rfl⟩
        have ba : Below Wc.heap.size Wc Wa := by rw [← hWa]; exact (Below.refl _ _).alloc (Nat.le_refl _) _
        have Maown : Hid (OwnV encU 4 28 w.heap.size Wa (.slice A i c) ((List.range i).map uB)) := Mcown.out.below ba
        have Mak0 : Hid (Bk Wa q 24 #[.slice (some ⟨hb, 0, none⟩) 1 1]) := Mck0.out.below ba Mck0.out.lt
        have Mak1 : Hid (Bk Wa hb 47 #[.string ⟨#[104]⟩, .slice A i c]) := Mck1.out.below ba Mck1.out.lt
        have NA_ : Hid (Bk Wa ha 28 #[.string NM, .string ⟨#[]⟩, .slice none 0 0, .slice none 0 0]) := by rw [← hWa, ← hha]; exact Bk.new _ _ _
        have BWa : Hid (Below w.heap.size w Wa) := BWc.out.trans (ba.mono BWc.out.size)
        have HWa := Lib.hid hWa
        have HHa := Lib.hid hha
        clear hWa hha ba
        go_simp
        rw [HWa.out, HHa.out]
        refine hK.out _ _ (fun _ _ => ⟨Mak0.out.cell 0, Mak1.out.cell 1⟩) ?_
        clear hK K
        try simp only [Act.put, List.setIfInBounds_toArray, List.set_cons_zero, List.set_cons_succ]
        refine Any.up (rs := [12]) (by kernel_rfl) (by simp) ?_
        refine AllUp.cons (i := 12) rfl (fun K hK => ?_) (AllUp.nil)
        refine stepU_row rfl _ _ rfl w.heap.size (.slice A i c) ⟨ha, 0, none⟩ ((List.range i).map uB) (uB i) w _ BWa.out (Nat.le_refl _) rfl Maown.out rfl (fun j u hj => by rw [add_at, Nat.zero_add, NA_.out.cell, ← Array.getElem?_toList, ← hj]; rw [HEL.out]) (by rw [List.length_map, List.length_range]; omega) ?_
        intro v4 w4 o4 b4 f4
        rw [range_snoc] at o4
        obtain ⟨A4, c4, hv4⟩ := o4.slice
        have hl4 : ((List.range (i + 1)).map uB).length = i + 1 := by simp
        rw [hl4] at hv4
        subst hv4
        have M4own := Lib.hid o4
        have M4k0 : Hid (Bk w4 q 24 #[.slice (some ⟨hb, 0, none⟩) 1 1]) := bk_keep Maown.out Mak0.out (by decide) f4
        have M4k1 : Hid (Bk w4 hb 47 #[.string ⟨#[104]⟩, .slice A i c]) := bk_keep Maown.out Mak1.out (by decide) f4
        have BW4 := Lib.hid b4
        clear o4 b4 f4 hl4
        refine hK.out _ _ (fun _ _ => ⟨M4k0.out.cell 0, M4k1.out.cell 1⟩) ?_
        clear hK K
        try simp only [Act.put, List.setIfInBounds_toArray, List.set_cons_zero, List.set_cons_succ]
        refine Any.up (rs := [13]) (by kernel_rfl) (by simp) ?_
        refine AllUp.cons (i := 13) rfl (fun K hK => ?_) (AllUp.nil)
        go_simp
        refine hK.out _ _ (fun _ _ => ⟨M4k0.out.cell 0, M4k1.out.cell 1⟩) ?_
        clear hK K
        try simp only [Act.put, List.setIfInBounds_toArray, List.set_cons_zero, List.set_cons_succ]
        refine Any.up (rs := [14]) (by kernel_rfl) (by simp) ?_
        refine AllUp.cons (i := 14) rfl (fun K hK => ?_) (AllUp.nil)
        go_simp
        refine hK.out _ _ (fun _ _ => ⟨M4k0.out.cell 0, M4k1.out.cell 1⟩) ?_
        clear hK K
        try simp only [Act.put, List.setIfInBounds_toArray, List.set_cons_zero, List.set_cons_succ]
        refine Any.up (rs := [15]) (by kernel_rfl) (by simp) ?_
        refine AllUp.cons (i := 15) rfl (fun K hK => ?_) (AllUp.nil)
        have y0 := M4k1.out.cell 1
        have y1 := M4k1.out.free 1
        go_simp
        refine hK.out _ _ (fun hne _ => absurd rfl hne) ?_
        clear y0 y1
        clear hK K
        try simp only [Act.put, List.setIfInBounds_toArray, List.set_cons_zero, List.set_cons_succ]
        refine Any.done (by kernel_rfl) ?_ _
        obtain ⟨w5, hw5⟩ : ∃ z, w4.setCell ⟨hb, 1, none⟩ (.slice A4 (i + 1) c4) = z := ⟨_, rfl⟩
        have M5own : Hid (OwnV encU 4 28 w.heap.size w5 (.slice A4 (i + 1) c4) ((List.range (i + 1)).map uB)) := by rw [← hw5]; exact owns_set M4own.out M4k1.out (by decide)
        have M5k0 : Hid (Bk w5 q 24 #[.slice (some ⟨hb, 0, none⟩) 1 1]) := by rw [← hw5]; exact bk_set M4k0.out M4k1.out (by decide)
        have M5k1 : Hid (Bk w5 hb 47 #[.string ⟨#[104]⟩, .slice A4 (i + 1) c4]) := by rw [← hw5]; exact M4k1.out.put 1 _
        have BW5 : Hid (Below w.heap.size w w5) := by rw [← hw5]; exact BW4.out.setCell (p := ⟨hb, 1, none⟩) HLOW.out _
        rw [hw5]
        clear hw5
        clear M0own M0k0 M0k1
        go_wp2_with fail
        go_roundw
        case rel => exact ⟨i + 1, A4, c4, by go_num, by omega, M5own, M5k0, M5k1, BW5⟩
        case measure => simp [intOf]; omega
      · have hiz : ¬ (i : Int) < (N : Int) := by omega
        obtain rfl : i = N := by omega
        have HAW := Lib.hid (seaw_any wr (HO.out.below BWR.out) (HT.out.below BWR.out))
        have rH : RowB encH 2 47 wr hb [(⟨[104], (List.range i).map uB, (A, i, c)⟩ : Hst)] := rowB_bk Ik1.out rfl (fun _ => rfl)
        have RH : Hid (ReadH wr (.slice (some ⟨hb, 0, none⟩) 1 1) [(⟨[104], (List.range i).map uB, (A, i, c)⟩ : Hst)]) := ⟨rH.row rH.lt 1 1 rfl, mem_one ⟨Iown.out.row (fun _ => rfl), map_all (P := fun p : Usr => InU wr p) fun j => in_uB j wr⟩⟩
        have HSM : Hid (∀ h ∈ [(⟨[104], (List.range i).map uB, (A, i, c)⟩ : Hst)], SmH h) := mem_one (smH_big (by decide) (by rw [List.length_map, List.length_range]; omega) (map_all sm_uB))
        have HRG : Hid (rightS [(⟨[104], (List.range i).map uB, (A, i, c)⟩ : Hst)] = decide (i ≤ 20)) := bounds1 i _ HN63.out
        clear rH
        have HLE : Hid ([(⟨[104], (List.range i).map uB, (A, i, c)⟩ : Hst)].length ≤ 1000000) := by unfold Hid; simp
        obtain ⟨LL, hLL⟩ : ∃ l, [(⟨[104], (List.range i).map uB, (A, i, c)⟩ : Hst)] = l := ⟨_, rfl⟩
        rw [hLL] at RH HSM HRG HLE
        clear hLL
        go_wp2_with fail
        refine HAW.out.mono ?_
        rintro e w2 ⟨rfl, b2⟩
        have B2 : Hid (Below w.heap.size w w2) := BWR.out.trans (b2.mono BWR.out.size)
        have HRT := Lib.hid (sright_any _ LL w2 (HO.out.below B2.out) (HT.out.below B2.out) (RH.out.upon b2) HLE.out HSM.out)
        rw [HRG.out] at HRT
        have c0 : w2.cell? ⟨q, 0, none⟩ = some (.slice (some ⟨hb, 0, none⟩) 1 1) := (Ik0.out.below b2 Ik0.out.lt).cell 0
        clear b2 HAW
        by_cases hle : i ≤ 20
        · have hm : i ≤ 20 := hle
          have hmz : (i : Int) ≤ 20 := by omega
          rw [decide_eq_true hm] at HRT
          go_wp2_with fail
          refine HRT.out.mono ?_
          rintro e w3 ⟨rfl, b3⟩
          have B3 : Hid (Below w.heap.size w w3) := B2.out.trans (b3.mono B2.out.size)
          clear b3
          go_wp2_with fail
          go_ret
          exact ⟨by first | rfl | simp [hmz], B3.out⟩
        · have hm : ¬ i ≤ 20 := hle
          have hmz : ¬ (i : Int) ≤ 20 := by omega
          rw [decide_eq_false hm] at HRT
          go_wp2_with fail
          refine HRT.out.mono ?_
          rintro e w3 ⟨rfl, b3⟩
          have B3 : Hid (Below w.heap.size w w3) := B2.out.trans (b3.mono B2.out.size)
          clear b3
          go_wp2_with fail
          go_ret
          exact ⟨by first | rfl | simp [hmz], B3.out⟩
  · have hk : IntKind.i64.wrap ((IntKind.u64.wrap what).tmod 4) = 2 := HK.out
    obtain ⟨N, hN⟩ : ∃ N, 58 + r = N := ⟨_, rfl⟩
    have wN : IntKind.i64.wrap (58 + (r : Int)) = (N : Int) := by rw [IntKind.wrap_i64]; omega
    have HN63 : Hid (N ≤ 63) := by unfold Hid; omega
    have hN62 : N ≤ 62 := by omega
    obtain ⟨ib, hib⟩ : ∃ b, w.heap.size = b := ⟨_, rfl⟩
    obtain ⟨ub, hub⟩ : ∃ b, ib + 1 = b := ⟨_, rfl⟩
    obtain ⟨hb, hhb⟩ : ∃ b, ub + 1 = b := ⟨_, rfl⟩
    obtain ⟨q, hq⟩ : ∃ b, hb + 1 = b := ⟨_, rfl⟩
    obtain ⟨V0, hV0⟩ : ∃ W, w.alloc (.cells #[.int .i64 5, .int .i64 20, .int .i64 60, .int .i64 60] 3) = W := ⟨_, rfl⟩
    have s0 : w.heap.size = ib := hib
    have t0 : V0.heap.size = ib + 1 := by rw [← hV0, World.size_alloc, s0]
    have j0 : Bk V0 ib 3 #[.int .i64 5, .int .i64 20, .int .i64 60, .int .i64 60] := by rw [← hV0, ← s0]; exact Bk.new _ _ _
    have B0 : Below w.heap.size w V0 := by rw [← hV0]; exact (Below.refl _ _).alloc (Nat.le_refl _) _
    obtain ⟨V1, hV1⟩ : ∃ W, V0.alloc (.cells #[.string ⟨#[117]⟩, .string ⟨#[]⟩, .slice none 0 0, .slice none 0 0] 28) = W := ⟨_, rfl⟩
    have s1 : V0.heap.size = ub := by rw [t0, hub]
    have t1 : V1.heap.size = ub + 1 := by rw [← hV1, World.size_alloc, s1]
    have j1 : Bk V1 ub 28 #[.string ⟨#[117]⟩, .string ⟨#[]⟩, .slice none 0 0, .slice none 0 0] := by rw [← hV1, ← s1]; exact Bk.new _ _ _
    have B1 : Below w.heap.size w V1 := by rw [← hV1]; exact B0.alloc (by omega) _
    obtain ⟨V2, hV2⟩ : ∃ W, V1.alloc (.cells #[.string ⟨#[104]⟩, .slice (some ⟨ub, 0, none⟩) 1 1] 47) = W := ⟨_, rfl⟩
    have s2 : V1.heap.size = hb := by rw [t1, hhb]
    have t2 : V2.heap.size = hb + 1 := by rw [← hV2, World.size_alloc, s2]
    have j2 : Bk V2 hb 47 #[.string ⟨#[104]⟩, .slice (some ⟨ub, 0, none⟩) 1 1] := by rw [← hV2, ← s2]; exact Bk.new _ _ _
    have B2 : Below w.heap.size w V2 := by rw [← hV2]; exact B1.alloc (by omega) _
    obtain ⟨V3, hV3⟩ : ∃ W, V2.alloc (.cells #[.slice none 0 0] 24) = W := ⟨_, rfl⟩
    have s3 : V2.heap.size = q := by rw [t2, hq]
    have t3 : V3.heap.size = q + 1 := by rw [← hV3, World.size_alloc, s3]
    have j3 : Bk V3 q 24 #[.slice none 0 0] := by rw [← hV3, ← s3]; exact Bk.new _ _ _
    have B3 : Below w.heap.size w V3 := by rw [← hV3]; exact B2.alloc (by omega) _
    have iK : V0.cell? ⟨ib, 2, none⟩ = some (.int .i64 60) := j0.cell 2
    have z0 : V3.cell? ⟨q, 0, none⟩ = some (.slice none 0 0) := j3.cell 0
    have zf0 : V3.frozen? ⟨q, 0, none⟩ = false := j3.free 0
    obtain ⟨V4, hV4⟩ : ∃ z, V3.setCell ⟨q, 0, none⟩ (.slice (some ⟨hb, 0, none⟩) 1 1) = z := ⟨_, rfl⟩
    have k4 : Bk V4 q 24 #[.slice (some ⟨hb, 0, none⟩) 1 1] := by rw [← hV4]; exact j3.put 0 _
    have B4 : Below w.heap.size w V4 := by rw [← hV4]; exact B3.setCell (p := ⟨q, 0, none⟩) (by show w.heap.size ≤ q; omega) _
    have kh : Bk V4 hb 47 #[.string ⟨#[104]⟩, .slice (some ⟨ub, 0, none⟩) 1 1] := by rw [← hV4, ← hV3]; exact (j2.alloc _).far (p := ⟨q, 0, none⟩) (by show hb ≠ q; omega) _
    have ku : Bk V4 ub 28 #[.string ⟨#[117]⟩, .string ⟨#[]⟩, .slice none 0 0, .slice none 0 0] := by rw [← hV4, ← hV3, ← hV2]; exact ((j1.alloc _).alloc _).far (p := ⟨q, 0, none⟩) (by show ub ≠ q; omega) _
    have J0own : Hid (OwnV encIS 6 53 w.heap.size V4 (.slice none 0 0) ((List.range 0).map iB)) := OwnV.nil
    have J0k0 : Hid (Bk V4 q 24 #[.slice (some ⟨hb, 0, none⟩) 1 1]) := k4
    have J0k1 : Hid (Bk V4 hb 47 #[.string ⟨#[104]⟩, .slice (some ⟨ub, 0, none⟩) 1 1]) := kh
    have J0k2 : Hid (Bk V4 ub 28 #[.string ⟨#[117]⟩, .string ⟨#[]⟩, .slice none 0 0, .slice none 0 0]) := ku
    have BJ : Hid (Below w.heap.size w V4) := B4
    have HLOW : Hid (w.heap.size ≤ ub) := by unfold Hid; omega
    have HEV0 := Lib.hid hV0
    have HEV1 := Lib.hid hV1
    have HEV2 := Lib.hid hV2
    have HEV3 := Lib.hid hV3
    have HEV4 := Lib.hid hV4
    have HIB := Lib.hid hib
    have HBub := Lib.hid hub
    have HBhb := Lib.hid hhb
    have HBq := Lib.hid hq
    go_enter Tryz.func7, Tryz.ntmps7
    go_wp2_with fail
    (try rw [hV0])
    (try rw [hV1])
    (try rw [hV2])
    (try rw [hV3])
    (try rw [hV4])
    clear hV0 hV1 hV2 hV3 hV4 hib hub hhb hq
    go_loopw [8] (fun iv wr => ∃ (i : Nat) (A : Option Addr) (c : Nat), iv = .int .i64 (i : Nat) ∧ i ≤ N ∧ Hid (OwnV encIS 6 53 w.heap.size wr (.slice A i c) ((List.range i).map iB)) ∧ Hid (Bk wr q 24 #[.slice (some ⟨hb, 0, none⟩) 1 1]) ∧ Hid (Bk wr hb 47 #[.string ⟨#[104]⟩, .slice (some ⟨ub, 0, none⟩) 1 1]) ∧ Hid (Bk wr ub 28 #[.string ⟨#[117]⟩, .string ⟨#[]⟩, .slice A i c, .slice none 0 0]) ∧ Hid (Below w.heap.size w wr)) (fun iv _ => N - (intOf iv).toNat)
    case atStart => exact ⟨0, none, 0, rfl, Nat.zero_le _, J0own, J0k0, J0k1, J0k2, BJ.out⟩
    case round =>
      obtain ⟨i, A, c, rfl, hi, Iown, Ik0, Ik1, Ik2, BWR⟩ := hrel
      by_cases hin : i < N
      · have hiz : (i : Int) < (N : Int) := by omega
        have hnm := fun W => name_any i (by omega) W
        obtain ⟨NM, hNM⟩ : ∃ z, bts (nmB i) = z := ⟨_, rfl⟩
        rw [hNM] at hnm
        have HNM := Lib.hid hnm
        have hjz : ¬ (9223372036854775807 < NM.size + 2) := by rw [← hNM, Lib.size_eq]; simp [nmB]
        have hbp : bts (pB i) = NM ++ ⟨#[64, 104]⟩ := by rw [← hNM]; rfl
        obtain ⟨NA, hNA⟩ : ∃ z, NM ++ (⟨#[64, 104]⟩ : ByteArray) = z := ⟨_, rfl⟩
        rw [hNA] at hbp
        have HNA := Lib.hid hNA
        have HEL : Hid (encIS (iB i) = [.string NA, .string ⟨#[]⟩, .slice none 0 0, .int .i64 0, .bool false, .bool false]) := by unfold Hid; rw [← hbp]; rfl
        clear hnm hNM hbp hNA
        go_upto_region 20 with fail
        obtain ⟨W0, hW0⟩ : ∃ W0, wr.drew = W0 := ⟨_, rfl⟩
        have b0 : Below wr.heap.size wr W0 := by rw [← hW0]; exact (Below.refl _ _).drew
        have M0own : Hid (OwnV encIS 6 53 w.heap.size W0 (.slice A i c) ((List.range i).map iB)) := Iown.out.below b0
        have M0k0 : Hid (Bk W0 q 24 #[.slice (some ⟨hb, 0, none⟩) 1 1]) := Ik0.out.below b0 Ik0.out.lt
        have M0k1 : Hid (Bk W0 hb 47 #[.string ⟨#[104]⟩, .slice (some ⟨ub, 0, none⟩) 1 1]) := Ik1.out.below b0 Ik1.out.lt
        have M0k2 : Hid (Bk W0 ub 28 #[.string ⟨#[117]⟩, .string ⟨#[]⟩, .slice A i c, .slice none 0 0]) := Ik2.out.below b0 Ik2.out.lt
        have BW0 : Hid (Below w.heap.size w W0) := BWR.out.trans (b0.mono BWR.out.size)
        have HW0 := Lib.hid hW0
        clear hW0 b0
        refine any_region (fun w' => w'.cell? ⟨q, 0, none⟩ = some (.slice (some ⟨hb, 0, none⟩) 1 1) ∧ w'.cell? ⟨hb, 1, none⟩ = some (.slice (some ⟨ub, 0, none⟩) 1 1) ∧ w'.cell? ⟨ub, 2, none⟩ = some (.slice A i c)) 22 (by kernel_rfl) ?_
        rw [HW0.out]
        refine Any.take 0 (some 94) ?v14 [] (S' := fun _ => True) rfl rfl (by kernel_rfl) (by kernel_rfl) (by kernel_rfl) (by kernel_rfl) (by kernel_rfl) (by decide) (by rfl) (fun _ _ _ _ => trivial) ?y14 (fun _ _ _ h => h) (fun _ => ⟨M0k0.out.cell 0, M0k1.out.cell 1, M0k2.out.cell 2⟩) ?n14
        case y14 =>
          intro w hSw
          clear hSw
          go_simp
          try with_reducible rfl
        try simp only [Act.put, List.setIfInBounds_toArray, List.set_cons_zero, List.set_cons_succ]
        refine Any.take 1 (some 95) ?v15 [22] (S' := fun w' => w'.cell? ⟨q, 0, none⟩ = some (.slice (some ⟨hb, 0, none⟩) 1 1) ∧ w'.cell? ⟨hb, 1, none⟩ = some (.slice (some ⟨ub, 0, none⟩) 1 1) ∧ w'.cell? ⟨ub, 2, none⟩ = some (.slice A i c)) rfl rfl (by kernel_rfl) (by kernel_rfl) (by kernel_rfl) (by kernel_rfl) (by kernel_rfl) (by decide) (by rfl) (fun _ _ hl hS => hS (hl 22 (by simp))) ?y15 (fun _ _ _ h => h) (fun _ => ⟨M0k0.out.cell 0, M0k1.out.cell 1, M0k2.out.cell 2⟩) ?n15
        case y15 =>
          intro w hSw
          try dsimp only at hSw
          obtain ⟨s0, s1, s2⟩ := hSw
          go_simp
          try with_reducible rfl
        try simp only [Act.put, List.setIfInBounds_toArray, List.set_cons_zero, List.set_cons_succ]
        refine Any.take 2 (some 96) ?v16 [] (S' := fun _ => True) rfl rfl (by kernel_rfl) (by kernel_rfl) (by kernel_rfl) (by kernel_rfl) (by kernel_rfl) (by decide) (by rfl) (fun _ _ _ _ => trivial) ?y16 (fun _ _ _ h => h) (fun _ => ⟨M0k0.out.cell 0, M0k1.out.cell 1, M0k2.out.cell 2⟩) ?n16
        case y16 =>
          intro w hSw
          clear hSw
          go_simp
          try with_reducible rfl
        try simp only [Act.put, List.setIfInBounds_toArray, List.set_cons_zero, List.set_cons_succ]
        refine Any.take 3 (some 97) ?v17 [] (S' := fun _ => True) rfl rfl (by kernel_rfl) (by kernel_rfl) (by kernel_rfl) (by kernel_rfl) (by kernel_rfl) (by decide) (by rfl) (fun _ _ _ _ => trivial) ?y17 (fun _ _ _ h => h) (fun _ => ⟨M0k0.out.cell 0, M0k1.out.cell 1, M0k2.out.cell 2⟩) ?n17
        case y17 =>
          intro w hSw
          clear hSw
          go_simp
          try with_reducible rfl
        try simp only [Act.put, List.setIfInBounds_toArray, List.set_cons_zero, List.set_cons_succ]
        refine Any.take 4 (some 98) ?v18 [22] (S' := fun w' => w'.cell? ⟨q, 0, none⟩ = some (.slice (some ⟨hb, 0, none⟩) 1 1) ∧ w'.cell? ⟨hb, 1, none⟩ = some (.slice (some ⟨ub, 0, none⟩) 1 1) ∧ w'.cell? ⟨ub, 2, none⟩ = some (.slice A i c)) rfl rfl (by kernel_rfl) (by kernel_rfl) (by kernel_rfl) (by kernel_rfl) (by kernel_rfl) (by decide) (by rfl) (fun _ _ hl hS => hS (hl 22 (by simp))) ?y18 (fun _ _ _ h => h) (fun _ => ⟨M0k0.out.cell 0, M0k1.out.cell 1, M0k2.out.cell 2⟩) ?n18
        case y18 =>
          intro w hSw
          try dsimp only at hSw
          obtain ⟨s0, s1, s2⟩ := hSw
          go_simp
          try with_reducible rfl
        try simp only [Act.put, List.setIfInBounds_toArray, List.set_cons_zero, List.set_cons_succ]
        refine Any.take 5 (some 99) ?v19 [] (S' := fun _ => True) rfl rfl (by kernel_rfl) (by kernel_rfl) (by kernel_rfl) (by kernel_rfl) (by kernel_rfl) (by decide) (by rfl) (fun _ _ _ _ => trivial) ?y19 (fun _ _ _ h => h) (fun _ => ⟨M0k0.out.cell 0, M0k1.out.cell 1, M0k2.out.cell 2⟩) ?n19
        case y19 =>
          intro w hSw
          clear hSw
          go_simp
          try with_reducible rfl
        try simp only [Act.put, List.setIfInBounds_toArray, List.set_cons_zero, List.set_cons_succ]
        refine Any.take 6 (some 100) ?v20 [22] (S' := fun w' => w'.cell? ⟨q, 0, none⟩ = some (.slice (some ⟨hb, 0, none⟩) 1 1) ∧ w'.cell? ⟨hb, 1, none⟩ = some (.slice (some ⟨ub, 0, none⟩) 1 1) ∧ w'.cell? ⟨ub, 2, none⟩ = some (.slice A i c)) rfl rfl (by kernel_rfl) (by kernel_rfl) (by kernel_rfl) (by kernel_rfl) (by kernel_rfl) (by decide) (by rfl) (fun _ _ hl hS => hS (hl 22 (by simp))) ?y20 (fun _ _ _ h => h) (fun _ => ⟨M0k0.out.cell 0, M0k1.out.cell 1, M0k2.out.cell 2⟩) ?n20
        case y20 =>
          intro w hSw
          try dsimp only at hSw
          obtain ⟨s0, s1, s2⟩ := hSw
          go_simp
          try with_reducible rfl
        try simp only [Act.put, List.setIfInBounds_toArray, List.set_cons_zero, List.set_cons_succ]
        refine Any.take 7 (some 101) ?v21 [] (S' := fun _ => True) rfl rfl (by kernel_rfl) (by kernel_rfl) (by kernel_rfl) (by kernel_rfl) (by kernel_rfl) (by decide) (by rfl) (fun _ _ _ _ => trivial) ?y21 (fun _ _ _ h => h) (fun _ => ⟨M0k0.out.cell 0, M0k1.out.cell 1, M0k2.out.cell 2⟩) ?n21
        case y21 =>
          intro w hSw
          clear hSw
          go_simp
          try with_reducible rfl
        try simp only [Act.put, List.setIfInBounds_toArray, List.set_cons_zero, List.set_cons_succ]
        refine Any.take 8 (some 102) ?v22 [] (S' := fun _ => True) rfl rfl (by kernel_rfl) (by kernel_rfl) (by kernel_rfl) (by kernel_rfl) (by kernel_rfl) (by decide) (by rfl) (fun _ _ _ _ => trivial) ?y22 (fun _ _ _ h => h) (fun _ => ⟨M0k0.out.cell 0, M0k1.out.cell 1, M0k2.out.cell 2⟩) ?n22
        case y22 =>
          intro w hSw
          clear hSw
          go_simp
          try with_reducible rfl
        try simp only [Act.put, List.setIfInBounds_toArray, List.set_cons_zero, List.set_cons_succ]
        refine Any.take 9 (some 103) ?v23 [22] (S' := fun w' => w'.cell? ⟨q, 0, none⟩ = some (.slice (some ⟨hb, 0, none⟩) 1 1) ∧ w'.cell? ⟨hb, 1, none⟩ = some (.slice (some ⟨ub, 0, none⟩) 1 1) ∧ w'.cell? ⟨ub, 2, none⟩ = some (.slice A i c)) rfl rfl (by kernel_rfl) (by kernel_rfl) (by kernel_rfl) (by kernel_rfl) (by kernel_rfl) (by decide) (by rfl) (fun _ _ hl hS => hS (hl 22 (by simp))) ?y23 (fun _ _ _ h => h) (fun _ => ⟨M0k0.out.cell 0, M0k1.out.cell 1, M0k2.out.cell 2⟩) ?n23
        case y23 =>
          intro w hSw
          try dsimp only at hSw
          obtain ⟨s0, s1, s2⟩ := hSw
          go_simp
          try with_reducible rfl
        try simp only [Act.put, List.setIfInBounds_toArray, List.set_cons_zero, List.set_cons_succ]
        refine Any.take 10 (some 104) ?v24 [] (S' := fun _ => True) rfl rfl (by kernel_rfl) (by kernel_rfl) (by kernel_rfl) (by kernel_rfl) (by kernel_rfl) (by decide) (by rfl) (fun _ _ _ _ => trivial) ?y24 (fun _ _ _ h => h) (fun _ => ⟨M0k0.out.cell 0, M0k1.out.cell 1, M0k2.out.cell 2⟩) ?n24
        case y24 =>
          intro w hSw
          clear hSw
          go_simp
          try with_reducible rfl
        try simp only [Act.put, List.setIfInBounds_toArray, List.set_cons_zero, List.set_cons_succ]
        refine Any.take 11 (some 105) ?v25 [] (S' := fun _ => True) rfl rfl (by kernel_rfl) (by kernel_rfl) (by kernel_rfl) (by kernel_rfl) (by kernel_rfl) (by decide) (by rfl) (fun _ _ _ _ => trivial) ?y25 (fun _ _ _ h => h) (fun _ => ⟨M0k0.out.cell 0, M0k1.out.cell 1, M0k2.out.cell 2⟩) ?n25
        case y25 =>
          intro w hSw
          clear hSw
          go_simp
          try with_reducible rfl
        try simp only [Act.put, List.setIfInBounds_toArray, List.set_cons_zero, List.set_cons_succ]
        refine Any.take 12 (some 106) ?v26 [22] (S' := fun w' => w'.cell? ⟨q, 0, none⟩ = some (.slice (some ⟨hb, 0, none⟩) 1 1) ∧ w'.cell? ⟨hb, 1, none⟩ = some (.slice (some ⟨ub, 0, none⟩) 1 1) ∧ w'.cell? ⟨ub, 2, none⟩ = some (.slice A i c)) rfl rfl (by kernel_rfl) (by kernel_rfl) (by kernel_rfl) (by kernel_rfl) (by kernel_rfl) (by decide) (by rfl) (fun _ _ hl hS => hS (hl 22 (by simp))) ?y26 (fun _ _ _ h => h) (fun _ => ⟨M0k0.out.cell 0, M0k1.out.cell 1, M0k2.out.cell 2⟩) ?n26
        case y26 =>
          intro w hSw
          try dsimp only at hSw
          obtain ⟨s0, s1, s2⟩ := hSw
          go_simp
          try with_reducible rfl
        try simp only [Act.put, List.setIfInBounds_toArray, List.set_cons_zero, List.set_cons_succ]
        refine Any.take 13 (some 107) ?v27 [] (S' := fun _ => True) rfl rfl (by kernel_rfl) (by kernel_rfl) (by kernel_rfl) (by kernel_rfl) (by kernel_rfl) (by decide) (by rfl) (fun _ _ _ _ => trivial) ?y27 (fun _ _ _ h => h) (fun _ => ⟨M0k0.out.cell 0, M0k1.out.cell 1, M0k2.out.cell 2⟩) ?n27
        case y27 =>
          intro w hSw
          clear hSw
          go_simp
          try with_reducible rfl
        try simp only [Act.put, List.setIfInBounds_toArray, List.set_cons_zero, List.set_cons_succ]
        refine Any.take 14 (some 108) ?v28 [] (S' := fun _ => True) rfl rfl (by kernel_rfl) (by kernel_rfl) (by kernel_rfl) (by kernel_rfl) (by kernel_rfl) (by decide) (by rfl) (fun _ _ _ _ => trivial) ?y28 (fun _ _ _ h => h) (fun _ => ⟨M0k0.out.cell 0, M0k1.out.cell 1, M0k2.out.cell 2⟩) ?n28
        case y28 =>
          intro w hSw
          clear hSw
          go_simp
          try with_reducible rfl
        try simp only [Act.put, List.setIfInBounds_toArray, List.set_cons_zero, List.set_cons_succ]
        refine Any.up (rs := [15]) (by kernel_rfl) (by simp) ?_
        refine AllUp.cons (i := 15) rfl (fun K hK => ?_) (AllUp.nil)
        have egN := Go.Proofs.enters_of Tryz.func29 (by kernel_rfl) rfl
        go_simp
        refine (HNM.out W0).mono ?_
        rintro e Wc ⟨rfl, bc⟩
        have Mcown : Hid (OwnV encIS 6 53 w.heap.size Wc (.slice A i c) ((List.range i).map iB)) := M0own.out.below bc
        have Mck0 : Hid (Bk Wc q 24 #[.slice (some ⟨hb, 0, none⟩) 1 1]) := M0k0.out.below bc M0k0.out.lt
        have Mck1 : Hid (Bk Wc hb 47 #[.string ⟨#[104]⟩, .slice (some ⟨ub, 0, none⟩) 1 1]) := M0k1.out.below bc M0k1.out.lt
        have Mck2 : Hid (Bk Wc ub 28 #[.string ⟨#[117]⟩, .string ⟨#[]⟩, .slice A i c, .slice none 0 0]) := M0k2.out.below bc M0k2.out.lt
        have BWc : Hid (Below w.heap.size w Wc) := BW0.out.trans (bc.mono BW0.out.size)
        clear bc egN
        refine hK.out _ _ (fun _ _ => ⟨Mck0.out.cell 0, Mck1.out.cell 1, Mck2.out.cell 2⟩) ?_
        clear hK K
        try simp only [Act.put, List.setIfInBounds_toArray, List.set_cons_zero, List.set_cons_succ]
        refine Any.up (rs := [16]) (by kernel_rfl) (by simp) ?_
        refine AllUp.cons (i := 16) rfl (fun K hK => ?_) (AllUp.nil)
        go_simp
        (try rw [HNA.out])
        refine hK.out _ _ (fun _ _ => ⟨Mck0.out.cell 0, Mck1.out.cell 1, Mck2.out.cell 2⟩) ?_
        clear hK K
        try simp only [Act.put, List.setIfInBounds_toArray, List.set_cons_zero, List.set_cons_succ]
        refine Any.up (rs := [17]) (by kernel_rfl) (by simp) ?_
        refine AllUp.cons (i := 17) rfl (fun K hK => ?_) (AllUp.nil)
        go_simp
        refine hK.out _ _ (fun _ _ => ⟨Mck0.out.cell 0, Mck1.out.cell 1, Mck2.out.cell 2⟩) ?_
        clear hK K
        try simp only [Act.put, List.setIfInBounds_toArray, List.set_cons_zero, List.set_cons_succ]
        refine Any.up (rs := [18]) (by kernel_rfl) (by simp) ?_
        refine AllUp.cons (i := 18) rfl (fun K hK => ?_) (AllUp.nil)
        obtain ⟨Wa, hWa⟩ : ∃ W9, Wc.alloc (.cells #[.string NA, .string ⟨#[]⟩, .slice none 0 0, .int .i64 0, .bool false, .bool false] 53) = W9 := ⟨_, rfl⟩
        obtain ⟨ha, hha⟩ : ∃ H9, Wc.heap.size = H9 := ⟨_, rfl⟩
        have ba : Below Wc.heap.size Wc Wa := by rw [← hWa]; exact (Below.refl _ _).alloc (Nat.le_refl _) _
        have Maown : Hid (OwnV encIS 6 53 w.heap.size Wa (.slice A i c) ((List.range i).map iB)) := Mcown.out.below ba
        have Mak0 : Hid (Bk Wa q 24 #[.slice (some ⟨hb, 0, none⟩) 1 1]) := Mck0.out.below ba Mck0.out.lt
        have Mak1 : Hid (Bk Wa hb 47 #[.string ⟨#[104]⟩, .slice (some ⟨ub, 0, none⟩) 1 1]) := Mck1.out.below ba Mck1.out.lt
        have Mak2 : Hid (Bk Wa ub 28 #[.string ⟨#[117]⟩, .string ⟨#[]⟩, .slice A i c, .slice none 0 0]) := Mck2.out.below ba Mck2.out.lt
        have NA_ : Hid (Bk Wa ha 53 #[.string NA, .string ⟨#[]⟩, .slice none 0 0, .int .i64 0, .bool false, .bool false]) := by rw [← hWa, ← hha]; exact Bk.new _ _ _
        have BWa : Hid (Below w.heap.size w Wa) := BWc.out.trans (ba.mono BWc.out.size)
        have HWa := Lib.hid hWa
        have HHa := Lib.hid hha
        clear hWa hha ba
        go_simp
        rw [HWa.out, HHa.out]
        refine hK.out _ _ (fun _ _ => ⟨Mak0.out.cell 0, Mak1.out.cell 1, Mak2.out.cell 2⟩) ?_
        clear hK K
        try simp only [Act.put, List.setIfInBounds_toArray, List.set_cons_zero, List.set_cons_succ]
        refine Any.up (rs := [19]) (by kernel_rfl) (by simp) ?_
        refine AllUp.cons (i := 19) rfl (fun K hK => ?_) (AllUp.nil)
        refine stepI_row rfl _ _ rfl w.heap.size (.slice A i c) ⟨ha, 0, none⟩ ((List.range i).map iB) (iB i) w _ BWa.out (Nat.le_refl _) rfl Maown.out rfl (fun j u hj => by rw [add_at, Nat.zero_add, NA_.out.cell, ← Array.getElem?_toList, ← hj]; rw [HEL.out]) (by rw [List.length_map, List.length_range]; omega) ?_
        intro v4 w4 o4 b4 f4
        rw [range_snoc] at o4
        obtain ⟨A4, c4, hv4⟩ := o4.slice
        have hl4 : ((List.range (i + 1)).map iB).length = i + 1 := by simp
        rw [hl4] at hv4
        subst hv4
        have M4own := Lib.hid o4
        have M4k0 : Hid (Bk w4 q 24 #[.slice (some ⟨hb, 0, none⟩) 1 1]) := bk_keep Maown.out Mak0.out (by decide) f4
        have M4k1 : Hid (Bk w4 hb 47 #[.string ⟨#[104]⟩, .slice (some ⟨ub, 0, none⟩) 1 1]) := bk_keep Maown.out Mak1.out (by decide) f4
        have M4k2 : Hid (Bk w4 ub 28 #[.string ⟨#[117]⟩, .string ⟨#[]⟩, .slice A i c, .slice none 0 0]) := bk_keep Maown.out Mak2.out (by decide) f4
        have BW4 := Lib.hid b4
        clear o4 b4 f4 hl4
        refine hK.out _ _ (fun _ _ => ⟨M4k0.out.cell 0, M4k1.out.cell 1, M4k2.out.cell 2⟩) ?_
        clear hK K
        try simp only [Act.put, List.setIfInBounds_toArray, List.set_cons_zero, List.set_cons_succ]
        refine Any.up (rs := [20]) (by kernel_rfl) (by simp) ?_
        refine AllUp.cons (i := 20) rfl (fun K hK => ?_) (AllUp.nil)
        go_simp
        refine hK.out _ _ (fun _ _ => ⟨M4k0.out.cell 0, M4k1.out.cell 1, M4k2.out.cell 2⟩) ?_
        clear hK K
        try simp only [Act.put, List.setIfInBounds_toArray, List.set_cons_zero, List.set_cons_succ]
        refine Any.up (rs := [21]) (by kernel_rfl) (by simp) ?_
        refine AllUp.cons (i := 21) rfl (fun K hK => ?_) (AllUp.nil)
        go_simp
        refine hK.out _ _ (fun _ _ => ⟨M4k0.out.cell 0, M4k1.out.cell 1, M4k2.out.cell 2⟩) ?_
        clear hK K
        try simp only [Act.put, List.setIfInBounds_toArray, List.set_cons_zero, List.set_cons_succ]
        refine Any.up (rs := [22]) (by kernel_rfl) (by simp) ?_
        refine AllUp.cons (i := 22) rfl (fun K hK => ?_) (AllUp.nil)
        have y0 := M4k2.out.cell 2
        have y1 := M4k2.out.free 2
        go_simp
        refine hK.out _ _ (fun hne _ => absurd rfl hne) ?_
        clear y0 y1
        clear hK K
        try simp only [Act.put, List.setIfInBounds_toArray, List.set_cons_zero, List.set_cons_succ]
        refine Any.done (by kernel_rfl) ?_ _
        obtain ⟨w5, hw5⟩ : ∃ z, w4.setCell ⟨ub, 2, none⟩ (.slice A4 (i + 1) c4) = z := ⟨_, rfl⟩
        have M5own : Hid (OwnV encIS 6 53 w.heap.size w5 (.slice A4 (i + 1) c4) ((List.range (i + 1)).map iB)) := by rw [← hw5]; exact owns_set M4own.out M4k2.out (by decide)
        have M5k0 : Hid (Bk w5 q 24 #[.slice (some ⟨hb, 0, none⟩) 1 1]) := by rw [← hw5]; exact bk_set M4k0.out M4k2.out (by decide)
        have M5k1 : Hid (Bk w5 hb 47 #[.string ⟨#[104]⟩, .slice (some ⟨ub, 0, none⟩) 1 1]) := by rw [← hw5]; exact bk_set M4k1.out M4k2.out (by decide)
        have M5k2 : Hid (Bk w5 ub 28 #[.string ⟨#[117]⟩, .string ⟨#[]⟩, .slice A4 (i + 1) c4, .slice none 0 0]) := by rw [← hw5]; exact M4k2.out.put 2 _
        have BW5 : Hid (Below w.heap.size w w5) := by rw [← hw5]; exact BW4.out.setCell (p := ⟨ub, 2, none⟩) HLOW.out _
        rw [hw5]
        clear hw5
        clear M0own M0k0 M0k1 M0k2
        go_wp2_with fail
        go_roundw
        case rel => exact ⟨i + 1, A4, c4, by go_num, by omega, M5own, M5k0, M5k1, M5k2, BW5⟩
        case measure => simp [intOf]; omega
      · have hiz : ¬ (i : Int) < (N : Int) := by omega
        obtain rfl : i = N := by omega
        have HAW := Lib.hid (seaw_any wr (HO.out.below BWR.out) (HT.out.below BWR.out))
        have rU : RowB encU 4 28 wr ub [(⟨[117], [], (List.range i).map iB, (A, i, c), [], (none, 0, 0)⟩ : Usr)] := rowB_bk Ik2.out rfl (fun _ => rfl)
        have rH : RowB encH 2 47 wr hb [(⟨[104], [⟨[117], [], (List.range i).map iB, (A, i, c), [], (none, 0, 0)⟩], (some ⟨ub, 0, none⟩, 1, 1)⟩ : Hst)] := rowB_bk Ik1.out rfl (fun _ => rfl)
        have RH : Hid (ReadH wr (.slice (some ⟨hb, 0, none⟩) 1 1) [(⟨[104], [⟨[117], [], (List.range i).map iB, (A, i, c), [], (none, 0, 0)⟩], (some ⟨ub, 0, none⟩, 1, 1)⟩ : Hst)]) := ⟨rH.row rH.lt 1 1 rfl, mem_one ⟨rU.row rU.lt 1 1 rfl, mem_one ⟨readI_bare (Iown.out.row (fun _ => rfl)) (map_all (P := fun p : Itm × Slc => p.1.groups = [] ∧ p.2 = (none, 0, 0)) fun j => ⟨rfl, rfl⟩), readT_nil wr _ 0⟩⟩⟩
        have HSM : Hid (∀ h ∈ [(⟨[104], [⟨[117], [], (List.range i).map iB, (A, i, c), [], (none, 0, 0)⟩], (some ⟨ub, 0, none⟩, 1, 1)⟩ : Hst)], SmH h) := mem_one (smH_big (by decide) (by simp) (mem_one ⟨by simp, by simp, by simp; omega, map_all (P := fun p : Itm × Slc => SmI p.1) sm_iB, by simp, fun t ht => absurd ht (by simp)⟩))
        have HRG : Hid (rightS [(⟨[104], [⟨[117], [], (List.range i).map iB, (A, i, c), [], (none, 0, 0)⟩], (some ⟨ub, 0, none⟩, 1, 1)⟩ : Hst)] = decide (i ≤ 60)) := bounds2 i _ _ _ HN63.out
        clear rH rU
        have HLE : Hid ([(⟨[104], [⟨[117], [], (List.range i).map iB, (A, i, c), [], (none, 0, 0)⟩], (some ⟨ub, 0, none⟩, 1, 1)⟩ : Hst)].length ≤ 1000000) := by unfold Hid; simp
        obtain ⟨LL, hLL⟩ : ∃ l, [(⟨[104], [⟨[117], [], (List.range i).map iB, (A, i, c), [], (none, 0, 0)⟩], (some ⟨ub, 0, none⟩, 1, 1)⟩ : Hst)] = l := ⟨_, rfl⟩
        rw [hLL] at RH HSM HRG HLE
        clear hLL
        go_wp2_with fail
        refine HAW.out.mono ?_
        rintro e w2 ⟨rfl, b2⟩
        have B2 : Hid (Below w.heap.size w w2) := BWR.out.trans (b2.mono BWR.out.size)
        have HRT := Lib.hid (sright_any _ LL w2 (HO.out.below B2.out) (HT.out.below B2.out) (RH.out.upon b2) HLE.out HSM.out)
        rw [HRG.out] at HRT
        have c0 : w2.cell? ⟨q, 0, none⟩ = some (.slice (some ⟨hb, 0, none⟩) 1 1) := (Ik0.out.below b2 Ik0.out.lt).cell 0
        clear b2 HAW
        by_cases hle : i ≤ 60
        · have hm : i ≤ 60 := hle
          have hmz : (i : Int) ≤ 60 := by omega
          rw [decide_eq_true hm] at HRT
          go_wp2_with fail
          refine HRT.out.mono ?_
          rintro e w3 ⟨rfl, b3⟩
          have B3 : Hid (Below w.heap.size w w3) := B2.out.trans (b3.mono B2.out.size)
          clear b3
          go_wp2_with fail
          go_ret
          exact ⟨by first | rfl | simp [hmz], B3.out⟩
        · have hm : ¬ i ≤ 60 := hle
          have hmz : ¬ (i : Int) ≤ 60 := by omega
          rw [decide_eq_false hm] at HRT
          go_wp2_with fail
          refine HRT.out.mono ?_
          rintro e w3 ⟨rfl, b3⟩
          have B3 : Hid (Below w.heap.size w w3) := B2.out.trans (b3.mono B2.out.size)
          clear b3
          go_wp2_with fail
          go_ret
          exact ⟨by first | rfl | simp [hmz], B3.out⟩
  · have hk : IntKind.i64.wrap ((IntKind.u64.wrap what).tmod 4) = 3 := HK.out
    obtain ⟨N, hN⟩ : ∃ N, 58 + r = N := ⟨_, rfl⟩
    have wN : IntKind.i64.wrap (58 + (r : Int)) = (N : Int) := by rw [IntKind.wrap_i64]; omega
    have HN63 : Hid (N ≤ 63) := by unfold Hid; omega
    have hN62 : N ≤ 62 := by omega
    obtain ⟨ib, hib⟩ : ∃ b, w.heap.size = b := ⟨_, rfl⟩
    obtain ⟨ub, hub⟩ : ∃ b, ib + 1 = b := ⟨_, rfl⟩
    obtain ⟨hb, hhb⟩ : ∃ b, ub + 1 = b := ⟨_, rfl⟩
    obtain ⟨q, hq⟩ : ∃ b, hb + 1 = b := ⟨_, rfl⟩
    obtain ⟨V0, hV0⟩ : ∃ W, w.alloc (.cells #[.int .i64 5, .int .i64 20, .int .i64 60, .int .i64 60] 3) = W := ⟨_, rfl⟩
    have s0 : w.heap.size = ib := hib
    have t0 : V0.heap.size = ib + 1 := by rw [← hV0, World.size_alloc, s0]
    have j0 : Bk V0 ib 3 #[.int .i64 5, .int .i64 20, .int .i64 60, .int .i64 60] := by rw [← hV0, ← s0]; exact Bk.new _ _ _
    have B0 : Below w.heap.size w V0 := by rw [← hV0]; exact (Below.refl _ _).alloc (Nat.le_refl _) _
    obtain ⟨V1, hV1⟩ : ∃ W, V0.alloc (.cells #[.string ⟨#[117]⟩, .string ⟨#[]⟩, .slice none 0 0, .slice none 0 0] 28) = W := ⟨_, rfl⟩
    have s1 : V0.heap.size = ub := by rw [t0, hub]
    have t1 : V1.heap.size = ub + 1 := by rw [← hV1, World.size_alloc, s1]
    have j1 : Bk V1 ub 28 #[.string ⟨#[117]⟩, .string ⟨#[]⟩, .slice none 0 0, .slice none 0 0] := by rw [← hV1, ← s1]; exact Bk.new _ _ _
    have B1 : Below w.heap.size w V1 := by rw [← hV1]; exact B0.alloc (by omega) _
    obtain ⟨V2, hV2⟩ : ∃ W, V1.alloc (.cells #[.string ⟨#[104]⟩, .slice (some ⟨ub, 0, none⟩) 1 1] 47) = W := ⟨_, rfl⟩
    have s2 : V1.heap.size = hb := by rw [t1, hhb]
    have t2 : V2.heap.size = hb + 1 := by rw [← hV2, World.size_alloc, s2]
    have j2 : Bk V2 hb 47 #[.string ⟨#[104]⟩, .slice (some ⟨ub, 0, none⟩) 1 1] := by rw [← hV2, ← s2]; exact Bk.new _ _ _
    have B2 : Below w.heap.size w V2 := by rw [← hV2]; exact B1.alloc (by omega) _
    obtain ⟨V3, hV3⟩ : ∃ W, V2.alloc (.cells #[.slice none 0 0] 24) = W := ⟨_, rfl⟩
    have s3 : V2.heap.size = q := by rw [t2, hq]
    have t3 : V3.heap.size = q + 1 := by rw [← hV3, World.size_alloc, s3]
    have j3 : Bk V3 q 24 #[.slice none 0 0] := by rw [← hV3, ← s3]; exact Bk.new _ _ _
    have B3 : Below w.heap.size w V3 := by rw [← hV3]; exact B2.alloc (by omega) _
    have iK : V0.cell? ⟨ib, 3, none⟩ = some (.int .i64 60) := j0.cell 3
    have z0 : V3.cell? ⟨q, 0, none⟩ = some (.slice none 0 0) := j3.cell 0
    have zf0 : V3.frozen? ⟨q, 0, none⟩ = false := j3.free 0
    obtain ⟨V4, hV4⟩ : ∃ z, V3.setCell ⟨q, 0, none⟩ (.slice (some ⟨hb, 0, none⟩) 1 1) = z := ⟨_, rfl⟩
    have k4 : Bk V4 q 24 #[.slice (some ⟨hb, 0, none⟩) 1 1] := by rw [← hV4]; exact j3.put 0 _
    have B4 : Below w.heap.size w V4 := by rw [← hV4]; exact B3.setCell (p := ⟨q, 0, none⟩) (by show w.heap.size ≤ q; omega) _
    have kh : Bk V4 hb 47 #[.string ⟨#[104]⟩, .slice (some ⟨ub, 0, none⟩) 1 1] := by rw [← hV4, ← hV3]; exact (j2.alloc _).far (p := ⟨q, 0, none⟩) (by show hb ≠ q; omega) _
    have ku : Bk V4 ub 28 #[.string ⟨#[117]⟩, .string ⟨#[]⟩, .slice none 0 0, .slice none 0 0] := by rw [← hV4, ← hV3, ← hV2]; exact ((j1.alloc _).alloc _).far (p := ⟨q, 0, none⟩) (by show ub ≠ q; omega) _
    have J0own : Hid (OwnT w.heap.size V4 (.slice none 0 0) (sts ((List.range 0).map pB))) := OwnT.nil _ _
    have J0k0 : Hid (Bk V4 q 24 #[.slice (some ⟨hb, 0, none⟩) 1 1]) := k4
    have J0k1 : Hid (Bk V4 hb 47 #[.string ⟨#[104]⟩, .slice (some ⟨ub, 0, none⟩) 1 1]) := kh
    have J0k2 : Hid (Bk V4 ub 28 #[.string ⟨#[117]⟩, .string ⟨#[]⟩, .slice none 0 0, .slice none 0 0]) := ku
    have BJ : Hid (Below w.heap.size w V4) := B4
    have HLOW : Hid (w.heap.size ≤ ub) := by unfold Hid; omega
    have HEV0 := Lib.hid hV0
    have HEV1 := Lib.hid hV1
    have HEV2 := Lib.hid hV2
    have HEV3 := Lib.hid hV3
    have HEV4 := Lib.hid hV4
    have HIB := Lib.hid hib
    have HBub := Lib.hid hub
    have HBhb := Lib.hid hhb
    have HBq := Lib.hid hq
    go_enter Tryz.func7, Tryz.ntmps7
    go_wp2_with fail
    (try rw [hV0])
    (try rw [hV1])
    (try rw [hV2])
    (try rw [hV3])
    (try rw [hV4])
    clear hV0 hV1 hV2 hV3 hV4 hib hub hhb hq
    go_loopw [8] (fun iv wr => ∃ (i : Nat) (A : Option Addr) (c : Nat), iv = .int .i64 (i : Nat) ∧ i ≤ N ∧ Hid (OwnT w.heap.size wr (.slice A i c) (sts ((List.range i).map pB))) ∧ Hid (Bk wr q 24 #[.slice (some ⟨hb, 0, none⟩) 1 1]) ∧ Hid (Bk wr hb 47 #[.string ⟨#[104]⟩, .slice (some ⟨ub, 0, none⟩) 1 1]) ∧ Hid (Bk wr ub 28 #[.string ⟨#[117]⟩, .string ⟨#[]⟩, .slice none 0 0, .slice A i c]) ∧ Hid (Below w.heap.size w wr)) (fun iv _ => N - (intOf iv).toNat)
    case atStart => exact ⟨0, none, 0, rfl, Nat.zero_le _, J0own, J0k0, J0k1, J0k2, BJ.out⟩
    case round =>
      obtain ⟨i, A, c, rfl, hi, Iown, Ik0, Ik1, Ik2, BWR⟩ := hrel
      by_cases hin : i < N
      · have hiz : (i : Int) < (N : Int) := by omega
        have hnm := fun W => name_any i (by omega) W
        obtain ⟨NM, hNM⟩ : ∃ z, bts (nmB i) = z := ⟨_, rfl⟩
        rw [hNM] at hnm
        have HNM := Lib.hid hnm
        have hjz : ¬ (9223372036854775807 < NM.size + 2) := by rw [← hNM, Lib.size_eq]; simp [nmB]
        have hbp : bts (pB i) = NM ++ ⟨#[64, 104]⟩ := by rw [← hNM]; rfl
        obtain ⟨NA, hNA⟩ : ∃ z, NM ++ (⟨#[64, 104]⟩ : ByteArray) = z := ⟨_, rfl⟩
        rw [hNA] at hbp
        have HNA := Lib.hid hNA
        have HEL : Hid (NA = bts (pB i)) := hbp.symm
        clear hnm hNM hbp hNA
        go_upto_region 14 with fail
        obtain ⟨W0, hW0⟩ : ∃ W0, wr.drew = W0 := ⟨_, rfl⟩
        have b0 : Below wr.heap.size wr W0 := by rw [← hW0]; exact (Below.refl _ _).drew
        have M0own : Hid (OwnT w.heap.size W0 (.slice A i c) (sts ((List.range i).map pB))) := Iown.out.below b0
        have M0k0 : Hid (Bk W0 q 24 #[.slice (some ⟨hb, 0, none⟩) 1 1]) := Ik0.out.below b0 Ik0.out.lt
        have M0k1 : Hid (Bk W0 hb 47 #[.string ⟨#[104]⟩, .slice (some ⟨ub, 0, none⟩) 1 1]) := Ik1.out.below b0 Ik1.out.lt
        have M0k2 : Hid (Bk W0 ub 28 #[.string ⟨#[117]⟩, .string ⟨#[]⟩, .slice none 0 0, .slice A i c]) := Ik2.out.below b0 Ik2.out.lt
        have BW0 : Hid (Below w.heap.size w W0) := BWR.out.trans (b0.mono BWR.out.size)
        have HW0 := Lib.hid hW0
        clear hW0 b0
        refine any_region (fun w' => w'.cell? ⟨q, 0, none⟩ = some (.slice (some ⟨hb, 0, none⟩) 1 1) ∧ w'.cell? ⟨hb, 1, none⟩ = some (.slice (some ⟨ub, 0, none⟩) 1 1) ∧ w'.cell? ⟨ub, 3, none⟩ = some (.slice A i c)) 21 (by kernel_rfl) ?_
        rw [HW0.out]
        refine Any.take 0 (some 43) ?v29 [] (S' := fun _ => True) rfl rfl (by kernel_rfl) (by kernel_rfl) (by kernel_rfl) (by kernel_rfl) (by kernel_rfl) (by decide) (by rfl) (fun _ _ _ _ => trivial) ?y29 (fun _ _ _ h => h) (fun _ => ⟨M0k0.out.cell 0, M0k1.out.cell 1, M0k2.out.cell 3⟩) ?n29
        case y29 =>
          intro w hSw
          clear hSw
          go_simp
          try with_reducible rfl
        try simp only [Act.put, List.setIfInBounds_toArray, List.set_cons_zero, List.set_cons_succ]
        refine Any.take 1 (some 44) ?v30 [21] (S' := fun w' => w'.cell? ⟨q, 0, none⟩ = some (.slice (some ⟨hb, 0, none⟩) 1 1) ∧ w'.cell? ⟨hb, 1, none⟩ = some (.slice (some ⟨ub, 0, none⟩) 1 1) ∧ w'.cell? ⟨ub, 3, none⟩ = some (.slice A i c)) rfl rfl (by kernel_rfl) (by kernel_rfl) (by kernel_rfl) (by kernel_rfl) (by kernel_rfl) (by decide) (by rfl) (fun _ _ hl hS => hS (hl 21 (by simp))) ?y30 (fun _ _ _ h => h) (fun _ => ⟨M0k0.out.cell 0, M0k1.out.cell 1, M0k2.out.cell 3⟩) ?n30
        case y30 =>
          intro w hSw
          try dsimp only at hSw
          obtain ⟨s0, s1, s2⟩ := hSw
          go_simp
          try with_reducible rfl
        try simp only [Act.put, List.setIfInBounds_toArray, List.set_cons_zero, List.set_cons_succ]
        refine Any.take 2 (some 45) ?v31 [] (S' := fun _ => True) rfl rfl (by kernel_rfl) (by kernel_rfl) (by kernel_rfl) (by kernel_rfl) (by kernel_rfl) (by decide) (by rfl) (fun _ _ _ _ => trivial) ?y31 (fun _ _ _ h => h) (fun _ => ⟨M0k0.out.cell 0, M0k1.out.cell 1, M0k2.out.cell 3⟩) ?n31
        case y31 =>
          intro w hSw
          clear hSw
          go_simp
          try with_reducible rfl
        try simp only [Act.put, List.setIfInBounds_toArray, List.set_cons_zero, List.set_cons_succ]
        refine Any.take 3 (some 46) ?v32 [] (S' := fun _ => True) rfl rfl (by kernel_rfl) (by kernel_rfl) (by kernel_rfl) (by kernel_rfl) (by kernel_rfl) (by decide) (by rfl) (fun _ _ _ _ => trivial) ?y32 (fun _ _ _ h => h) (fun _ => ⟨M0k0.out.cell 0, M0k1.out.cell 1, M0k2.out.cell 3⟩) ?n32
        case y32 =>
          intro w hSw
          clear hSw
          go_simp
          try with_reducible rfl
        try simp only [Act.put, List.setIfInBounds_toArray, List.set_cons_zero, List.set_cons_succ]
        refine Any.take 4 (some 47) ?v33 [21] (S' := fun w' => w'.cell? ⟨q, 0, none⟩ = some (.slice (some ⟨hb, 0, none⟩) 1 1) ∧ w'.cell? ⟨hb, 1, none⟩ = some (.slice (some ⟨ub, 0, none⟩) 1 1) ∧ w'.cell? ⟨ub, 3, none⟩ = some (.slice A i c)) rfl rfl (by kernel_rfl) (by kernel_rfl) (by kernel_rfl) (by kernel_rfl) (by kernel_rfl) (by decide) (by rfl) (fun _ _ hl hS => hS (hl 21 (by simp))) ?y33 (fun _ _ _ h => h) (fun _ => ⟨M0k0.out.cell 0, M0k1.out.cell 1, M0k2.out.cell 3⟩) ?n33
        case y33 =>
          intro w hSw
          try dsimp only at hSw
          obtain ⟨s0, s1, s2⟩ := hSw
          go_simp
          try with_reducible rfl
        try simp only [Act.put, List.setIfInBounds_toArray, List.set_cons_zero, List.set_cons_succ]
        refine Any.take 5 (some 48) ?v34 [] (S' := fun _ => True) rfl rfl (by kernel_rfl) (by kernel_rfl) (by kernel_rfl) (by kernel_rfl) (by kernel_rfl) (by decide) (by rfl) (fun _ _ _ _ => trivial) ?y34 (fun _ _ _ h => h) (fun _ => ⟨M0k0.out.cell 0, M0k1.out.cell 1, M0k2.out.cell 3⟩) ?n34
        case y34 =>
          intro w hSw
          clear hSw
          go_simp
          try with_reducible rfl
        try simp only [Act.put, List.setIfInBounds_toArray, List.set_cons_zero, List.set_cons_succ]
        refine Any.take 6 (some 49) ?v35 [21] (S' := fun w' => w'.cell? ⟨q, 0, none⟩ = some (.slice (some ⟨hb, 0, none⟩) 1 1) ∧ w'.cell? ⟨hb, 1, none⟩ = some (.slice (some ⟨ub, 0, none⟩) 1 1) ∧ w'.cell? ⟨ub, 3, none⟩ = some (.slice A i c)) rfl rfl (by kernel_rfl) (by kernel_rfl) (by kernel_rfl) (by kernel_rfl) (by kernel_rfl) (by decide) (by rfl) (fun _ _ hl hS => hS (hl 21 (by simp))) ?y35 (fun _ _ _ h => h) (fun _ => ⟨M0k0.out.cell 0, M0k1.out.cell 1, M0k2.out.cell 3⟩) ?n35
        case y35 =>
          intro w hSw
          try dsimp only at hSw
          obtain ⟨s0, s1, s2⟩ := hSw
          go_simp
          try with_reducible rfl
        try simp only [Act.put, List.setIfInBounds_toArray, List.set_cons_zero, List.set_cons_succ]
        refine Any.take 7 (some 50) ?v36 [] (S' := fun _ => True) rfl rfl (by kernel_rfl) (by kernel_rfl) (by kernel_rfl) (by kernel_rfl) (by kernel_rfl) (by decide) (by rfl) (fun _ _ _ _ => trivial) ?y36 (fun _ _ _ h => h) (fun _ => ⟨M0k0.out.cell 0, M0k1.out.cell 1, M0k2.out.cell 3⟩) ?n36
        case y36 =>
          intro w hSw
          clear hSw
          go_simp
          try with_reducible rfl
        try simp only [Act.put, List.setIfInBounds_toArray, List.set_cons_zero, List.set_cons_succ]
        refine Any.take 8 (some 51) ?v37 [] (S' := fun _ => True) rfl rfl (by kernel_rfl) (by kernel_rfl) (by kernel_rfl) (by kernel_rfl) (by kernel_rfl) (by decide) (by rfl) (fun _ _ _ _ => trivial) ?y37 (fun _ _ _ h => h) (fun _ => ⟨M0k0.out.cell 0, M0k1.out.cell 1, M0k2.out.cell 3⟩) ?n37
        case y37 =>
          intro w hSw
          clear hSw
          go_simp
          try with_reducible rfl
        try simp only [Act.put, List.setIfInBounds_toArray, List.set_cons_zero, List.set_cons_succ]
        refine Any.take 9 (some 52) ?v38 [21] (S' := fun w' => w'.cell? ⟨q, 0, none⟩ = some (.slice (some ⟨hb, 0, none⟩) 1 1) ∧ w'.cell? ⟨hb, 1, none⟩ = some (.slice (some ⟨ub, 0, none⟩) 1 1) ∧ w'.cell? ⟨ub, 3, none⟩ = some (.slice A i c)) rfl rfl (by kernel_rfl) (by kernel_rfl) (by kernel_rfl) (by kernel_rfl) (by kernel_rfl) (by decide) (by rfl) (fun _ _ hl hS => hS (hl 21 (by simp))) ?y38 (fun _ _ _ h => h) (fun _ => ⟨M0k0.out.cell 0, M0k1.out.cell 1, M0k2.out.cell 3⟩) ?n38
        case y38 =>
          intro w hSw
          try dsimp only at hSw
          obtain ⟨s0, s1, s2⟩ := hSw
          go_simp
          try with_reducible rfl
        try simp only [Act.put, List.setIfInBounds_toArray, List.set_cons_zero, List.set_cons_succ]
        refine Any.take 10 (some 53) ?v39 [] (S' := fun _ => True) rfl rfl (by kernel_rfl) (by kernel_rfl) (by kernel_rfl) (by kernel_rfl) (by kernel_rfl) (by decide) (by rfl) (fun _ _ _ _ => trivial) ?y39 (fun _ _ _ h => h) (fun _ => ⟨M0k0.out.cell 0, M0k1.out.cell 1, M0k2.out.cell 3⟩) ?n39
        case y39 =>
          intro w hSw
          clear hSw
          go_simp
          try with_reducible rfl
        try simp only [Act.put, List.setIfInBounds_toArray, List.set_cons_zero, List.set_cons_succ]
        refine Any.take 11 (some 54) ?v40 [] (S' := fun _ => True) rfl rfl (by kernel_rfl) (by kernel_rfl) (by kernel_rfl) (by kernel_rfl) (by kernel_rfl) (by decide) (by rfl) (fun _ _ _ _ => trivial) ?y40 (fun _ _ _ h => h) (fun _ => ⟨M0k0.out.cell 0, M0k1.out.cell 1, M0k2.out.cell 3⟩) ?n40
        case y40 =>
          intro w hSw
          clear hSw
          go_simp
          try with_reducible rfl
        try simp only [Act.put, List.setIfInBounds_toArray, List.set_cons_zero, List.set_cons_succ]
        refine Any.take 12 (some 55) ?v41 [21] (S' := fun w' => w'.cell? ⟨q, 0, none⟩ = some (.slice (some ⟨hb, 0, none⟩) 1 1) ∧ w'.cell? ⟨hb, 1, none⟩ = some (.slice (some ⟨ub, 0, none⟩) 1 1) ∧ w'.cell? ⟨ub, 3, none⟩ = some (.slice A i c)) rfl rfl (by kernel_rfl) (by kernel_rfl) (by kernel_rfl) (by kernel_rfl) (by kernel_rfl) (by decide) (by rfl) (fun _ _ hl hS => hS (hl 21 (by simp))) ?y41 (fun _ _ _ h => h) (fun _ => ⟨M0k0.out.cell 0, M0k1.out.cell 1, M0k2.out.cell 3⟩) ?n41
        case y41 =>
          intro w hSw
          try dsimp only at hSw
          obtain ⟨s0, s1, s2⟩ := hSw
          go_simp
          try with_reducible rfl
        try simp only [Act.put, List.setIfInBounds_toArray, List.set_cons_zero, List.set_cons_succ]
        refine Any.take 13 (some 56) ?v42 [] (S' := fun _ => True) rfl rfl (by kernel_rfl) (by kernel_rfl) (by kernel_rfl) (by kernel_rfl) (by kernel_rfl) (by decide) (by rfl) (fun _ _ _ _ => trivial) ?y42 (fun _ _ _ h => h) (fun _ => ⟨M0k0.out.cell 0, M0k1.out.cell 1, M0k2.out.cell 3⟩) ?n42
        case y42 =>
          intro w hSw
          clear hSw
          go_simp
          try with_reducible rfl
        try simp only [Act.put, List.setIfInBounds_toArray, List.set_cons_zero, List.set_cons_succ]
        refine Any.take 14 (some 57) ?v43 [] (S' := fun _ => True) rfl rfl (by kernel_rfl) (by kernel_rfl) (by kernel_rfl) (by kernel_rfl) (by kernel_rfl) (by decide) (by rfl) (fun _ _ _ _ => trivial) ?y43 (fun _ _ _ h => h) (fun _ => ⟨M0k0.out.cell 0, M0k1.out.cell 1, M0k2.out.cell 3⟩) ?n43
        case y43 =>
          intro w hSw
          clear hSw
          go_simp
          try with_reducible rfl
        try simp only [Act.put, List.setIfInBounds_toArray, List.set_cons_zero, List.set_cons_succ]
        refine Any.up (rs := [15]) (by kernel_rfl) (by simp) ?_
        refine AllUp.cons (i := 15) rfl (fun K hK => ?_) (AllUp.nil)
        have egN := Go.Proofs.enters_of Tryz.func29 (by kernel_rfl) rfl
        go_simp
        refine (HNM.out W0).mono ?_
        rintro e Wc ⟨rfl, bc⟩
        have Mcown : Hid (OwnT w.heap.size Wc (.slice A i c) (sts ((List.range i).map pB))) := M0own.out.below bc
        have Mck0 : Hid (Bk Wc q 24 #[.slice (some ⟨hb, 0, none⟩) 1 1]) := M0k0.out.below bc M0k0.out.lt
        have Mck1 : Hid (Bk Wc hb 47 #[.string ⟨#[104]⟩, .slice (some ⟨ub, 0, none⟩) 1 1]) := M0k1.out.below bc M0k1.out.lt
        have Mck2 : Hid (Bk Wc ub 28 #[.string ⟨#[117]⟩, .string ⟨#[]⟩, .slice none 0 0, .slice A i c]) := M0k2.out.below bc M0k2.out.lt
        have BWc : Hid (Below w.heap.size w Wc) := BW0.out.trans (bc.mono BW0.out.size)
        clear bc egN
        refine hK.out _ _ (fun _ _ => ⟨Mck0.out.cell 0, Mck1.out.cell 1, Mck2.out.cell 3⟩) ?_
        clear hK K
        try simp only [Act.put, List.setIfInBounds_toArray, List.set_cons_zero, List.set_cons_succ]
        refine Any.up (rs := [16]) (by kernel_rfl) (by simp) ?_
        refine AllUp.cons (i := 16) rfl (fun K hK => ?_) (AllUp.nil)
        go_simp
        (try rw [HNA.out])
        refine hK.out _ _ (fun _ _ => ⟨Mck0.out.cell 0, Mck1.out.cell 1, Mck2.out.cell 3⟩) ?_
        clear hK K
        try simp only [Act.put, List.setIfInBounds_toArray, List.set_cons_zero, List.set_cons_succ]
        refine Any.up (rs := [17]) (by kernel_rfl) (by simp) ?_
        refine AllUp.cons (i := 17) rfl (fun K hK => ?_) (AllUp.nil)
        obtain ⟨Wa, hWa⟩ : ∃ W9, Wc.alloc (.cells #[.string NA] 9) = W9 := ⟨_, rfl⟩
        obtain ⟨ha, hha⟩ : ∃ H9, Wc.heap.size = H9 := ⟨_, rfl⟩
        have ba : Below Wc.heap.size Wc Wa := by rw [← hWa]; exact (Below.refl _ _).alloc (Nat.le_refl _) _
        have Maown : Hid (OwnT w.heap.size Wa (.slice A i c) (sts ((List.range i).map pB))) := Mcown.out.below ba
        have Mak0 : Hid (Bk Wa q 24 #[.slice (some ⟨hb, 0, none⟩) 1 1]) := Mck0.out.below ba Mck0.out.lt
        have Mak1 : Hid (Bk Wa hb 47 #[.string ⟨#[104]⟩, .slice (some ⟨ub, 0, none⟩) 1 1]) := Mck1.out.below ba Mck1.out.lt
        have Mak2 : Hid (Bk Wa ub 28 #[.string ⟨#[117]⟩, .string ⟨#[]⟩, .slice none 0 0, .slice A i c]) := Mck2.out.below ba Mck2.out.lt
        have NA_ : Hid (Bk Wa ha 9 #[.string NA]) := by rw [← hWa, ← hha]; exact Bk.new _ _ _
        have BWa : Hid (Below w.heap.size w Wa) := BWc.out.trans (ba.mono BWc.out.size)
        have HWa := Lib.hid hWa
        have HHa := Lib.hid hha
        clear hWa hha ba
        go_simp
        rw [HWa.out, HHa.out]
        refine hK.out _ _ (fun _ _ => ⟨Mak0.out.cell 0, Mak1.out.cell 1, Mak2.out.cell 3⟩) ?_
        clear hK K
        try simp only [Act.put, List.setIfInBounds_toArray, List.set_cons_zero, List.set_cons_succ]
        refine Any.up (rs := [18]) (by kernel_rfl) (by simp) ?_
        refine AllUp.cons (i := 18) rfl (fun K hK => ?_) (AllUp.nil)
        refine step_strB rfl _ _ rfl w.heap.size (.slice A i c) ⟨ha, 0, none⟩ ((List.range i).map pB) (pB i) w _ BWa.out (Nat.le_refl _) rfl Maown.out rfl (by rw [add_at, NA_.out.cell, ← HEL.out]; rfl) (by rw [List.length_map, List.length_range]; omega) ?_
        intro v4 w4 o4 b4 f4
        rw [range_snoc] at o4
        obtain ⟨A4, c4, hv4⟩ := o4.slice
        have hl4 : (sts ((List.range (i + 1)).map pB)).length = i + 1 := by simp [sts]
        rw [hl4] at hv4
        subst hv4
        have M4own := Lib.hid o4
        have M4k0 : Hid (Bk w4 q 24 #[.slice (some ⟨hb, 0, none⟩) 1 1]) := bk_keep Maown.out Mak0.out (by decide) f4
        have M4k1 : Hid (Bk w4 hb 47 #[.string ⟨#[104]⟩, .slice (some ⟨ub, 0, none⟩) 1 1]) := bk_keep Maown.out Mak1.out (by decide) f4
        have M4k2 : Hid (Bk w4 ub 28 #[.string ⟨#[117]⟩, .string ⟨#[]⟩, .slice none 0 0, .slice A i c]) := bk_keep Maown.out Mak2.out (by decide) f4
        have BW4 := Lib.hid b4
        clear o4 b4 f4 hl4
        refine hK.out _ _ (fun _ _ => ⟨M4k0.out.cell 0, M4k1.out.cell 1, M4k2.out.cell 3⟩) ?_
        clear hK K
        try simp only [Act.put, List.setIfInBounds_toArray, List.set_cons_zero, List.set_cons_succ]
        refine Any.up (rs := [19]) (by kernel_rfl) (by simp) ?_
        refine AllUp.cons (i := 19) rfl (fun K hK => ?_) (AllUp.nil)
        go_simp
        refine hK.out _ _ (fun _ _ => ⟨M4k0.out.cell 0, M4k1.out.cell 1, M4k2.out.cell 3⟩) ?_
        clear hK K
        try simp only [Act.put, List.setIfInBounds_toArray, List.set_cons_zero, List.set_cons_succ]
        refine Any.up (rs := [20]) (by kernel_rfl) (by simp) ?_
        refine AllUp.cons (i := 20) rfl (fun K hK => ?_) (AllUp.nil)
        go_simp
        refine hK.out _ _ (fun _ _ => ⟨M4k0.out.cell 0, M4k1.out.cell 1, M4k2.out.cell 3⟩) ?_
        clear hK K
        try simp only [Act.put, List.setIfInBounds_toArray, List.set_cons_zero, List.set_cons_succ]
        refine Any.up (rs := [21]) (by kernel_rfl) (by simp) ?_
        refine AllUp.cons (i := 21) rfl (fun K hK => ?_) (AllUp.nil)
        have y0 := M4k2.out.cell 3
        have y1 := M4k2.out.free 3
        go_simp
        refine hK.out _ _ (fun hne _ => absurd rfl hne) ?_
        clear y0 y1
        clear hK K
        try simp only [Act.put, List.setIfInBounds_toArray, List.set_cons_zero, List.set_cons_succ]
        refine Any.done (by kernel_rfl) ?_ _
        obtain ⟨w5, hw5⟩ : ∃ z, w4.setCell ⟨ub, 3, none⟩ (.slice A4 (i + 1) c4) = z := ⟨_, rfl⟩
        have M5own : Hid (OwnT w.heap.size w5 (.slice A4 (i + 1) c4) (sts ((List.range (i + 1)).map pB))) := by rw [← hw5]; exact owns_set M4own.out M4k2.out (by decide)
        have M5k0 : Hid (Bk w5 q 24 #[.slice (some ⟨hb, 0, none⟩) 1 1]) := by rw [← hw5]; exact bk_set M4k0.out M4k2.out (by decide)
        have M5k1 : Hid (Bk w5 hb 47 #[.string ⟨#[104]⟩, .slice (some ⟨ub, 0, none⟩) 1 1]) := by rw [← hw5]; exact bk_set M4k1.out M4k2.out (by decide)
        have M5k2 : Hid (Bk w5 ub 28 #[.string ⟨#[117]⟩, .string ⟨#[]⟩, .slice none 0 0, .slice A4 (i + 1) c4]) := by rw [← hw5]; exact M4k2.out.put 3 _
        have BW5 : Hid (Below w.heap.size w w5) := by rw [← hw5]; exact BW4.out.setCell (p := ⟨ub, 3, none⟩) HLOW.out _
        rw [hw5]
        clear hw5
        clear M0own M0k0 M0k1 M0k2
        go_wp2_with fail
        go_roundw
        case rel => exact ⟨i + 1, A4, c4, by go_num, by omega, M5own, M5k0, M5k1, M5k2, BW5⟩
        case measure => simp [intOf]; omega
      · have hiz : ¬ (i : Int) < (N : Int) := by omega
        obtain rfl : i = N := by omega
        have HAW := Lib.hid (seaw_any wr (HO.out.below BWR.out) (HT.out.below BWR.out))
        have rU : RowB encU 4 28 wr ub [(⟨[117], [], [], (none, 0, 0), (List.range i).map pB, (A, i, c)⟩ : Usr)] := rowB_bk Ik2.out rfl (fun _ => rfl)
        have rH : RowB encH 2 47 wr hb [(⟨[104], [⟨[117], [], [], (none, 0, 0), (List.range i).map pB, (A, i, c)⟩], (some ⟨ub, 0, none⟩, 1, 1)⟩ : Hst)] := rowB_bk Ik1.out rfl (fun _ => rfl)
        have RH : Hid (ReadH wr (.slice (some ⟨hb, 0, none⟩) 1 1) [(⟨[104], [⟨[117], [], [], (none, 0, 0), (List.range i).map pB, (A, i, c)⟩], (some ⟨ub, 0, none⟩, 1, 1)⟩ : Hst)]) := ⟨rH.row rH.lt 1 1 rfl, mem_one ⟨rU.row rU.lt 1 1 rfl, mem_one ⟨readI_bare ⟨none, 0, rfl, fun h => absurd h (by simp)⟩ (fun p hp => absurd hp (by simp)), Iown.out.reads⟩⟩⟩
        have HSM : Hid (∀ h ∈ [(⟨[104], [⟨[117], [], [], (none, 0, 0), (List.range i).map pB, (A, i, c)⟩], (some ⟨ub, 0, none⟩, 1, 1)⟩ : Hst)], SmH h) := mem_one (smH_big (by decide) (by simp) (mem_one ⟨by simp, by simp, by simp, fun p hp => absurd hp (by simp), by simp; omega, map_all (P := fun t : List UInt8 => t.length ≤ 100000000) fun j => by simp [pB, nmB]⟩))
        have HRG : Hid (rightS [(⟨[104], [⟨[117], [], [], (none, 0, 0), (List.range i).map pB, (A, i, c)⟩], (some ⟨ub, 0, none⟩, 1, 1)⟩ : Hst)] = decide (i ≤ 60)) := bounds3 i _ _ _ HN63.out
        clear rH rU
        have HLE : Hid ([(⟨[104], [⟨[117], [], [], (none, 0, 0), (List.range i).map pB, (A, i, c)⟩], (some ⟨ub, 0, none⟩, 1, 1)⟩ : Hst)].length ≤ 1000000) := by unfold Hid; simp
        obtain ⟨LL, hLL⟩ : ∃ l, [(⟨[104], [⟨[117], [], [], (none, 0, 0), (List.range i).map pB, (A, i, c)⟩], (some ⟨ub, 0, none⟩, 1, 1)⟩ : Hst)] = l := ⟨_, rfl⟩
        rw [hLL] at RH HSM HRG HLE
        clear hLL
        go_wp2_with fail
        refine HAW.out.mono ?_
        rintro e w2 ⟨rfl, b2⟩
        have B2 : Hid (Below w.heap.size w w2) := BWR.out.trans (b2.mono BWR.out.size)
        have HRT := Lib.hid (sright_any _ LL w2 (HO.out.below B2.out) (HT.out.below B2.out) (RH.out.upon b2) HLE.out HSM.out)
        rw [HRG.out] at HRT
        have c0 : w2.cell? ⟨q, 0, none⟩ = some (.slice (some ⟨hb, 0, none⟩) 1 1) := (Ik0.out.below b2 Ik0.out.lt).cell 0
        clear b2 HAW
        by_cases hle : i ≤ 60
        · have hm : i ≤ 60 := hle
          have hmz : (i : Int) ≤ 60 := by omega
          rw [decide_eq_true hm] at HRT
          go_wp2_with fail
          refine HRT.out.mono ?_
          rintro e w3 ⟨rfl, b3⟩
          have B3 : Hid (Below w.heap.size w w3) := B2.out.trans (b3.mono B2.out.size)
          clear b3
          go_wp2_with fail
          go_ret
          exact ⟨by first | rfl | simp [hmz], B3.out⟩
        · have hm : ¬ i ≤ 60 := hle
          have hmz : ¬ (i : Int) ≤ 60 := by omega
          rw [decide_eq_false hm] at HRT
          go_wp2_with fail
          refine HRT.out.mono ?_
          rintro e w3 ⟨rfl, b3⟩
          have B3 : Hid (Below w.heap.size w w3) := B2.out.trans (b3.mono B2.out.size)
          clear b3
          go_wp2_with fail
          go_ret
          exact ⟨by first | rfl | simp [hmz], B3.out⟩
end Go.Proofs.YtbgaglcgennhiaaGreatDoor
