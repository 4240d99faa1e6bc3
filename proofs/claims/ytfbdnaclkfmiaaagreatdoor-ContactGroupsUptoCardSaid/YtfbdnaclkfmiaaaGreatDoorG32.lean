import Derived.Test.YtfbdnaclkfmiaaaGreatDoorG31
import Derived.Laws.AppendOwnNone
/- what is reached of it -/
namespace Go.Proofs.YtfbdnaclkfmiaaaGreatDoor
open Go.RowKit Vc
theorem OwnT.kept {B : Nat} {w w' : World} {v : Value} {x : List ByteArray} (h : OwnT B w v x) (hb : ∀ g, v.ownBlock = Option.some g → w'.heap[g]? = w.heap[g]?) : OwnT B w' v x :=
  ⟨h.1, h.2.imp id fun ⟨g, cap, cur, k1, k2, k3, k4⟩ => ⟨g, cap, cur, k1, k2, (hb g (by rw [k1]; rfl)).trans k3, k4⟩⟩
theorem strs_append (a b : List ByteArray) : strs (a ++ b) = strs a ++ strs b := by unfold strs; rw [List.map_append]
theorem sts_append (a b : List (List UInt8)) : sts (a ++ b) = sts a ++ sts b := by unfold sts; rw [List.map_append]
/-- An append of strings that lie in a row. -/
theorem push_row {ops : Array Oper} {rest : List Oper} {o : Oper} {a : Act} {Q : Exit → Act → World → Prop} (hgd : o.guard = none) (s x : Operand) (ho : o.op = .call { callee := .builtin .append, args := #[s, x], argTypes := #[23, 23] })
    (B : Nat) (v : Value) (xs ys : List ByteArray) (w : World) (hs : a.eval s = v) (hown : OwnT B w v xs) (ad : Addr) (c : Nat) (hx : a.eval x = .slice (some ad) ys.length c) (hc : ∀ i b, ys[i]? = some b → w.cell? (ad.add i) = some (.string b))
    (hn : xs.length + ys.length ≤ 1000000000000) (hB : B ≤ w.heap.size)
    (h : ∀ v' w', OwnT B w' v' (xs ++ ys) → Below B w w' → (∀ k, k < w.heap.size → some k ≠ v.ownBlock → w'.heap[k]? = w.heap[k]?) → wpList Tryz.prog ops Q rest (a.put o.dst v') w') : wpList Tryz.prog ops Q (o :: rest) a w := by
  obtain ⟨i0, hi, hz0, hz1, hz2⟩ := info_parts infoStr
  have hown' : w.ownsRow B 9 1 v xs.length (strs xs) := hown
  refine wpList_append_own _ hgd s x 23 ho B 9 i0 _ 1 16 Tryz.underlying23 hi hz0 hz1 hz2 rfl (by decide) v xs.length (strs xs) hs hown' ad ys.length c (strs ys) hx (by rw [strs_length, Nat.mul_one]) ?_ ?_ ?_ (by omega) hB ?_
  · intro j u hj
    unfold strs at hj
    rw [List.getElem?_map] at hj
    obtain ⟨b, hb, rfl⟩ := Option.map_eq_some_iff.1 hj
    exact hc j b hb
  · intro u hu
    unfold strs at hu
    obtain ⟨b, _, rfl⟩ := List.mem_map.1 hu
    rfl
  · unfold maxLen; omega
  · intro v' w' h1 hg _
    refine h v' w' ?_ ((Below.refl B w).grown hg hB (fun j hj => (World.ownsRow.lt hown' j hj).1)) (fun k hk hne => hg.block k hk hne)
    unfold OwnT
    rw [strs_append, List.length_append]
    exact h1
theorem push_strs {ops : Array Oper} {rest : List Oper} {o : Oper} {a : Act} {Q : Exit → Act → World → Prop} (hgd : o.guard = none) (s x : Operand) (ho : o.op = .call { callee := .builtin .append, args := #[s, x], argTypes := #[23, 23] })
    (B D : Nat) (v u : Value) (xs ys : List ByteArray) (w : World) (hs : a.eval s = v) (hown : OwnT B w v xs) (hx : a.eval x = u) (hy : OwnT D w u ys)
    (hn : xs.length + ys.length ≤ 1000000000000) (hB : B ≤ w.heap.size)
    (h : ∀ v' w', OwnT B w' v' (xs ++ ys) → Below B w w' → (∀ k, k < w.heap.size → some k ≠ v.ownBlock → w'.heap[k]? = w.heap[k]?) → wpList Tryz.prog ops Q rest (a.put o.dst v') w') : wpList Tryz.prog ops Q (o :: rest) a w := by
  have hy' : w.ownsRow D 9 1 u ys.length (strs ys) := hy
  rcases hy'.2 with ⟨rfl, h0⟩ | ⟨g, cap, cur, rfl, _, hh, _⟩
  · obtain ⟨i0, hi, hz0, hz1, hz2⟩ := info_parts infoStr
    obtain rfl : ys = [] := List.eq_nil_of_length_eq_zero h0
    refine wpList_append_own_none hgd s x 23 ho B 9 i0 1 Tryz.underlying23 hi v xs.length (strs xs) hs hown hx (h _ _ ?_ (Below.refl _ _) (fun _ _ _ => rfl))
    rw [List.append_nil]
    exact hown
  · refine push_row hgd s x ho B v xs ys w hs hown ⟨g, 0, none⟩ cap hx (fun i b hb => ?_) hn hB h
    exact hy'.cells (g := g) rfl i _ (strs_get hb)
/-- all that the lines of cards take -/
def bulkV (l : List (List Pr)) : Nat := bulk (sts (l.flatMap cardT))
theorem bulk_append (a b : List ByteArray) : bulk (a ++ b) = bulk a + bulk b := by unfold bulk; rw [List.map_append, List.sum_append]
theorem bulkV_take (l : List (List Pr)) (k : Nat) : bulkV (l.take k) ≤ bulkV l := by
  have h : l.flatMap cardT = (l.take k).flatMap cardT ++ (l.drop k).flatMap cardT := by rw [← List.flatMap_append, List.take_append_drop]
  unfold bulkV
  conv => rhs; rw [h, sts_append, bulk_append]
  omega
theorem cards_take {l : List (List Pr)} {k : Nat} {c : List Pr} (h : l[k]? = some c) : sts ((l.take (k + 1)).flatMap cardT) = sts ((l.take k).flatMap cardT) ++ [bts beginT, bts versT] ++ sts (c.map lineT) ++ [bts endT] := by
  rw [List.take_add_one, h]
  show sts ((l.take k ++ [c]).flatMap cardT) = _
  rw [List.flatMap_append, sts_append]
  have : ([c].flatMap cardT) = [beginT, versT] ++ c.map lineT ++ [endT] := by simp [cardT]
  rw [this, sts_append, sts_append]
  simp [sts]
/-- What Write answers. -/
def WritesV (B : Nat) (w : World) (l : List (List Pr)) (e : Ending) (w' : World) : Prop := e = .returned (.tuple #[.string (bts (writeV l).1), .int .i64 ((writeV l).2 : Nat)]) ∧ Below B w w'
theorem right_all {l : List (List Pr)} (h1 : l.length ≤ 60) (h2 : ∀ c ∈ l, c.length ≤ 40 ∧ ∀ p ∈ c, mayB p = true) : rightV l = true := right_iff.2 ⟨h1, h2⟩
theorem right_bad {l : List (List Pr)} {c : List Pr} (hc : c ∈ l) (h : ¬ (c.length ≤ 40 ∧ ∀ p ∈ c, mayB p = true)) : writeV l = ([], 12) := by
  unfold writeV
  rw [if_neg]
  intro hr
  exact h ((right_iff.1 hr).2 c hc)
theorem right_many {l : List (List Pr)} (h : 60 < l.length) : writeV l = ([], 12) := by
  unfold writeV
  rw [if_neg]
  intro hr
  have := (right_iff.1 hr).1
  omega
theorem write_right {l : List (List Pr)} (h : rightV l = true) : writeV l = if 20000 < (Tx.foldL (l.flatMap cardT)).length then ([], 4) else (Tx.foldL (l.flatMap cardT), 0) := by
  unfold writeV
  rw [if_pos h]
theorem btl_sts2 (m : List (List UInt8)) : btl (sts m) = m := by
  unfold btl sts
  rw [List.map_map]
  conv => rhs; rw [← List.map_id m]
  rfl
set_option maxHeartbeats 4000000 in
set_option maxRecDepth 100000 in
theorem write_any (v : Value) (l : List (List Pr)) (w : World) (hT : Tabs w) (hF : Folds w) (hM : MaxL w) (hR : ReadV w v l) (hc : ∀ c ∈ l, Mild c ∧ c.length ≤ 1000000000) (hll : l.length ≤ 1000000000) (hbk : bulkV l < 1000000) :
    Calls Tryz.prog 96 #[v] w (WritesV w.heap.size w l) := by
  obtain ⟨A, cap, rfl, hcell⟩ := hR
  obtain ⟨n, hn⟩ : ∃ n, l.length = n := ⟨_, rfl⟩
  have HN := Lib.hid hn
  rw [hn] at hcell hll ⊢
  by_cases h60 : 60 < n
  · have hw : Hid (writeV l = ([], 12)) := right_many (by omega)
    clear hcell hn hT hF hM hc
    go_enter Tryz.func96, Tryz.ntmps96
    go_wp2_with fail
    go_ret2
    unfold WritesV
    rw [hw.out]
    exact ⟨rfl, Below.refl _ _⟩
  have HC := Lib.hid hcell
  have HMI := Lib.hid hc
  have HBK := Lib.hid hbk
  have HWN := Lib.hid (fun (u : Value) (c : List Pr) (W : World) (h : Below w.heap.size w W) (hu : ReadP W u c) (hm : Mild c ∧ c.length ≤ 1000000000) => written_any u c W (hT.below h) (hF.below h) (hM.below h) hu hm.1 hm.2)
  have HFO := Lib.hid (fun (u : Value) (xs : List ByteArray) (W : World) (h : Below w.heap.size w W) (hu : ReadT W.heap.size W u xs) (hb : bulk xs < 1000000) => fold_any u xs W (hT.below h) hu hb)
  obtain ⟨D, hD⟩ : ∃ D, w.heap.size = D := ⟨_, rfl⟩
  have HDE := Lib.hid hD
  have HO0 : Hid (OwnT D w (.slice none 0 0) (sts ((l.take 0).flatMap cardT))) := OwnT.nil _ _
  have HB0 : Hid (Below D w w) := Below.refl _ _
  have HA0 : Hid (∀ c ∈ l.take 0, c.length ≤ 40 ∧ ∀ p ∈ c, mayB p = true) := fun p hp => by cases hp
  have HUP : Hid (∀ W, Below D w W → Below w.heap.size w W) := fun W h => by rw [hD]; exact h
  clear hcell hn hT hF hM hc hD hbk
  go_enter Tryz.func96, Tryz.ntmps96
  go_wp2_with fail
  go_loopw [4, 15] (fun lv iv wr => ∃ (k : Nat) (lx : Value), lv = lx ∧ iv = .int .i64 k ∧ k ≤ n ∧ Hid (OwnT D wr lx (sts ((l.take k).flatMap cardT))) ∧ Hid (Below D w wr) ∧ Hid (∀ c ∈ l.take k, c.length ≤ 40 ∧ ∀ p ∈ c, mayB p = true)) (fun _ iv _ => n - (intOf iv).toNat)
  case atStart => exact ⟨0, _, rfl, rfl, Nat.zero_le _, HO0, HB0, HA0⟩
  case round =>
    obtain ⟨k, lx, hlx, rfl, hkn, HO, HBW, HALL⟩ := hrel
    have hlx2 := hlx.symm
    subst hlx2
    by_cases hlt : k < n
    · obtain ⟨ad, rfl, hlb, hcl⟩ := HC.out (by omega)
      obtain ⟨c, hcc⟩ : ∃ c, l[k]? = some c := ⟨_, List.getElem?_eq_getElem (by rw [HN.out]; exact hlt)⟩
      obtain ⟨u, c0, hru⟩ := hcl k c hcc
      have hbw := HUP.out _ HBW.out
      rw [← hbw.cell (p := ad.add k) (by rw [addBlock]; exact hlb)] at c0
      have HW1 := Lib.hid (HWN.out u c wr hbw (hru.below hbw) (HMI.out c (List.mem_of_getElem? hcc)))
      have HTK := Lib.hid (cards_take hcc)
      have HMEM : Hid (c ∈ l) := List.mem_of_getElem? hcc
      have htk : Hid (l.take (k + 1) = l.take k ++ [c]) := by unfold Hid; rw [List.take_add_one, hcc]; rfl
      have hbt := bulkV_take l (k + 1)
      have HTB : Hid (bulk (sts ((l.take (k + 1)).flatMap cardT)) < 1000000) := by have := HBK.out; unfold Hid; unfold bulkV at hbt this; omega
      obtain ⟨UA, ucap, rfl⟩ := hru.slice
      obtain ⟨un, hun⟩ : ∃ un, c.length = un := ⟨_, rfl⟩
      rw [hun] at c0 HW1
      have HZ : Hid (D ≤ wr.heap.size) := by have := hbw.size; have := HDE.out; unfold Hid; omega
      clear hcl hcc hru hbw hbt hun hlx
      go_wp2_with fail
      refine HW1.out.mono ?_
      rintro e w1 ⟨hwv, b1⟩
      have HWV := Lib.hid hwv
      have B1 : Hid (Below D w w1) := HBW.out.trans (b1.mono HZ.out)
      have O1 := Lib.hid (HO.out.below b1)
      have Z1 : Hid (D ≤ w1.heap.size) := Nat.le_trans HZ.out b1.size
      clear hwv b1
      rcases HWV.out with ⟨pv, rfl, hpo, h40, hma⟩ | ⟨rfl, hno⟩
      · have HPO := Lib.hid hpo
        have A2 : Hid (∀ c ∈ l.take (k + 1), c.length ≤ 40 ∧ ∀ p ∈ c, mayB p = true) := fun d hd => by
          rw [htk.out] at hd
          rcases List.mem_append.1 hd with hd | hd
          · exact HALL.out d hd
          · rw [List.mem_singleton] at hd; subst hd; exact ⟨h40, hma⟩
        obtain ⟨XS, hXS⟩ : ∃ XS, sts ((l.take k).flatMap cardT) = XS := ⟨_, rfl⟩
        obtain ⟨YS, hYS⟩ : ∃ YS, sts (c.map lineT) = YS := ⟨_, rfl⟩
        have htk2 := HTK.out
        rw [hXS, hYS] at htk2
        have HT2 := Lib.hid htk2
        have hlens := bulk_len (sts ((l.take (k + 1)).flatMap cardT))
        rw [htk2] at hlens
        have hbb := HTB.out
        rw [htk2] at hbb
        simp only [List.length_append, List.length_cons, List.length_nil] at hlens
        rw [hXS] at O1
        rw [hYS] at HPO
        have HLN : Hid (XS.length ≤ 1000000 ∧ YS.length ≤ 1000000) := ⟨by omega, by omega⟩
        obtain ⟨LA, ln, lcap, rfl⟩ : ∃ A n cap, lx = .slice A n cap := by obtain ⟨A, cap, e⟩ := O1.out.slice; exact ⟨A, _, cap, e⟩
        obtain ⟨PA, pn, pcap, rfl⟩ : ∃ A n cap, pv = .slice A n cap := by obtain ⟨A, cap, e⟩ := HPO.out.slice; exact ⟨A, _, cap, e⟩
        clear hpo h40 hma hXS hYS htk2 hlens hbb
        obtain ⟨S1, hS1⟩ : ∃ S1 : ByteArray, ⟨#[66, 69, 71, 73, 78, 58, 86, 67, 65, 82, 68]⟩ = S1 := ⟨_, rfl⟩
        have b2 : Below w1.heap.size w1 (w1.alloc (.cells #[.string ⟨#[66, 69, 71, 73, 78, 58, 86, 67, 65, 82, 68]⟩, .string ⟨#[86, 69, 82, 83, 73, 79, 78, 58, 52, 46, 48]⟩] 9)) := (Below.refl _ _).alloc (Nat.le_refl _) _
        have O2 := Lib.hid (O1.out.below b2)
        have HP2 := Lib.hid (HPO.out.below b2)
        have Z2 : Hid (D ≤ (w1.alloc (.cells #[.string ⟨#[66, 69, 71, 73, 78, 58, 86, 67, 65, 82, 68]⟩, .string ⟨#[86, 69, 82, 83, 73, 79, 78, 58, 52, 46, 48]⟩] 9)).heap.size) := Nat.le_trans Z1.out b2.size
        have HC2 : Hid (∀ i b, [bts beginT, bts versT][i]? = some b → (w1.alloc (.cells #[.string ⟨#[66, 69, 71, 73, 78, 58, 86, 67, 65, 82, 68]⟩, .string ⟨#[86, 69, 82, 83, 73, 79, 78, 58, 52, 46, 48]⟩] 9)).cell? ((⟨w1.heap.size, 0, none⟩ : Addr).add i) = some (.string b)) := fun i b hb => by
          rw [add_at, Nat.zero_add, (Bk.new w1 9 #[_, _]).cell]
          match i, hb with
          | 0, hb => cases hb; rfl
          | 1, hb => cases hb; rfl
          | i + 2, hb => simp at hb
        have B2 := Lib.hid b2
        have HL2 : Hid (XS.length + [bts beginT, bts versT].length ≤ 1000000000000) := by unfold Hid; simp only [List.length_cons, List.length_nil]; have := HLN.out.1; omega
        clear b2 hS1
        go_wp2_with (at_builtin; refine push_row rfl _ _ rfl D (.slice LA ln lcap) XS [bts beginT, bts versT] (w1.alloc (.cells #[.string ⟨#[66, 69, 71, 73, 78, 58, 86, 67, 65, 82, 68]⟩, .string ⟨#[86, 69, 82, 83, 73, 79, 78, 58, 52, 46, 48]⟩] 9)) rfl O2.out ⟨w1.heap.size, 0, none⟩ 2 rfl HC2.out HL2.out Z2.out ?_)
        intro v3 w3 o3 b3 k3
        have HP3 : Hid (OwnT wr.heap.size w3 (.slice PA pn pcap) YS) := HP2.out.kept (fun g hg => k3 g (by have h0 := (World.ownsRow.lt HP2.out g hg).2; simpa using h0) (fun e => by
          have h1 := (World.ownsRow.lt HP2.out g hg).1
          have h2 := (World.ownsRow.lt HO.out g e.symm).2
          omega))
        have O3 := Lib.hid o3
        have B3 : Hid (Below D w w3) := (B1.out.trans (B2.out.mono Z1.out)).trans b3
        have Z3 : Hid (D ≤ w3.heap.size) := Nat.le_trans Z2.out b3.size
        have HL3 : Hid ((XS ++ [bts beginT, bts versT]).length + YS.length ≤ 1000000000000) := by unfold Hid; simp only [List.length_append, List.length_cons, List.length_nil]; have := HLN.out; omega
        obtain ⟨A3, n3, c3, rfl⟩ : ∃ A n cap, v3 = .slice A n cap := by obtain ⟨A, cap, e⟩ := o3.slice; exact ⟨A, _, cap, e⟩
        clear o3 b3 k3
        go_wp2_with (at_builtin; refine push_strs rfl _ _ rfl D wr.heap.size (.slice A3 n3 c3) (.slice PA pn pcap) (XS ++ [bts beginT, bts versT]) YS w3 rfl O3.out rfl HP3.out HL3.out Z3.out ?_)
        intro v4 w4 o4 b4 k4
        have O4 : Hid (OwnT D w4 v4 (XS ++ [bts beginT, bts versT] ++ YS)) := by unfold Hid; simpa using o4
        have B4 : Hid (Below D w w4) := B3.out.trans b4
        have Z4 : Hid (D ≤ w4.heap.size) := Nat.le_trans Z3.out b4.size
        have HL4 : Hid ((XS ++ [bts beginT, bts versT] ++ YS).length ≤ 1000000000000) := by unfold Hid; simp only [List.length_append, List.length_cons, List.length_nil]; have := HLN.out; omega
        obtain ⟨A4, n4, c4, rfl⟩ : ∃ A n cap, v4 = .slice A n cap := by obtain ⟨A, cap, e⟩ := O4.out.slice; exact ⟨A, _, cap, e⟩
        clear o4 b4 k4
        go_wp2_with (at_builtin; refine push_str rfl _ _ rfl D (.slice A4 n4 c4) (XS ++ [bts beginT, bts versT] ++ YS) ⟨#[69, 78, 68, 58, 86, 67, 65, 82, 68]⟩ w4 rfl O4.out rfl HL4.out Z4.out ?_)
        intro v5 w5 o5 b5
        have O5 : Hid (OwnT D w5 v5 (sts ((l.take (k + 1)).flatMap cardT))) := by unfold Hid; rw [HT2.out]; show OwnT D w5 v5 (XS ++ [bts beginT, bts versT] ++ YS ++ [(⟨#[69, 78, 68, 58, 86, 67, 65, 82, 68]⟩ : ByteArray)]); simpa using o5
        have B5 : Hid (Below D w w5) := B4.out.trans b5
        clear o5 b5
        go_wp2_with fail
        go_roundw
        case rel => exact ⟨k + 1, _, rfl, by go_num, by omega, O5, B5, A2⟩
        case measure => simp [intOf]; omega
      · have hw : Hid (writeV l = ([], 12)) := right_bad HMEM.out hno
        clear hno
        go_wp2_with fail
        go_ret2
        unfold WritesV
        rw [hw.out]
        exact ⟨rfl, HUP.out _ B1.out⟩
    · have hke : k = n := by omega
      have hcn : Hid (l.take k = l) := List.take_of_length_le (by rw [HN.out]; omega)
      have hoe := HO.out
      have hae := HALL.out
      rw [hcn.out] at hoe hae
      have HR : Hid (rightV l = true) := right_all (by rw [HN.out]; omega) hae
      have HFF := HFO.out lx (sts (l.flatMap cardT)) wr (HUP.out _ HBW.out) hoe.reads HBK.out
      rw [btl_sts2] at HFF
      obtain ⟨F, hF⟩ : ∃ F, Tx.foldL (l.flatMap cardT) = F := ⟨_, rfl⟩
      have hwr := write_right HR.out
      rw [hF] at HFF hwr
      obtain ⟨fb, hfb⟩ : ∃ fb : ByteArray, ⟨F.toArray⟩ = fb := ⟨_, rfl⟩
      have HFS : Hid (fb.size = F.length) := by rw [← hfb]; exact Lib.size_eq _
      have HFB : Hid (fb = bts F) := hfb.symm
      rw [hfb] at HFF
      have HFH := Lib.hid HFF
      have HWR := Lib.hid hwr
      have HZ : Hid (D ≤ wr.heap.size) := by have := (HUP.out _ HBW.out).size; have := HDE.out; unfold Hid; omega
      obtain ⟨LA, ln, lcap, rfl⟩ : ∃ A n cap, lx = .slice A n cap := by obtain ⟨A, cap, e⟩ := HO.out.slice; exact ⟨A, _, cap, e⟩
      clear hlx hoe hae hF hfb hwr HFF hke
      go_wp2_with fail
      refine HFH.out.mono ?_
      rintro e w1 ⟨rfl, b1⟩
      have B1 : Hid (Below D w w1) := HBW.out.trans (b1.mono HZ.out)
      clear b1
      by_cases hbig : 20000 < F.length
      · have hbz : 20000 < fb.size := by rw [HFS.out]; exact hbig
        have hw : Hid (writeV l = ([], 4)) := by unfold Hid; rw [HWR.out, if_pos hbig]
        clear hbig
        go_wp2_with fail
        go_ret2
        unfold WritesV
        rw [hw.out]
        exact ⟨rfl, HUP.out _ B1.out⟩
      · have hbz : ¬ 20000 < fb.size := by rw [HFS.out]; exact hbig
        have hw : Hid (writeV l = (F, 0)) := by unfold Hid; rw [HWR.out, if_neg hbig]
        clear hbig
        go_wp2_with fail
        go_ret2
        unfold WritesV
        rw [hw.out, HFB.out]
        exact ⟨rfl, HUP.out _ B1.out⟩
end Go.Proofs.YtfbdnaclkfmiaaaGreatDoor
