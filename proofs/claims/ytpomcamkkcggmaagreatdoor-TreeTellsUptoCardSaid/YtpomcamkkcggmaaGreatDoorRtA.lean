/- Texts laid together: RtA RtB -/
import Derived.Test.YtpomcamkkcggmaaGreatDoorTrY
import Derived.Test.YtpomcamkkcggmaaGreatDoorRfD
import Derived.Deep.RegionLaw
/-
  cardexref08: Blank, Kids, AttrOf.
-/
namespace Go.Proofs.YtpomcamkkcggmaaGreatDoor
open Go.RowKit Tk Tr

set_option maxHeartbeats 2000000 in
theorem rBlank_any (s : ByteArray) (w : World) (hs : s.size ≤ 1000000000000) :
    Calls Tryz.prog 24 #[.string s] w fun e w' => e = .returned (.bool (blankL s.data.toList)) ∧ w' = w := by
  have HSZ := Lib.hid (Lib.size_eq s)
  go_enter Tryz.func24, Tryz.ntmps24
  go_wp2_with fail
  go_loop [3] (fun nv => ∃ (j : Nat), j ≤ s.size ∧ nv = .int .i64 j ∧ Hid (∀ i, i < j → bl (s.data.toList.getD i 0) = true)) (fun nv => s.size - (intOf nv).toNat)
  case atStart => exact ⟨0, Nat.zero_le _, rfl, fun i h => absurd h (Nat.not_lt_zero _)⟩
  case round =>
    obtain ⟨j, hjs, rfl, hall⟩ := hrel
    by_cases hlt : j < s.size
    · have hgd : Hid (s.data.toList.getD j 0 = s[j]'hlt) := by
        unfold Hid
        rw [List.getD_eq_getElem?_getD, Lib.data_getElem? s j hlt]
        rfl
      obtain ⟨c, hc⟩ : ∃ c : UInt8, s[j]'hlt = c := ⟨_, rfl⟩
      have HC := Lib.hid (hgd.out.trans hc)
      have HQ := Lib.hid (fun W => rblank_any c W)
      cases hpc : bl c with
      | true =>
        rw [hpc] at HQ
        have hall2 : Hid (∀ i, i < j + 1 → bl (s.data.toList.getD i 0) = true) := fun i h2 => by
          rcases Nat.lt_or_ge i j with h | h
          · exact hall.out i h
          · obtain rfl : i = j := by omega
            rw [HC.out]; exact hpc
        clear hpc hgd
        go_wp2_with (go_at_call 38; refine (HQ.out _).mono ?_; rintro e w1 ⟨rfl, rfl⟩)
        go_round
        case rel => exact ⟨j + 1, by omega, by go_num, hall2⟩
        case measure => simp [intOf]; omega
      | false =>
        rw [hpc] at HQ
        have hb : Hid (blankL s.data.toList = false) := by
          unfold Hid blankL
          rw [List.all_eq_false]
          refine ⟨s.data.toList.getD j 0, ?_, by rw [HC.out, hpc]; decide⟩
          rw [List.getD_eq_getElem?_getD, List.getElem?_eq_getElem (by have := HSZ.out; omega)]
          exact List.getElem_mem _
        clear hpc hgd
        go_wp2_with (go_at_call 38; refine (HQ.out _).mono ?_; rintro e w1 ⟨rfl, rfl⟩)
        go_ret
        exact ⟨by rw [hb.out]; rfl, rfl⟩
    · have hb : Hid (blankL s.data.toList = true) := by
        unfold Hid blankL
        rw [List.all_eq_true]
        intro x hx
        obtain ⟨i, hi, rfl⟩ := List.getElem_of_mem hx
        have := hall.out i (by have := HSZ.out; omega)
        rw [List.getD_eq_getElem?_getD, List.getElem?_eq_getElem hi] at this
        exact this
      go_wp2_with fail
      go_ret
      exact ⟨by rw [hb.out]; rfl, rfl⟩
set_option maxHeartbeats 4000000 in
set_option maxRecDepth 100000 in
theorem rkids_any (v : Value) (ns : List Nd) (i : Int) (w : World) (hv : ReadN w v ns) (hl : ns.length ≤ 1000000) :
    Calls Tryz.prog 18 #[v, .int .i64 i] w fun e w' => (∃ v', e = .returned v' ∧ Owned w.heap.size w' v' (kidsL ns i)) ∧ Below w.heap.size w w' := by
  obtain ⟨A, cap, rfl, hx⟩ := hv
  have HX := Lib.hid hx
  obtain ⟨n, hn⟩ : ∃ n, ns.length = n := ⟨_, rfl⟩
  have HN := Lib.hid hn
  rw [hn] at hl HX ⊢
  clear hx
  by_cases hii : 0 ≤ i ∧ i < n
  · have HR : Hid (kidsL ns i = kidsF i 0 ns) := by unfold Hid kidsL; rw [if_pos (by omega)]
    have g0 : decide (i ≥ 0) = true := decide_eq_true (by omega)
    have g1 : decide (i < (n : Int)) = true := decide_eq_true (by omega)
    clear hn hii
    go_enter Tryz.func18, Tryz.ntmps18
    go_wp2_with fail
    go_loopw [5, 6] (fun kv c wr => ∃ (k : Nat) (nw : Value), k ≤ n ∧ c = .int .i64 k ∧ kv = nw ∧ Hid (Owned w.heap.size wr nw (kidsF i 0 (ns.take k))) ∧ Hid (Below w.heap.size w wr)) (fun _ c _ => n - (intOf c).toNat)
    case atStart => exact ⟨0, _, Nat.zero_le _, rfl, rfl, Owned.nil _ _, Below.refl _ _⟩
    case round =>
      obtain ⟨k, nw, hk, rfl, hnv, ho, hb⟩ := hrel
      have hnv2 := hnv.symm
      clear hnv
      subst hnv2
      obtain ⟨KA, kcap, hnf⟩ := ho.out.slice
      subst hnf
      obtain ⟨kn, hkn⟩ : ∃ kn, (kidsF i 0 (ns.take k)).length = kn := ⟨_, rfl⟩
      have hknb : kn ≤ 1000000 := by rw [← hkn]; have := kidsF_len i 0 (ns.take k); rw [List.length_take] at this; omega
      have HKN := Lib.hid hkn
      rw [hkn] at ho ⊢
      clear hkn
      by_cases hlt : k < n
      · obtain ⟨ad, rfl, hlb, hc⟩ := HX.out (by omega)
        obtain ⟨x, hx⟩ : ∃ x, ns[k]? = some x := ⟨_, List.getElem?_eq_getElem (by have := HN.out; omega)⟩
        obtain ⟨u, hat, hua⟩ := hc k x hx
        obtain ⟨k0, -⟩ := hat.of (w' := wr) (hb.out.block _ (by rw [addBlock]; exact hlb))
        have HKT := Lib.hid (kids_take (i := i) hx)
        obtain ⟨a0, h0⟩ : ∃ a : Int, x.1 = a := ⟨_, rfl⟩
        rw [h0] at k0 HKT
        clear hc hx hat h0 hua
        by_cases hd : a0 = i
        · have gd : (a0 == i) = true := by simpa using hd
          have HKT2 : Hid (kidsF i 0 (ns.take (k + 1)) = kidsF i 0 (ns.take k) ++ [k]) := by unfold Hid; rw [HKT.out, if_pos hd]
          have hz := hb.out.size
          have hkl : (kidsF i 0 (ns.take k)).length ≤ 2000000000 := by rw [HKN.out]; omega
          clear hd
          go_wp2_with (at_builtin; refine push_int rfl _ _ rfl w.heap.size (.slice KA kn kcap) (kidsF i 0 (ns.take k)) k _ rfl wr rfl ho.out rfl hkl hz ?_)
          intro v9 w9 o9 b9 k9
          have O9 : Hid (Owned w.heap.size w9 v9 (kidsF i 0 (ns.take (k + 1)))) := by unfold Hid; rw [HKT2.out]; exact o9
          have B9 : Hid (Below w.heap.size w w9) := hb.out.trans b9
          clear o9 b9 k9 hz hkl
          go_wp2_with fail
          go_roundw
          case rel => exact ⟨k + 1, _, by omega, by go_num, rfl, O9, B9⟩
          case measure => simp [intOf]; omega
        · have gd : (a0 == i) = false := by simpa using hd
          have HKT2 : Hid (kidsF i 0 (ns.take (k + 1)) = kidsF i 0 (ns.take k)) := by unfold Hid; rw [HKT.out, if_neg hd, List.append_nil]
          clear hd
          go_wp2_with fail
          go_roundw
          case rel => exact ⟨k + 1, _, by omega, by go_num, rfl, by rw [HKT2.out]; exact ho, hb⟩
          case measure => simp [intOf]; omega
      · have HT : Hid (ns.take k = ns) := by unfold Hid; rw [List.take_of_length_le (by have := HN.out; omega)]
        go_wp2_with fail
        go_ret
        rw [HR.out]
        refine ⟨⟨_, rfl, ?_⟩, hb.out⟩
        have h1 := ho.out
        rw [HT.out] at h1
        exact h1
  · have HR : Hid (kidsL ns i = []) := by unfold Hid kidsL; rw [if_neg (by omega)]
    have hg : (decide (i ≥ 0) = false) ∨ (decide (i ≥ 0) = true ∧ decide (i < (n : Int)) = false) := by
      by_cases h : i ≥ 0
      · exact .inr ⟨decide_eq_true h, decide_eq_false (by omega)⟩
      · exact .inl (decide_eq_false h)
    clear hn hii
    by_cases h0 : 0 < n
    · rcases hg with g0 | ⟨g0, g1⟩
      · go_enter Tryz.func18, Tryz.ntmps18
        go_wp2_with fail
        go_loopw [5, 6] (fun kv c wr => kv = .slice none 0 0 ∧ c = .int .i64 0 ∧ wr = w) (fun _ _ _ => 0)
        case atStart => exact ⟨rfl, rfl, rfl⟩
        case round =>
          obtain ⟨rfl, rfl, rfl⟩ := hrel
          go_wp2_with fail
          go_ret
          rw [HR.out]
          exact ⟨⟨_, rfl, Owned.nil _ _⟩, Below.refl _ _⟩
      · go_enter Tryz.func18, Tryz.ntmps18
        go_wp2_with fail
        go_loopw [5, 6] (fun kv c wr => kv = .slice none 0 0 ∧ c = .int .i64 0 ∧ wr = w) (fun _ _ _ => 0)
        case atStart => exact ⟨rfl, rfl, rfl⟩
        case round =>
          obtain ⟨rfl, rfl, rfl⟩ := hrel
          go_wp2_with fail
          go_ret
          rw [HR.out]
          exact ⟨⟨_, rfl, Owned.nil _ _⟩, Below.refl _ _⟩
    · go_enter Tryz.func18, Tryz.ntmps18
      go_wp2_with fail
      go_loopw [5, 6] (fun kv c wr => kv = .slice none 0 0 ∧ c = .int .i64 0 ∧ wr = w) (fun _ _ _ => 0)
      case atStart => exact ⟨rfl, rfl, rfl⟩
      case round =>
        obtain ⟨rfl, rfl, rfl⟩ := hrel
        go_wp2_with fail
        go_ret
        rw [HR.out]
        exact ⟨⟨_, rfl, Owned.nil _ _⟩, Below.refl _ _⟩
set_option maxHeartbeats 2000000 in
theorem rattr_of_any (a0 a1 : Int) (a2 a3 a5 : ByteArray) (u : Value) (al : List Att) (n : List UInt8) (w : World) (hu : ReadA w u al) (hl : al.length ≤ 1000000000000) :
    Calls Tryz.prog 13 #[.agg #[.int .i64 a0, .int .i64 a1, .string a2, .string a3, u, .string a5], .string (bts n)] w fun e w' => e = .returned (.tuple #[.string (bts (attrOf al n).1), .bool (attrOf al n).2]) ∧ Below w.heap.size w w' := by
  obtain ⟨UA, ucap, rfl, hx⟩ := hu
  have HX := Lib.hid hx
  obtain ⟨un, hun⟩ : ∃ un, al.length = un := ⟨_, rfl⟩
  have HN := Lib.hid hun
  rw [hun] at hl HX ⊢
  obtain ⟨Y, hY⟩ : ∃ Y, w.heap.size = Y := ⟨_, rfl⟩
  obtain ⟨W1, hW1⟩ : ∃ W1, w.alloc (.cells #[.int .i64 a0, .int .i64 a1, .string a2, .string a3, .slice UA un ucap, .string a5] 34) = W1 := ⟨_, rfl⟩
  have HB : Hid (Below w.heap.size w W1) := by rw [← hW1]; exact (Below.refl _ _).alloc (Nat.le_refl _) _
  have y4 : W1.cell? ⟨Y, 4, none⟩ = some (.slice UA un ucap) := by rw [← hW1, ← hY]; exact (Bk.new _ _ _).cell 4
  have HA : Hid (attrOf al n = match al.find? (fun a => decide (a.1 = n)) with | some a => (a.2, true) | none => ([], false)) := rfl
  have HW1 := Lib.hid hW1
  have HYE := Lib.hid hY
  obtain ⟨N, hN⟩ : ∃ N, bts n = N := ⟨_, rfl⟩
  have HNB := Lib.hid hN
  rw [hN]
  clear hun hW1 hY hx hN
  go_enter Tryz.func13, Tryz.ntmps13
  go_upto_region 1 with fail
  rw [HW1.out, HYE.out]
  go_wp2_with fail
  go_loopw [6] (fun i wr => ∃ (k : Nat), k ≤ un ∧ i = .int .i64 k ∧ Hid (∀ j a, j < k → al[j]? = some a → a.1 ≠ n) ∧ wr = W1) (fun i _ => un - (intOf i).toNat)
  case atStart => exact ⟨0, Nat.zero_le _, rfl, Lib.hid (fun j a h => absurd h (Nat.not_lt_zero _)), rfl⟩
  case round =>
    obtain ⟨k, hk, rfl, hno, rfl⟩ := hrel
    by_cases hlt : k < un
    · obtain ⟨ad, rfl, hlb, hc⟩ := HX.out (by omega)
      obtain ⟨c, hcx⟩ : ∃ c, al[k]? = some c := ⟨_, List.getElem?_eq_getElem (by have := HN.out; omega)⟩
      obtain ⟨c0, c1⟩ := hc k c hcx
      rw [← HB.out.cell (p := ad.add (k * 2)) (by rw [addBlock]; exact hlb)] at c0
      rw [← HB.out.cell (p := ⟨(ad.add (k * 2)).block, (ad.add (k * 2)).off + 1, none⟩) (by show (ad.add (k * 2)).block < _; rw [addBlock]; exact hlb)] at c1
      have HC := Lib.hid hcx
      have heq := bts_eqb2 c.1 n
      rw [HNB.out] at heq
      obtain ⟨y0, h0⟩ : ∃ a, bts c.1 = a := ⟨_, rfl⟩
      rw [h0] at c0 heq
      clear hc hcx h0
      by_cases hq : c.1 = n
      · have hf := Lib.hid (findA_hit HC.out hq hno.out)
        have HR : Hid (attrOf al n = (c.2, true)) := by unfold Hid; rw [HA.out, hf.out]
        rw [decide_eq_true hq] at heq
        clear hq hf
        go_wp2_with fail
        refine bodyPost_ret (v := .tuple #[.string (bts c.2), .bool true]) (by simp [results, Tryz.results13, go_sem]) rfl ⟨by rw [HR.out], HB.out⟩
      · have hno2 : Hid (∀ j a, j < k + 1 → al[j]? = some a → a.1 ≠ n) := fun j a hj ha => by
          rcases Nat.lt_or_ge j k with h | h
          · exact hno.out j a h ha
          · obtain rfl : j = k := by omega
            rw [HC.out] at ha
            cases ha
            exact hq
        rw [decide_eq_false hq] at heq
        clear hq
        go_wp2_with fail
        go_roundw
        case rel => exact ⟨k + 1, by omega, by go_num, hno2, trivial⟩
        case measure => simp [intOf]; omega
    · have hke : Hid (al.length ≤ k) := by unfold Hid; have := HN.out; omega
      have hf := Lib.hid (findA_miss (x := al) (n := n) (fun j a hj ha => hno.out j a (by have := hke.out; omega) ha))
      have HR : Hid (attrOf al n = ([], false)) := by unfold Hid; rw [HA.out, hf.out]
      go_wp2_with fail
      refine bodyPost_ret (v := .tuple #[.string ⟨#[]⟩, .bool false]) (by simp [results, Tryz.results13, go_sem]) rfl ⟨by rw [HR.out], HB.out⟩
end Go.Proofs.YtpomcamkkcggmaaGreatDoor
/-
  cardexref08: what grows; begin.
-/
namespace Go.Proofs.YtpomcamkkcggmaaGreatDoor
open Go.RowKit Tk Tr

def bare (x : Nd) : Nd := (x.1, x.2.1, x.2.2.1, x.2.2.2.1, x.2.2.2.2.1, [])
def txt (x : Nd) : List UInt8 := x.2.2.2.2.2
/-- What grows, at block G, in the document's way: the nodes, bare; those that are open; the texts. -/
def RS (B G : Nat) (w : World) (st : St) : Prop := ∃ lv ov tv, Bk w G 57 #[lv, ov, tv] ∧ OwnN B w lv (st.1.map bare) ∧ Owned B w ov st.2 ∧ OwnT B w tv (st.1.map txt)
theorem RS.lt {B G : Nat} {w : World} {st : St} (h : RS B G w st) : G < w.heap.size := by
  obtain ⟨_, _, _, hb, _⟩ := h
  exact hb.lt
theorem RS.below {B G : Nat} {w w' : World} {st : St} (h : RS B G w st) (hb : Below w.heap.size w w') : RS B G w' st := by
  obtain ⟨lv, ov, tv, h1, h2, h3, h4⟩ := h
  exact ⟨lv, ov, tv, h1.below hb h1.lt, h2.below hb, h3.below hb, h4.keep (.below hb)⟩
theorem RS.cells {B G : Nat} {w : World} {st : St} (h : RS B G w st) : ∃ A cap A' cap' A'' cap'', Bk w G 57 #[.slice A st.1.length cap, .slice A' st.2.length cap', .slice A'' st.1.length cap''] ∧ OwnN B w (.slice A st.1.length cap) (st.1.map bare) ∧ Owned B w (.slice A' st.2.length cap') st.2 ∧ OwnT B w (.slice A'' st.1.length cap'') (st.1.map txt) := by
  obtain ⟨lv, ov, tv, h1, h2, h3, h4⟩ := h
  obtain ⟨A, cap, rfl⟩ := h2.slice
  obtain ⟨A', cap', rfl⟩ := h3.slice
  obtain ⟨A'', cap'', rfl⟩ := h4.slice
  simp only [List.length_map] at h1 h2 h4
  exact ⟨A, cap, A', cap', A'', cap'', h1, h2, h3, h4⟩
/-- An append of one element to a row that the call has made, in a region that draws its order. -/
theorem step_row {ops : Array Oper} {o : Oper} {a : Act} {K : Act → World → Prop} {Q : Exit → Act → World → Prop} {E : Prop} (hgd : o.guard = none) (s y : Operand) {T e : TypeId} {i : TypeInfo} {z : Value} {size bytes : Nat} (ho : o.op = .call { callee := .builtin .append, args := #[s, y], argTypes := #[T, T] })
    (ht : Tryz.prog.underlying T = some (.slice e)) (hi : Tryz.prog.info? e = some i) (hz : i.zero = some z) (hsize : i.size = size) (hby : i.bytes = bytes) (hzs : z.cells.size = size) (hsz : 0 < size) (hb1 : bytes ≤ 1000)
    (B : Nat) (v : Value) (n : Nat) (xs news : List Value) (w0 W : World) (H : Nat) (hW : Below w0.heap.size w0 W) (hWb : Bk W H e news.toArray)
    (hs : a.eval s = v) (hown : w0.ownsRow B e size v n xs) (hy : a.eval y = .slice (some ⟨H, 0, none⟩) 1 1) (hl : news.length = size) (h1 : ∀ u ∈ news, u.oneCell' = true) (hn : n ≤ 1000000000) (hB : B ≤ w0.heap.size)
    (h : ∀ v' w', w'.ownsRow B e size v' (n + 1) (xs ++ news) → Below B w0 w' → (∀ k cs t, Bk w0 k t cs → t ≠ e → Bk w' k t cs) → K (a.put o.dst v') w') : if Region.wanted o (yielded ops a.tmps) = true then Oper.wp Tryz.prog o a W K Q else E := by
  have hw : Region.wanted o (yielded ops a.tmps) = true := by simp [Region.wanted, hgd]
  rw [if_pos hw]
  have hownW : W.ownsRow B e size v n xs := row_keep hown (.below hW)
  have hmul : (n + 1) * bytes ≤ 140737488355328 := by
    have := Nat.mul_le_mul (show n + 1 ≤ 1000000001 by omega) hb1
    omega
  refine wp_append_own _ s y T ho B e i z size bytes ht hi hz hsize hby hzs hsz v n xs hs hownW ⟨H, 0, none⟩ 1 1 news hy (by rw [hl, Nat.one_mul]) ?_ h1 ?_ hmul (by have := hW.size; omega) ?_
  · intro j u hj
    rw [add_at, hWb.cell, Nat.zero_add, List.getElem?_toArray]
    exact hj
  · unfold maxLen; omega
  · intro v' w' hown2 hg _
    have hrow : ∀ g, v.ownBlock = some g → ∃ cs, Bk W g e cs := row_block hownW
    refine h v' w' hown2 ?_ (fun k cs t hk ht => (KeepT.below hW).trans (KeepT.grown hg hrow (fun e => ht e.symm)) k cs hk)
    exact (hW.mono hB).grown hg (by have := hW.size; omega) (fun j hj => (World.ownsRow.lt hown j hj).1)
theorem step_node {ops : Array Oper} {o : Oper} {a : Act} {K : Act → World → Prop} {Q : Exit → Act → World → Prop} {E : Prop} (hgd : o.guard = none) (s y : Operand) (ho : o.op = .call { callee := .builtin .append, args := #[s, y], argTypes := #[23, 23] })
    (B : Nat) (v : Value) (ns : List Nd) (x : Nd) (av : Value) (k0 k1 : Int) (s2 s3 s5 : ByteArray) (e0 : x.1 = k0) (e1 : x.2.1 = k1) (e2 : bts x.2.2.1 = s2) (e3 : bts x.2.2.2.1 = s3) (e5 : bts x.2.2.2.2.2 = s5) (w0 W : World) (H : Nat) (hW : Below w0.heap.size w0 W)
    (hWb : Bk W H 34 #[.int .i64 k0, .int .i64 k1, .string s2, .string s3, av, .string s5])
    (hs : a.eval s = v) (hown : OwnN B w0 v ns) (hu : RowA w0 av x.2.2.2.2.1) (hy : a.eval y = .slice (some ⟨H, 0, none⟩) 1 1) (hn : ns.length ≤ 1000000000) (hB : B ≤ w0.heap.size)
    (h : ∀ v' w', OwnN B w' v' (ns ++ [x]) → Below B w0 w' → (∀ k cs t, Bk w0 k t cs → t ≠ 34 → Bk w' k t cs) → K (a.put o.dst v') w') : if Region.wanted o (yielded ops a.tmps) = true then Oper.wp Tryz.prog o a W K Q else E := by
  subst e0 e1 e2 e3 e5
  obtain ⟨i0, hi, hz0, hz1, hz2⟩ := info_parts infoNod
  obtain ⟨ks, hks, hown', hr⟩ := hown
  have hl : ns.length = ks.length := by rw [← hks, List.length_map]
  refine step_row hgd s y ho Tryz.underlying23 hi hz0 hz1 hz2 rfl (by decide) (by decide) B v ks.length (nds ks) (encN (x, av)) w0 W H hW hWb hs hown' hy rfl ?_ (by omega) hB ?_
  · intro u hy
    simp [encN] at hy
    rcases hy with rfl | rfl | rfl | rfl | rfl | rfl
    · rfl
    · rfl
    · rfl
    · rfl
    · exact hu.one
    · rfl
  · intro v' w' hown2 hb hk
    exact h v' w' (OwnN.pushed x av hks hr hu hown2 (fun k cs hkk => hk k cs _ hkk (by decide))) hb hk
theorem step_text {ops : Array Oper} {o : Oper} {a : Act} {K : Act → World → Prop} {Q : Exit → Act → World → Prop} {E : Prop} (hgd : o.guard = none) (s y : Operand) (ho : o.op = .call { callee := .builtin .append, args := #[s, y], argTypes := #[42, 42] })
    (B : Nat) (v : Value) (l : List (List UInt8)) (c : List UInt8) (sc : ByteArray) (hc : bts c = sc) (w0 W : World) (H : Nat) (hW : Below w0.heap.size w0 W) (hWb : Bk W H 9 #[.string sc])
    (hs : a.eval s = v) (hown : OwnT B w0 v l) (hy : a.eval y = .slice (some ⟨H, 0, none⟩) 1 1) (hn : l.length ≤ 1000000000) (hB : B ≤ w0.heap.size)
    (h : ∀ v' w', OwnT B w' v' (l ++ [c]) → Below B w0 w' → (∀ k cs t, Bk w0 k t cs → t ≠ 9 → Bk w' k t cs) → K (a.put o.dst v') w') : if Region.wanted o (yielded ops a.tmps) = true then Oper.wp Tryz.prog o a W K Q else E := by
  subst hc
  obtain ⟨i0, hi, hz0, hz1, hz2⟩ := info_parts infoStr
  refine step_row hgd s y ho Tryz.underlying42 hi hz0 hz1 hz2 rfl (by decide) (by decide) B v l.length (sts l) [.string (bts c)] w0 W H hW hWb hs hown hy rfl ?_ hn hB ?_
  · intro u hu
    simp at hu
    subst hu
    rfl
  · intro v' w' hown2 hb hk
    refine h v' w' ?_ hb hk
    unfold OwnT
    rw [sts_snoc, List.length_append, List.length_singleton]
    exact hown2
theorem step_int {ops : Array Oper} {o : Oper} {a : Act} {K : Act → World → Prop} {Q : Exit → Act → World → Prop} {E : Prop} (hgd : o.guard = none) (s y : Operand) (ho : o.op = .call { callee := .builtin .append, args := #[s, y], argTypes := #[38, 38] })
    (B : Nat) (v : Value) (l : List Nat) (c : Nat) (z : Int) (hc : (c : Int) = z) (w0 W : World) (H : Nat) (hW : Below w0.heap.size w0 W) (hWb : Bk W H 3 #[.int .i64 z])
    (hs : a.eval s = v) (hown : Owned B w0 v l) (hy : a.eval y = .slice (some ⟨H, 0, none⟩) 1 1) (hn : l.length ≤ 1000000000) (hB : B ≤ w0.heap.size)
    (h : ∀ v' w', Owned B w' v' (l ++ [c]) → Below B w0 w' → (∀ k cs t, Bk w0 k t cs → t ≠ 3 → Bk w' k t cs) → K (a.put o.dst v') w') : if Region.wanted o (yielded ops a.tmps) = true then Oper.wp Tryz.prog o a W K Q else E := by
  subst hc
  obtain ⟨i0, hi, hz0, hz1, hz2⟩ := info_parts infoInt
  refine step_row hgd s y ho Tryz.underlying38 hi hz0 hz1 hz2 rfl (by decide) (by decide) B v l.length (ints l) [.int .i64 (c : Nat)] w0 W H hW hWb hs hown hy rfl ?_ hn hB ?_
  · intro u hu
    simp at hu
    subst hu
    rfl
  · intro v' w' hown2 hb hk
    refine h v' w' ?_ hb hk
    unfold Owned
    rw [ints_snoc, List.length_append, List.length_singleton]
    exact hown2
theorem step_attr {ops : Array Oper} {o : Oper} {a : Act} {K : Act → World → Prop} {Q : Exit → Act → World → Prop} {E : Prop} (hgd : o.guard = none) (s y : Operand) (ho : o.op = .call { callee := .builtin .append, args := #[s, y], argTypes := #[32, 32] })
    (B : Nat) (v : Value) (l : List Att) (p : Att) (x1 x2 : ByteArray) (h1 : bts p.1 = x1) (h2 : bts p.2 = x2) (w0 W : World) (H : Nat) (hW : Below w0.heap.size w0 W) (hWb : Bk W H 63 #[.string x1, .string x2])
    (hs : a.eval s = v) (hown : OwnA B w0 v l) (hy : a.eval y = .slice (some ⟨H, 0, none⟩) 1 1) (hn : l.length ≤ 1000000000) (hB : B ≤ w0.heap.size)
    (h : ∀ v' w', OwnA B w' v' (l ++ [p]) → Below B w0 w' → (∀ k cs t, Bk w0 k t cs → t ≠ 63 → Bk w' k t cs) → K (a.put o.dst v') w') : if Region.wanted o (yielded ops a.tmps) = true then Oper.wp Tryz.prog o a W K Q else E := by
  subst h1 h2
  obtain ⟨i0, hi, hz0, hz1, hz2⟩ := info_parts infoAtt
  refine step_row hgd s y ho Tryz.underlying32 hi hz0 hz1 hz2 rfl (by decide) (by decide) B v l.length (ats l) [.string (bts p.1), .string (bts p.2)] w0 W H hW hWb hs hown hy rfl ?_ hn hB ?_
  · intro u hu
    simp at hu
    rcases hu with rfl | rfl <;> rfl
  · intro v' w' hown2 hb hk
    refine h v' w' ?_ hb hk
    unfold OwnA
    rw [ats_append, ats_one, List.length_append, List.length_singleton]
    exact hown2
/-- How far the document's loop over the attributes is. -/
def spK (st : St) (al : List Att) : List UInt8 := spaceOf st al
def sdK (al : List Att) : Bool := al.any isX
theorem sp_step {st : St} {al : List Att} {k : Nat} {c : Att} (h : al[k]? = some c) : spK st (al.take (k + 1)) = (if isX c && !sdK (al.take k) then c.2 else spK st (al.take k)) ∧ sdK (al.take (k + 1)) = (sdK (al.take k) || isX c) := by
  rw [List.take_add_one, h]
  show spK st (al.take k ++ [c]) = _ ∧ sdK (al.take k ++ [c]) = _
  constructor
  · unfold spK spaceOf sdK
    rw [List.find?_append]
    cases hf : (al.take k).find? isX with
    | some y =>
      have : (al.take k).any isX = true := by
        rw [List.any_eq_true]
        exact ⟨y, List.mem_of_find?_eq_some hf, List.find?_some hf⟩
      rw [this]
      simp
    | none =>
      have : (al.take k).any isX = false := by
        rw [List.any_eq_false]
        intro x hx
        exact List.find?_eq_none.1 hf x hx
      rw [this, List.find?_cons]
      cases isX c <;> simp
  · unfold sdK
    simp
end Go.Proofs.YtpomcamkkcggmaaGreatDoor
