import Derived.Test.YtbgaglcgennhiaaGreatDoorB19
/- what is reached of it -/
namespace Go.Proofs.YtbgaglcgennhiaaGreatDoor
open Go.RowKit Rg Tx
/-- The slice v, made by the call (above block B), holds just the bytes l. -/
def OwnB (B : Nat) (w : World) (v : Value) (l : List UInt8) : Prop := w.ownsRow B 5 1 v l.length (Lib.byteCells l)
theorem OwnB.nil (B : Nat) (w : World) : OwnB B w (.slice none 0 0) [] := World.ownsRow_nil _ _ _ _
theorem OwnB.slice {B : Nat} {w : World} {v : Value} {l : List UInt8} (h : OwnB B w v l) : ∃ A cap, v = .slice A l.length cap := by
  rcases h.2 with ⟨rfl, h0⟩ | ⟨g, cap, cur, rfl, _⟩
  · exact ⟨none, 0, by rw [h0]⟩
  · exact ⟨_, _, rfl⟩
theorem push_bytes : ∀ (p : List UInt8) (r : ByteArray), ((p.map fun c : UInt8 => (c.toNat : Int)).foldl (fun r n => r.push (UInt8.ofNat n.toNat)) r) = ⟨(r.data.toList ++ p).toArray⟩
  | [], r => by simp
  | c :: t, r => by
    rw [List.map_cons, List.foldl_cons, push_bytes t]
    have : (r.push (UInt8.ofNat ((c.toNat : Int)).toNat)).data.toList = r.data.toList ++ [c] := by
      show (r.data.push _).toList = _
      rw [Array.toList_push]
      simp
    rw [this]
    simp
/-- 'string(b)' -/
theorem OwnB.text {P : Program} {tb ts te : TypeId} (hb : P.underlying tb = some (.slice te)) (he : P.underlying te = some (.int .u8)) (hs : P.underlying ts = some .string) {B : Nat} {W : World} {v : Value} {p : List UInt8} (h : OwnB B W v p) :
    (convert tb ts v).run P W = .ok (.string ⟨p.toArray⟩) W := by
  have h' : W.ownsRow B 5 1 v p.length (Lib.byteCells p) := h
  rcases h'.2 with ⟨rfl, h0⟩ | ⟨g, cap, cur, rfl, _⟩
  · obtain rfl : p = [] := List.eq_nil_of_length_eq_zero h0
    rw [run_convert_bytes_string _ tb ts te _ _ _ hb he hs]
    simp [Conv.bytesToString]
    rfl
  · rw [run_convert_bytes_string _ tb ts te _ _ _ hb he hs]
    have hl := run_loadCells_list (P := P) (w := W) ⟨g, 0, none⟩ (Lib.byteCells p) (fun j u hj => h'.cells (g := g) rfl j u hj)
    rw [Lib.byteCells_length] at hl
    have := run_bytesToString (P := P) W ⟨g, 0, none⟩ p.length cap (p.map fun c : UInt8 => (c.toNat : Int)) (by
      rw [hl, List.map_map]
      rfl)
    rw [this, push_bytes]
    congr 3

set_option maxHeartbeats 1000000 in
theorem encoded_any (B c : Nat) (d : Value) (l : List UInt8) (W : World) (hB : B ≤ W.heap.size) (ho : OwnB B W d l) (hl : l.length ≤ 1000000000000) (hc : sane c) :
    Calls Tryz.prog 229 #[d, .int .i64 c] W fun e w' => ∃ d', e = .returned d' ∧ OwnB B w' d' (l ++ enc c) ∧ Below B W w' := by
  have hc1 : c ≤ 1114111 := by unfold sane at hc; omega
  have HA := Lib.hid (Tryz.utf8_AppendRune_plain B d l.length (Lib.byteCells l) (c : Int) (by omega) (by omega) W ho (by omega) hB)
  have HE := Lib.hid (show Lib.byteCells l ++ Lib.runeCells (c : Int) = Lib.byteCells (l ++ enc c) by rw [Lib.byteCells_append, ← encodeRune_enc hc, Lib.byteCells_encodeRune])
  have HN := Lib.hid (show l.length + (Lib.runeCells (c : Int)).length = (l ++ enc c).length by rw [List.length_append, ← encodeRune_enc hc, Lib.runeCells_length])
  have HW : Hid (∀ j, d.ownBlock = some j → B ≤ j) := fun j hj => (World.ownsRow.lt ho j hj).1
  obtain ⟨A, cap, hd⟩ := ho.slice
  obtain ⟨z, hz⟩ : ∃ z : Int, (c : Int) = z := ⟨_, rfl⟩
  have z0 : 0 ≤ z := by omega
  have z1 : z ≤ 1114111 := by omega
  rw [hz] at HA HE HN ⊢
  subst hd
  clear hz ho hc hc1
  go_enter Tryz.func229, Tryz.ntmps229
  go_wp2_with (go_at_call 255; refine HA.out.mono ?_)
  rintro e w2 ⟨v', rfl, hown', o, hgrow⟩
  rw [HE.out, HN.out] at hown'
  have O2 : Hid (OwnB B w2 v' (l ++ enc c)) := hown'
  have B2 : Hid (Below B W w2) := ((Below.refl B W).alloc hB o).grown hgrow (by simp; omega) HW.out
  obtain ⟨A2, cap2, hv2⟩ := O2.out.slice
  obtain ⟨n2, hn2⟩ : ∃ n2, (l ++ enc c).length = n2 := ⟨_, rfl⟩
  rw [hn2] at hv2
  subst hv2
  clear hown' hgrow hn2
  go_wp2_with fail
  go_ret
  exact ⟨_, rfl, O2.out, B2.out⟩
theorem flat_take {x : List Nat} {k : Nat} (h : k < x.length) : flat (x.take (k + 1)) = flat (x.take k) ++ enc (x.getD k 0) := by
  rw [List.take_add_one, List.getElem?_eq_getElem h, List.getD, List.getElem?_eq_getElem h, Option.toList_some, flat_append, flat_one, Option.getD_some]
theorem flat_len : ∀ x : List Nat, (flat x).length ≤ 4 * x.length
  | [] => by rw [flat_nil]; simp
  | c :: x => by
    have ih := flat_len x
    have := (enc_len (n := c)).2
    rw [show c :: x = [c] ++ x from rfl, flat_append, flat_one, List.length_append, List.length_append, List.length_singleton]
    omega
set_option maxHeartbeats 1000000 in
theorem bytes_any (v : Value) (x : List Nat) (w : World) (hv : Reads w.heap.size w v x) (hl : x.length ≤ 100000000000) (hx0 : ∀ c ∈ x, sane c) :
    Calls Tryz.prog 228 #[v, .func (.func 229) #[] #[]] w fun e w' => ∃ d, e = .returned d ∧ OwnB w.heap.size w' d (flat x) ∧ Below w.heap.size w w' := by
  obtain ⟨A, cap, rfl, hx⟩ := hv
  have HX := Lib.hid hx
  have HL := Lib.hid (fun k => flat_len (x.take k))
  have H0 := Lib.hid hx0
  clear hx hx0
  go_enter Tryz.func228, Tryz.ntmps228
  go_wp2_with fail
  go_loopw [5, 10] (fun vv i wr => ∃ (k : Nat) (d : Value), vv = d ∧ k ≤ x.length ∧ i = .int .i64 k ∧ Below w.heap.size w wr ∧ Hid (OwnB w.heap.size wr d (flat (x.take k)))) (fun _ i _ => x.length - (intOf i).toNat)
  case atStart => exact ⟨0, _, rfl, Nat.zero_le _, rfl, Below.refl _ _, by unfold Hid; rw [List.take_zero, flat_nil]; exact OwnB.nil _ _⟩
  case round =>
    obtain ⟨k, d, hd, hk, rfl, hb, ho⟩ := hrel
    have hd2 := hd.symm
    clear hd
    subst hd2
    have hsw := hb.size
    by_cases hlt : k < x.length
    · obtain ⟨ad, rfl, hlb, hc⟩ := HX.out (by omega)
      have c0 := hc k hlt
      rw [← hb.cell (p := ad.add k) (by rw [addBlock]; omega)] at c0
      obtain ⟨c, hcx⟩ : ∃ c, x.getD k 0 = c := ⟨_, rfl⟩
      have hcm : sane c := H0.out c (by rw [← hcx, List.getD, List.getElem?_eq_getElem hlt]; exact List.getElem_mem hlt)
      have htk := Lib.hid (flat_take hlt)
      rw [hcx] at c0 htk
      have hlen := HL.out k
      rw [List.length_take] at hlen
      have HN := Lib.hid (encoded_any w.heap.size c d _ wr hsw ho.out (by omega) hcm)
      obtain ⟨A2, c2, rfl⟩ := ho.out.slice
      obtain ⟨n2, hn2⟩ : ∃ n2, (flat (x.take k)).length = n2 := ⟨_, rfl⟩
      rw [hn2] at HN
      rw [hn2]
      clear hc hcx hlen hn2 ho hcm
      go_wp2_with (go_at_call 229; refine HN.out.mono ?_)
      rintro e w2 ⟨d2, rfl, o2, b2⟩
      have hb2 : Below w.heap.size w w2 := hb.trans b2
      have o3 : Hid (OwnB w.heap.size w2 d2 (flat (x.take (k + 1)))) := by unfold Hid; rw [htk.out]; exact o2
      clear b2 o2 htk HN
      go_wp2_with fail
      go_roundw
      case rel => exact ⟨k + 1, _, rfl, by omega, by go_num, hb2, o3⟩
      case measure => simp [intOf]; omega
    · have hke : k = x.length := by omega
      have ho2 : Hid (OwnB w.heap.size wr d (flat x)) := by
        have := ho.out
        rw [hke, List.take_length] at this
        exact this
      clear hke
      go_wp2_with fail
      go_ret
      exact ⟨_, rfl, ho2.out, hb⟩

theorem Reads.cells {B : Nat} {w : World} {A : Option Addr} {n cap : Nat} {x : List Nat} (h : Reads B w (.slice A n cap) x) : n = x.length ∧ (0 < x.length → ∃ ad : Addr, A = some ad ∧ ad.block < B ∧ ∀ i, i < x.length → w.cell? (ad.add i) = some (.int .i64 (x.getD i 0 : Nat))) := by
  obtain ⟨A', cap', e, h2⟩ := h
  injection e with e1 e2 e3
  subst e1
  exact ⟨e2, h2⟩
theorem wayB_none {x : List Nat} (h : x.any Pr.rl = false) : Pr.wayB x = true := by unfold Pr.wayB; rw [h]; rfl
theorem wayB_some {x : List Nat} (h : x.any Pr.rl = true) : Pr.wayB x = (Pr.rl (x.headD 0) && Pr.rl (x.getLastD 0) && !(x.any Pr.letter)) := by unfold Pr.wayB; rw [h]; rfl
theorem headD_get (x : List Nat) : x.headD 0 = x.getD 0 0 := by cases x <;> rfl
theorem lastD_get (x : List Nat) : x.getLastD 0 = x.getD (x.length - 1) 0 := by
  rw [List.getLastD_eq_getLast?, List.getLast?_eq_getElem?, List.getD]
theorem any_pos {x : List Nat} {p : Nat → Bool} (h : x.any p = true) : 0 < x.length := by
  cases x with
  | nil => simp at h
  | cons => simp
set_option maxHeartbeats 4000000 in
theorem oneWay_any (v : Value) (x : List Nat) (w : World) (hv : Reads w.heap.size w v x) (hl : x.length ≤ 100000000000) :
    Calls Tryz.prog 227 #[v] w fun e w' => e = .returned (.bool (Pr.wayB x)) ∧ Below w.heap.size w w' := by
  have HR := Lib.hid (rightLeft_any w)
  have HT := Lib.hid (fun W => letters_any W)
  have HW1 := Lib.hid (fun v W (h : OwnR w.heap.size W v rightLeftL) => within_any v rightLeftL W h.reads (by simp [rightLeftL]))
  have HW2 := Lib.hid (fun (B : Nat) v W (h : OwnR B W v lettersL) => within_any v lettersL W h.reads (by simp [lettersL]))
  have HC := Lib.hid (fun u p W (h : Below w.heap.size w W) (hq : Asks W u p) => containsFunc_any v u x p W ((hv.below h).more h.size) (by omega) hq)
  have HV := Lib.hid hv
  obtain ⟨A, cap, rfl, -⟩ := hv
  go_enter Tryz.func227, Tryz.ntmps227
  go_wp2_with fail
  refine HR.out.mono ?_
  rintro e w1 ⟨v1, rfl, o1, b1⟩
  have O1 := Lib.hid o1
  obtain ⟨A1, c1, rfl⟩ := o1.slice
  clear o1
  go_wp2_with fail
  refine (HW1.out _ _ O1.out).mono ?_
  rintro e w2 ⟨v2, rfl, q2, b2⟩
  have B2 := Lib.hid (b1.trans (b2.mono b1.size))
  have Q2 := Lib.hid q2
  obtain ⟨G, gb, rfl, eg, -⟩ := q2
  clear b1 b2
  go_wp2_with fail
  refine (HT.out w2).mono ?_
  rintro e w3 ⟨v3, rfl, o3, b3⟩
  have B3 := Lib.hid (B2.out.trans (b3.mono B2.out.size))
  have Q3 := Lib.hid (Q2.out.below b3)
  have O3 := Lib.hid o3
  obtain ⟨A3, c3, rfl⟩ := o3.slice
  clear o3 b3
  go_wp2_with fail
  refine (HW2.out _ _ _ O3.out).mono ?_
  rintro e w4 ⟨v4, rfl, q4, b4⟩
  have B4 := Lib.hid (B3.out.trans (b4.mono B3.out.size))
  have Q4 := Lib.hid (Q3.out.below b4)
  have L4 := Lib.hid q4
  obtain ⟨H, hb, rfl, eh, -⟩ := q4
  have C4 := Lib.hid (HC.out _ _ w4 B4.out Q4.out)
  obtain ⟨ba, hba⟩ : ∃ ba, x.any (fun c => inL rightLeftL c) = ba := ⟨_, rfl⟩
  rw [hba] at C4
  have HBA := Lib.hid hba
  clear b4 hba
  go_wp2_with fail
  refine C4.out.mono ?_
  rintro e w5 ⟨rfl, b5⟩
  have ha0 := HBA.out
  cases ba with
  | false =>
    have ha := ha0
    have hf := Lib.hid (wayB_none ha)
    clear ha0
    have B5 := Lib.hid (B4.out.trans (b5.mono B4.out.size))
    clear ha b5
    go_wp2_with fail
    go_ret
    exact ⟨ret_bool hf.out.symm, B5.out⟩
  | true =>
    have ha := ha0
    have hf := Lib.hid (wayB_some ha)
    clear ha0
    have hpos := any_pos ha
    have B5 := Lib.hid (B4.out.trans (b5.mono B4.out.size))
    have Q5 := Lib.hid (Q4.out.below b5)
    have L5 := Lib.hid (L4.out.below b5)
    rw [headD_get, lastD_get] at hf
    obtain ⟨-, hx⟩ := ((HV.out.below B5.out)).cells
    obtain ⟨ad, rfl, hlb, hc⟩ := hx hpos
    have d0 := hc 0 hpos
    rw [add_zero] at d0
    obtain ⟨m, hm⟩ : ∃ m, x.length = m + 1 := ⟨x.length - 1, by omega⟩
    have d1 := hc m (by omega)
    rw [show x.length - 1 = m by omega] at hf
    obtain ⟨p, hp⟩ : ∃ p, x.getD 0 0 = p := ⟨_, rfl⟩
    obtain ⟨q, hq⟩ : ∃ q, x.getD m 0 = q := ⟨_, rfl⟩
    rw [hp] at d0
    rw [hq] at d1
    rw [hp, hq] at hf
    obtain ⟨_, _, e1, -, hQ⟩ := Q5.out
    injection e1 with e1 _ e2
    injection e1 with e1
    subst e1
    subst e2
    have HP := Lib.hid (hQ p w5 (Below.refl _ _))
    have HQ := Lib.hid (fun W (h : Below w5.heap.size w5 W) => hQ q W h)
    dsimp only at HP HQ
    have D1 := Lib.hid (fun W (h : Below w5.heap.size w5 W) => (h.cell (p := ad.add m) (by rw [addBlock]; have := B5.out.size; omega)).trans d1)
    have HL := Lib.hid (fun W (h : Below w5.heap.size w5 W) => HC.out _ _ W (B5.out.trans (h.mono B5.out.size)) (L5.out.below h))
    have hbd : x.length ≤ 100000000000 := hl
    rw [hm] at hbd ⊢
    have HM := Lib.hid hm
    clear ha b5 hx hc hp hq hQ d1 hm hpos hl
    cases hpv : inL rightLeftL (p : Int) with
    | false =>
      have hf2 := Lib.hid (hf.out.trans (by show (inL rightLeftL (p : Int) && _ && _) = false; rw [hpv]; rfl))
      rw [hpv] at HP
      clear hpv
      go_wp2_with fail
      refine HP.out.mono ?_
      rintro e w6 ⟨rfl, b6⟩
      have B6 := Lib.hid (B5.out.trans (b6.mono B5.out.size))
      clear b6
      go_wp2_with fail
      go_ret
      exact ⟨ret_bool hf2.out.symm, B6.out⟩
    | true =>
      rw [hpv] at HP
      go_wp2_with fail
      refine HP.out.mono ?_
      rintro e w6 ⟨rfl, b6⟩
      have B6 := Lib.hid (B5.out.trans (b6.mono B5.out.size))
      have d6 := D1.out w6 b6
      have HQ6 := Lib.hid (HQ.out w6 b6)
      cases hqv : inL rightLeftL (q : Int) with
      | false =>
        have hf2 := Lib.hid (hf.out.trans (by show (inL rightLeftL (p : Int) && inL rightLeftL (q : Int) && _) = false; rw [hpv, hqv]; rfl))
        rw [hqv] at HQ6
        clear hqv hpv b6
        go_wp2_with fail
        refine HQ6.out.mono ?_
        rintro e w7 ⟨rfl, b7⟩
        have B7 := Lib.hid (B6.out.trans (b7.mono B6.out.size))
        clear b7
        go_wp2_with fail
        go_ret
        exact ⟨ret_bool hf2.out.symm, B7.out⟩
      | true =>
        have hf2 := Lib.hid (hf.out.trans (show _ = !(x.any Pr.letter) by show (inL rightLeftL (p : Int) && inL rightLeftL (q : Int) && _) = _; rw [hpv, hqv]; rfl))
        rw [hqv] at HQ6
        clear hqv hpv
        go_wp2_with fail
        refine HQ6.out.mono ?_
        rintro e w7 ⟨rfl, b7⟩
        have B7 := Lib.hid (B6.out.trans (b7.mono B6.out.size))
        have H7 := Lib.hid (HL.out w7 (b6.trans (b7.mono b6.size)))
        obtain ⟨bl, hbl⟩ : ∃ bl, x.any (fun c => inL lettersL c) = bl := ⟨_, rfl⟩
        rw [hbl, HM.out] at H7
        have hf3 := Lib.hid (hf2.out.trans (show (!(x.any Pr.letter)) = !bl by rw [← hbl]; rfl))
        clear b7 b6 hbl hf2
        go_wp2_with fail
        refine H7.out.mono ?_
        rintro e w8 ⟨rfl, b8⟩
        have B8 := Lib.hid (B7.out.trans (b8.mono B7.out.size))
        clear b8
        cases bl with
        | true =>
          go_wp2_with fail
          go_ret
          exact ⟨ret_bool hf3.out.symm, B8.out⟩
        | false =>
          go_wp2_with fail
          go_ret
          exact ⟨ret_bool hf3.out.symm, B8.out⟩
end Go.Proofs.YtbgaglcgennhiaaGreatDoor
