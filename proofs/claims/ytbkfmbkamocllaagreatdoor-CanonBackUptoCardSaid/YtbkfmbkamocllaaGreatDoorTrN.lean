/-
  package tree: the node of a token.
-/
import Derived.Test.YtbkfmbkamocllaaGreatDoorTrG
import Derived.Test.YtbkfmbkamocllaaGreatDoorTkE
namespace Go.Proofs.YtbkfmbkamocllaaGreatDoor
open Go.RowKit Tk Tr

abbrev agT (t : TokI) (u : Value) : Value := .agg #[.int .i64 t.1, .int .i64 t.2.1, .string (bts t.2.2.1), .string (bts t.2.2.2.1), u, .bool t.2.2.2.2.2]
abbrev agN (x : Nd) (u : Value) : Value := .agg #[.int .i64 x.1, .int .i64 x.2.1, .string (bts x.2.2.1), .string (bts x.2.2.2.1), u, .string (bts x.2.2.2.2.2)]
/-- An append of one attribute. -/
theorem push_attr {ops : Array Oper} {rest : List Oper} {o : Oper} {a : Act} {Q : Exit → Act → World → Prop} (hgd : o.guard = none) (s x : Operand) (ho : o.op = .call { callee := .builtin .append, args := #[s, x], argTypes := #[30, 30] })
    (B : Nat) (v : Value) (l : List Att) (p : Att) (x1 x2 : ByteArray) (h1 : bts p.1 = x1) (h2 : bts p.2 = x2) (w0 : World) (hs : a.eval s = v) (hown : OwnA B w0 v l) (hx : a.eval x = .slice (some ⟨w0.heap.size, 0, none⟩) 1 1) (hn : l.length ≤ 1000000000) (hB : B ≤ w0.heap.size)
    (h : ∀ v' w', OwnA B w' v' (l ++ [p]) → Below B w0 w' → (∀ k cs t, Bk w0 k t cs → t ≠ 45 → Bk w' k t cs) → wpList Tryz.prog ops Q rest (a.put o.dst v') w') : wpList Tryz.prog ops Q (o :: rest) a (w0.alloc (.cells #[.string x1, .string x2] 45)) := by
  subst h1 h2
  obtain ⟨i0, hi, hz0, hz1, hz2⟩ := info_parts infoAtt
  have hown' : w0.ownsRow B 45 2 v l.length (ats l) := hown
  refine wpList_append_own _ hgd s x 30 ho B 45 i0 _ 2 32 Tryz.underlying30 hi hz0 hz1 hz2 rfl (by decide) v l.length (ats l) hs (hown'.alloc _) ⟨w0.heap.size, 0, none⟩ 1 1 [.string (bts p.1), .string (bts p.2)] hx rfl ?_ ?_ ?_ (by omega) (by simp; omega) ?_
  · intro j y hj
    rw [add_at, cell_of_row _ _ _ #[_, _] _ (0, 0) (heap_alloc_new w0 _)]
    rw [Nat.zero_add]
    simpa using hj
  · intro y hy
    simp at hy
    rcases hy with rfl | rfl <;> rfl
  · unfold maxLen; omega
  · intro v' w' hown2 hg _
    refine h v' w' ?_ (((Below.refl B w0).alloc hB _).grown hg (by simp; omega) (fun j hj => (World.ownsRow.lt hown' j hj).1)) (fun k cs t hk ht => ?_)
    · unfold OwnA
      rw [ats_append, ats_one, List.length_append, List.length_singleton]
      exact hown2
    · refine (hg.block k (by simp; have := hk.lt; omega) (fun e => ?_)).trans (hk.alloc _)
      obtain ⟨ds, hd⟩ := row_block hown' k e.symm
      exact Bk.type_ne hk hd ht rfl
theorem Bk.t4 {W : World} {g : Nat} {t : TypeId} {a b c d e f : Value} (h : Bk W g t #[a, b, c, d, e, f]) (u : Value) : Bk (W.setCell ⟨g, 4, none⟩ u) g t #[a, b, c, d, u, f] := by
  have := Bk.put h 4 u
  simpa using this
theorem Bk.t3 {W : World} {g : Nat} {t : TypeId} {a b c d e f : Value} (h : Bk W g t #[a, b, c, d, e, f]) (u : Value) : Bk (W.setCell ⟨g, 3, none⟩ u) g t #[a, b, c, u, e, f] := by
  have := Bk.put h 3 u
  simpa using this
theorem Bk.t03 {W : World} {g : Nat} {t : TypeId} {a b c d e f : Value} (h : Bk W g t #[a, b, c, d, e, f]) (u v : Value) : Bk ((W.setCell ⟨g, 0, none⟩ u).setCell ⟨g, 3, none⟩ v) g t #[u, b, c, v, e, f] := by
  have := Bk.put (Bk.put h 0 u) 3 v
  simpa using this
theorem Bk.t30 {W : World} {g : Nat} {t : TypeId} {a b c d e f : Value} (h : Bk W g t #[a, b, c, d, e, f]) (u v : Value) : Bk ((W.setCell ⟨g, 3, none⟩ v).setCell ⟨g, 0, none⟩ u) g t #[u, b, c, v, e, f] := by
  have := Bk.put (Bk.put h 3 v) 0 u
  simpa using this
theorem others_take {al : List Att} {k : Nat} {c : Att} (h : al[k]? = some c) : others (al.take (k + 1)) = others (al.take k) ++ if isX c then [] else [c] := by
  unfold others
  rw [List.take_add_one, h]
  show ((al.take k) ++ [c]).filter _ = _
  rw [List.filter_append, List.filter_cons]
  cases isX c <;> simp
theorem others_len (al : List Att) : (others al).length ≤ al.length := List.length_filter_le _ _
theorem space_attr (st : St) (al : List Att) : spaceOf st al = if (attrOf al xmlnsL).2 then (attrOf al xmlnsL).1 else innerSpace st := by
  unfold spaceOf attrOf
  show (match al.find? (fun a => decide (a.1 = xmlnsL)) with | some a => a.2 | none => innerSpace st) = _
  cases al.find? (fun a => decide (a.1 = xmlnsL)) <;> rfl
set_option maxHeartbeats 4000000 in
set_option maxRecDepth 100000 in
theorem node_any (N B G : Nat) (w : World) (st : St) (t : TokI) (u : Value) (h : GS N B G w st) (hok : OkS st) (hu : ReadA w u t.2.2.2.2.1) (hl : t.2.2.2.2.1.length ≤ 1000000000) :
    Calls Tryz.prog 73 #[.pointer (some ⟨G, 0, none⟩), agT t u] w fun e w' => ∃ v, e = .returned (agN (nodeOf st t) v) ∧ RowA w' v (others t.2.2.2.2.1) ∧ Below w.heap.size w w' := by
  have HR : Hid (nodeOf st t = (topI st.2, t.2.1, t.2.2.1, spaceOf st t.2.2.2.2.1, others t.2.2.2.2.1, [])) := rfl
  rw [HR.out]
  unfold agT
  obtain ⟨A, cap, rfl, hu2⟩ := id hu
  obtain ⟨a0, h0⟩ : ∃ a : Int, t.1 = a := ⟨_, rfl⟩
  obtain ⟨a1, h1⟩ : ∃ a : Int, t.2.1 = a := ⟨_, rfl⟩
  obtain ⟨a2, h2⟩ : ∃ a, bts t.2.2.1 = a := ⟨_, rfl⟩
  obtain ⟨a3, h3⟩ : ∃ a, bts t.2.2.2.1 = a := ⟨_, rfl⟩
  obtain ⟨a5, h5⟩ : ∃ a, t.2.2.2.2.2 = a := ⟨_, rfl⟩
  obtain ⟨al, ha⟩ : ∃ al, t.2.2.2.2.1 = al := ⟨_, rfl⟩
  simp only [agN]
  rw [h0, h1, h2, h3, h5, ha]
  rw [ha] at hu hu2 hl
  have HU := Lib.hid hu
  have HUC := Lib.hid hu2
  clear h0 h1 h2 h3 h5 ha hu hu2
  obtain ⟨n, hn⟩ : ∃ n, al.length = n := ⟨_, rfl⟩
  have HN := Lib.hid hn
  rw [hn] at hl HU HUC ⊢
  clear hn
  -- the three blocks that are made first
  obtain ⟨T, hT⟩ : ∃ T, w.heap.size = T := ⟨_, rfl⟩
  obtain ⟨W1, hW1⟩ : ∃ W1, ((w.alloc (.cells #[.int .i64 a0, .int .i64 a1, .string a2, .string a3, .slice A n cap, .bool a5] 63)).alloc (.cells #[.int .i64 0, .int .i64 0, .string ⟨#[]⟩, .string ⟨#[]⟩, .slice none 0 0, .string ⟨#[]⟩] 32)).alloc (.cells #[.int .i64 (-1), .int .i64 a1, .string a2, .string ⟨#[]⟩, .slice none 0 0, .string ⟨#[]⟩] 32) = W1 := ⟨_, rfl⟩
  have KT : Hid (Bk W1 T 63 #[.int .i64 a0, .int .i64 a1, .string a2, .string a3, .slice A n cap, .bool a5]) := by rw [← hW1, ← hT]; exact ((Bk.new _ _ _).alloc _).alloc _
  have KR0 : Bk W1 (T + 1) 32 #[.int .i64 0, .int .i64 0, .string ⟨#[]⟩, .string ⟨#[]⟩, .slice none 0 0, .string ⟨#[]⟩] := by rw [← hW1, ← hT]; exact (Bk.new1 _ _ _ _).alloc _
  have KX : Hid (Bk W1 (T + 1 + 1) 32 #[.int .i64 (-1), .int .i64 a1, .string a2, .string ⟨#[]⟩, .slice none 0 0, .string ⟨#[]⟩]) := by rw [← hW1, ← hT]; exact Bk.new2 _ _ _ _ _
  have B1 : Hid (Below T w W1) := by rw [← hW1, ← hT]; exact (((Below.refl _ w).alloc (Nat.le_refl _) _).alloc (by simp) _).alloc (by simp; omega) _
  have Z1 : Hid (T + 1 + 1 + 1 = W1.heap.size) := by unfold Hid; rw [← hW1, ← hT]; simp
  obtain ⟨r0, r1, r2, r3, r4, r5, kr⟩ : ∃ r0 r1 r2 r3 r4 r5, Bk W1 (T + 1) 32 #[r0, r1, r2, r3, r4, r5] := ⟨_, _, _, _, _, _, KR0⟩
  have KR := Lib.hid kr
  have G1 : Hid (GS N B G W1 st) := h.below (by rw [hT]; exact B1.out)
  have HGT : G < T := by rw [← hT]; exact h.lt
  obtain ⟨X, hX⟩ : ∃ X, T + 1 + 1 = X := ⟨_, rfl⟩
  obtain ⟨R, hR⟩ : ∃ R, T + 1 = R := ⟨_, rfl⟩
  have hTR : T < R := by omega
  have hRX : R < X := by omega
  have HTR := Lib.hid hTR
  have HRX := Lib.hid hRX
  have HX1 : Hid (X + 1 = W1.heap.size) := by unfold Hid; rw [← hX]; exact Z1.out
  rw [hX] at KX
  rw [hR] at KR
  have HUT := Lib.hid (HU.out.below (w' := W1) (by rw [hT]; exact B1.out))
  have HTT := Lib.hid hT
  have HW1 := Lib.hid hW1
  have HXE := Lib.hid hX
  have HRE := Lib.hid hR
  clear hT hW1 hX hR
  obtain ⟨EA, ecap, OA, ocap, gb, ge, go⟩ := G1.out.cells
  have c1 : W1.cell? ⟨G, 1, none⟩ = some (.slice OA st.2.length ocap) := gb.cell 1
  have HTOP := Lib.hid (top_any B G W1 _ st.2 c1 go (by have := hok.deep; omega) (fun p hp => by have := hok.open_ p hp; have := hok.many; omega))
  have GB := Lib.hid gb
  have GE := Lib.hid ge
  have HOK := Lib.hid hok
  have HGTT := Lib.hid HGT
  clear kr KR0 Z1 h gb ge go c1 hok hTR hRX HGT
  go_enter Tryz.func73, Tryz.ntmps73
  go_upto_region 2 with fail
  rw [HW1.out, HTT.out, HXE.out, HRE.out]
  go_wp2_with fail
  refine HTOP.out.mono ?_
  rintro e w2 ⟨rfl, b2⟩
  have B2 : Hid (Below T w w2) := B1.out.trans (b2.mono (by have := HX1.out; have := HTR.out; have := HRX.out; omega))
  have KT2 := Lib.hid (KT.out.below b2 KT.out.lt)
  have KR2 := Lib.hid (KR.out.below b2 KR.out.lt)
  have KX2 := Lib.hid (KX.out.below b2 KX.out.lt)
  have GB2 := Lib.hid (GB.out.below b2 GB.out.lt)
  have GE2 := Lib.hid (GE.out.below b2)
  have U2 := Lib.hid (HUT.out.below b2)
  have X2 : Hid (X + 1 ≤ w2.heap.size) := by have := HX1.out; have := b2.size; unfold Hid; omega
  clear b2
  obtain ⟨tp, htp⟩ : ∃ tp, topI st.2 = tp := ⟨_, rfl⟩
  obtain ⟨sp, hsp⟩ : ∃ sp, bts (innerSpace st) = sp := ⟨_, rfl⟩
  have HTP := Lib.hid htp
  have HSP := Lib.hid hsp
  cases ho : st.2.getLast? with
  | none =>
    have hoe : st.2 = [] := List.getLast?_eq_none_iff.1 ho
    have hd : decide (st.2 ≠ []) = false := decide_eq_false (fun h => h hoe)
    have ht0 : tp = -1 := by rw [← htp]; unfold topI; rw [ho]
    have hs0 : sp = ⟨#[]⟩ := by rw [← hsp]; unfold innerSpace; rw [ho]
    have KX4 : Hid (Bk w2 X 32 #[.int .i64 tp, .int .i64 a1, .string a2, .string sp, .slice none 0 0, .string ⟨#[]⟩]) := by rw [ht0, hs0]; exact KX2
    rw [hd]
    clear ho hoe hd ht0 hs0 htp hsp
    go_upto_region 5 with fail
    obtain ⟨W4, hW4⟩ : ∃ W4, w2 = W4 := ⟨_, rfl⟩
    rw [hW4] at KX4 B2 KT2 KR2 X2 ⊢
    clear hW4 KX2 GB2 GE2 HTOP U2
    have U4 := HU.out.below (w' := W4) (by rw [HTT.out]; exact B2.out)
    have c4 : W4.cell? ⟨T, 4, none⟩ = some (.slice A n cap) := KT2.out.cell 4
    have HV0 : Calls Tryz.prog 100 #[.slice A n cap, .string ⟨#[120, 109, 108, 110, 115]⟩] W4 fun e w' => e = .returned (.tuple #[.string (bts (attrOf al xmlnsL).1), .bool (attrOf al xmlnsL).2]) ∧ Below W4.heap.size W4 w' := valueT_any _ al xmlnsL W4 U4 (by have := HN.out; omega)
    obtain ⟨q, hq⟩ : ∃ q, attrOf al xmlnsL = q := ⟨_, rfl⟩
    have HSA : Hid (spaceOf st al = if q.2 then q.1 else innerSpace st) := by unfold Hid; rw [space_attr, hq]
    rw [hq] at HV0
    obtain ⟨q1, q2⟩ := q
    simp only at HV0 HSA
    have HV := Lib.hid HV0
    clear HV0 hq U4
    go_wp2_with fail
    refine HV.out.mono ?_
    rintro e w5 ⟨rfl, b5⟩
    have B5 : Hid (Below T w w5) := B2.out.trans (b5.mono (by have := X2.out; have := HTR.out; have := HRX.out; omega))
    have KT5 := Lib.hid (KT2.out.below b5 KT2.out.lt)
    have KR5 := Lib.hid (KR2.out.below b5 KR2.out.lt)
    have KX5 := Lib.hid (KX4.out.below b5 KX4.out.lt)
    have X5 : Hid (X + 1 ≤ w5.heap.size) := by have := X2.out; have := b5.size; unfold Hid; omega
    clear b5 c4 KT2 KR2 KX4 B2 X2 HV
    cases q2 with
    | false =>
      have hsq : bts (spaceOf st al) = sp := by rw [HSA.out, if_neg (by decide)]; exact HSP.out
      go_upto_region 8 with fail
      obtain ⟨sq, hs9⟩ : ∃ sq, sp = sq := ⟨_, rfl⟩
      obtain ⟨w6, hw6⟩ : ∃ w6, w5 = w6 := ⟨_, rfl⟩
      rw [hw6] at B5 KT5 KR5 KX5 X5 ⊢
      rw [hs9] at KX5 hsq
      have B6 := B5
      have KT6 := KT5
      have KR6 := KR5
      have KX6 := KX5
      have X6 := X5
      clear hw6 hs9 B5 KT5 KR5 KX5 X5 HSA
      have HSQ := Lib.hid hsq
      have c4 : w6.cell? ⟨T, 4, none⟩ = some (.slice A n cap) := KT6.out.cell 4
      clear hsq
      go_wp2_with fail
      go_loopw [49] (fun i wr => ∃ (k : Nat) (v : Value), k ≤ n ∧ i = .int .i64 k ∧ Hid (OwnA (X + 1) wr v (others (al.take k))) ∧ Hid (Bk wr X 32 #[.int .i64 tp, .int .i64 a1, .string a2, .string sq, v, .string ⟨#[]⟩]) ∧ Hid (Bk wr R 32 #[r0, r1, r2, r3, r4, r5]) ∧ Hid (Below T w wr) ∧ Hid (X + 1 ≤ wr.heap.size)) (fun i _ => n - (intOf i).toNat)
      case atStart => exact ⟨0, _, Nat.zero_le _, rfl, OwnA.nil _ _, KX6, KR6, B6, X6⟩
      case round =>
        obtain ⟨k, v, hk, rfl, ho, hx, hr, hb, hz⟩ := hrel
        clear KX6 KR6 B6 X6 KT6 c4
        by_cases hlt : k < n
        · have hlen : al.length = n := HN.out
          obtain ⟨ad, rfl, hlb, hc⟩ := HUC.out (by omega)
          rw [HTT.out] at hlb
          obtain ⟨c, hcx⟩ : ∃ c, al[k]? = some c := ⟨_, List.getElem?_eq_getElem (by omega)⟩
          obtain ⟨c0, c1⟩ := hc k c hcx
          rw [← hb.out.cell (p := ad.add (k * 2)) (by rw [addBlock]; exact hlb)] at c0
          rw [← hb.out.cell (p := ⟨(ad.add (k * 2)).block, (ad.add (k * 2)).off + 1, none⟩) (by show (ad.add (k * 2)).block < _; rw [addBlock]; exact hlb)] at c1
          have HOT := Lib.hid (others_take hcx)
          have hol : Hid ((others (al.take k)).length ≤ 1000000000) := by unfold Hid; have := others_len (al.take k); rw [List.length_take] at this; omega
          have heq := bts_eqb2 c.1 xmlnsL
          obtain ⟨y0, h0⟩ : ∃ a, bts c.1 = a := ⟨_, rfl⟩
          obtain ⟨y1, h1⟩ : ∃ a, bts c.2 = a := ⟨_, rfl⟩
          have hix : Hid (isX c = decide (c.1 = xmlnsL)) := rfl
          rw [h0] at c0 heq
          rw [h1] at c1
          have H0 := Lib.hid h0
          have H1 := Lib.hid h1
          obtain ⟨d, hd⟩ : ∃ d, decide (c.1 = xmlnsL) = d := ⟨_, rfl⟩
          rw [hd] at heq hix
          have hne : (y0.toList == [120, 109, 108, 110, 115]) = d := by
            rw [show ([120, 109, 108, 110, 115] : List UInt8) = (bts xmlnsL).toList by rw [ByteArray.toList_mk]; rfl]
            exact heq
          clear hc hcx h0 h1 hd hlen heq
          go_upto_region 11 with fail
          obtain ⟨Y, hY⟩ : ∃ Y, wr.heap.size = Y := ⟨_, rfl⟩
          obtain ⟨W7, hW7⟩ : ∃ W7, wr.alloc (.cells #[.string y0, .string y1] 45) = W7 := ⟨_, rfl⟩
          have hw7 : Below wr.heap.size wr W7 := by rw [← hW7]; exact (Below.refl _ _).alloc (Nat.le_refl _) _
          have O7 : Hid (OwnA (X + 1) W7 v (others (al.take k))) := ho.out.below hw7
          have KX7 := Lib.hid (hx.out.below hw7 hx.out.lt)
          have KR7 := Lib.hid (hr.out.below hw7 hr.out.lt)
          have B7 : Hid (Below T w W7) := hb.out.trans (hw7.mono (by have := hz.out; have := HTR.out; have := HRX.out; omega))
          have X7 : Hid (X + 1 ≤ W7.heap.size) := by have := hz.out; have := hw7.size; unfold Hid; omega
          have KY : Bk W7 Y 45 #[.string y0, .string y1] := by rw [← hW7, ← hY]; exact Bk.new _ _ _
          have y0c : W7.cell? ⟨Y, 0, none⟩ = some (.string y0) := KY.cell 0
          have y1c : W7.cell? ⟨Y, 1, none⟩ = some (.string y1) := KY.cell 1
          rw [hW7, hY]
          clear hW7 hY hw7 KY ho hx hr hb hz c0 c1
          cases d with
          | true =>
            have hta : Hid (others (al.take (k + 1)) = others (al.take k)) := by unfold Hid; rw [HOT.out, hix.out]; simp
            go_wp2_with fail
            go_roundw
            case rel => exact ⟨k + 1, v, by omega, by go_num, by rw [hta.out]; exact O7, KX7, KR7, B7, X7⟩
            case measure => simp [intOf]; omega
          | false =>
            have hta : Hid (others (al.take (k + 1)) = others (al.take k) ++ [c]) := by unfold Hid; rw [HOT.out, hix.out]; simp
            obtain ⟨VA, vcap, hv⟩ := O7.out.slice
            subst hv
            obtain ⟨no, hno⟩ : ∃ no, (others (al.take k)).length = no := ⟨_, rfl⟩
            have HNO := Lib.hid hno
            rw [hno] at O7 KX7
            clear hno
            have x4 : W7.cell? ⟨X, 4, none⟩ = some (.slice VA no vcap) := KX7.out.cell 4
            have hzz := X7.out
            go_wp2_with (at_builtin; refine push_attr rfl _ _ rfl (X + 1) (.slice VA no vcap) (others (al.take k)) c y0 y1 H0.out H1.out W7 rfl O7.out rfl hol.out hzz ?_)
            intro v' w8 o8 b8 k8
            have KX8 := Lib.hid (k8 _ _ _ KX7.out (by decide))
            have KR8 := Lib.hid (k8 _ _ _ KR7.out (by decide))
            have B8 : Hid (Below T w w8) := B7.out.trans (b8.mono (by have := HTR.out; have := HRX.out; omega))
            have X8 : Hid (X + 1 ≤ w8.heap.size) := by have := b8.size; unfold Hid; omega
            obtain ⟨VA', vcap', hv'⟩ := o8.slice
            subst hv'
            have O8 := Lib.hid o8
            have f4 : w8.frozen? ⟨X, 4, none⟩ = false := KX8.out.free 4
            have x48 : w8.cell? ⟨X, 4, none⟩ = some (.slice VA no vcap) := KX8.out.cell 4
            rw [show (others (al.take k) ++ [c]).length = no + 1 by rw [List.length_append, HNO.out]; rfl] at O8 ⊢
            clear o8 b8 k8 x4 hzz y0c y1c
            go_wp2_with fail
            have KX9 := Lib.hid (KX8.out.t4 (.slice VA' (no + 1) vcap'))
            have KR9 : Hid (Bk (w8.setCell ⟨X, 4, none⟩ (.slice VA' (no + 1) vcap')) R 32 #[r0, r1, r2, r3, r4, r5]) := KR8.out.far (p := ⟨X, 4, none⟩) (by have := HRX.out; show R ≠ X; omega) _
            go_roundw
            case rel => exact ⟨k + 1, _, by omega, by go_num, by rw [hta.out]; exact O8.out.stored KX8.out (by decide) 4 _, KX9, KR9, B8.out.setCell (by show T ≤ X; have := HTR.out; have := HRX.out; omega) _, by unfold Hid; rw [World.size_setCell]; exact X8.out⟩
            case measure => simp [intOf]; omega
        · have hke : k = n := by omega
          have hal : Hid (al.take k = al) := by unfold Hid; rw [List.take_of_length_le (by have := HN.out; omega)]
          have O9 : Hid (OwnA (X + 1) wr v (others al)) := by unfold Hid; rw [← hal.out]; exact ho.out
          obtain ⟨VA, vcap, hv⟩ := O9.out.slice
          subst hv
          obtain ⟨no, hno⟩ : ∃ no, (others al).length = no := ⟨_, rfl⟩
          rw [hno] at O9 hx
          clear hno
          have x0 : wr.cell? ⟨X, 0, none⟩ = some (.int .i64 tp) := hx.out.cell 0
          have x1 : wr.cell? ⟨X, 1, none⟩ = some (.int .i64 a1) := hx.out.cell 1
          have x2 : wr.cell? ⟨X, 2, none⟩ = some (.string a2) := hx.out.cell 2
          have x3 : wr.cell? ⟨X, 3, none⟩ = some (.string sq) := hx.out.cell 3
          have x4 : wr.cell? ⟨X, 4, none⟩ = some (.slice VA no vcap) := hx.out.cell 4
          have x5 : wr.cell? ⟨X, 5, none⟩ = some (.string ⟨#[]⟩) := hx.out.cell 5
          have e0 : wr.cell? ⟨R, 0, none⟩ = some r0 := hr.out.cell 0
          have e1 : wr.cell? ⟨R, 1, none⟩ = some r1 := hr.out.cell 1
          have e2 : wr.cell? ⟨R, 2, none⟩ = some r2 := hr.out.cell 2
          have e3 : wr.cell? ⟨R, 3, none⟩ = some r3 := hr.out.cell 3
          have e4 : wr.cell? ⟨R, 4, none⟩ = some r4 := hr.out.cell 4
          have e5 : wr.cell? ⟨R, 5, none⟩ = some r5 := hr.out.cell 5
          have f0 : wr.frozen? ⟨R, 0, none⟩ = false := hr.out.free 0
          have f1 : wr.frozen? ⟨R, 1, none⟩ = false := hr.out.free 1
          have f2 : wr.frozen? ⟨R, 2, none⟩ = false := hr.out.free 2
          have f3 : wr.frozen? ⟨R, 3, none⟩ = false := hr.out.free 3
          have f4 : wr.frozen? ⟨R, 4, none⟩ = false := hr.out.free 4
          have f5 : wr.frozen? ⟨R, 5, none⟩ = false := hr.out.free 5
          have KF := hr.out.six (.int .i64 tp) (.int .i64 a1) (.string a2) (.string sq) (.slice VA no vcap) (.string ⟨#[]⟩)
          have q0 : World.cell? (six R wr (.int .i64 tp) (.int .i64 a1) (.string a2) (.string sq) (.slice VA no vcap) (.string ⟨#[]⟩)) ⟨R, 0, none⟩ = some (.int .i64 tp) := KF.cell 0
          have q1 : World.cell? (six R wr (.int .i64 tp) (.int .i64 a1) (.string a2) (.string sq) (.slice VA no vcap) (.string ⟨#[]⟩)) ⟨R, 1, none⟩ = some (.int .i64 a1) := KF.cell 1
          have q2 : World.cell? (six R wr (.int .i64 tp) (.int .i64 a1) (.string a2) (.string sq) (.slice VA no vcap) (.string ⟨#[]⟩)) ⟨R, 2, none⟩ = some (.string a2) := KF.cell 2
          have q3 : World.cell? (six R wr (.int .i64 tp) (.int .i64 a1) (.string a2) (.string sq) (.slice VA no vcap) (.string ⟨#[]⟩)) ⟨R, 3, none⟩ = some (.string sq) := KF.cell 3
          have q4 : World.cell? (six R wr (.int .i64 tp) (.int .i64 a1) (.string a2) (.string sq) (.slice VA no vcap) (.string ⟨#[]⟩)) ⟨R, 4, none⟩ = some (.slice VA no vcap) := KF.cell 4
          have q5 : World.cell? (six R wr (.int .i64 tp) (.int .i64 a1) (.string a2) (.string sq) (.slice VA no vcap) (.string ⟨#[]⟩)) ⟨R, 5, none⟩ = some (.string ⟨#[]⟩) := KF.cell 5
          have hRX : R ≠ X := by have := HRX.out; omega
          have hXR : X ≠ R := fun e => hRX e.symm
          have HKR := hr
          have HB9 := hb
          clear hke hal ho hx hr hb hz KF
          go_wp2_with fail
          refine bodyPost_ret (v := .agg #[.int .i64 tp, .int .i64 a1, .string a2, .string sq, .slice VA no vcap, .string ⟨#[]⟩]) (by simp [results, Tryz.results73, go_sem, q0, q1, q2, q3, q4, q5]) rfl ⟨_, ?_, O9.out.row.keep (six_keepA HKR.out (by decide) _ _ _ _ _ _), ?_⟩
          · rw [HSQ.out, HTP.out]
          · rw [HTT.out]; exact (six_tn (T := R) (B := T) (Tn.of HB9.out) (by have := HTR.out; omega) _ _ _ _ _ _).below (by have := HTR.out; omega)
    | true =>
      have hsq0 : bts (spaceOf st al) = bts q1 := by rw [HSA.out, if_pos rfl]
      have f3 : w5.frozen? ⟨X, 3, none⟩ = false := KX5.out.free 3
      obtain ⟨xv3, x3⟩ : ∃ v, w5.cell? ⟨X, 3, none⟩ = some v := ⟨_, KX5.out.cell 3⟩
      obtain ⟨sq, hs9⟩ : ∃ sq, bts q1 = sq := ⟨_, rfl⟩
      rw [hs9] at hsq0 ⊢
      have hsq := Lib.hid hsq0
      clear hsq0 hs9
      go_upto_region 8 with fail
      obtain ⟨w6, hw6⟩ : ∃ w6, w5.setCell ⟨X, 3, none⟩ (.string sq) = w6 := ⟨_, rfl⟩
      have htr := HTR.out
      have hrx := HRX.out
      have B6 : Hid (Below T w w6) := by rw [← hw6]; exact B5.out.setCell (by show T ≤ X; omega) _
      have KT6 : Hid (Bk w6 T 63 #[.int .i64 a0, .int .i64 a1, .string a2, .string a3, .slice A n cap, .bool a5]) := by rw [← hw6]; exact KT5.out.far (p := ⟨X, 3, none⟩) (show T ≠ X by omega) _
      have KR6 : Hid (Bk w6 R 32 #[r0, r1, r2, r3, r4, r5]) := by rw [← hw6]; exact KR5.out.far (p := ⟨X, 3, none⟩) (show R ≠ X by omega) _
      have KX6 : Hid (Bk w6 X 32 #[.int .i64 tp, .int .i64 a1, .string a2, .string sq, .slice none 0 0, .string ⟨#[]⟩]) := by rw [← hw6]; exact KX5.out.t3 _
      have X6 : Hid (X + 1 ≤ w6.heap.size) := by rw [← hw6]; unfold Hid; rw [World.size_setCell]; exact X5.out
      rw [hw6]
      have hsq := hsq.out
      clear hw6 B5 KT5 KR5 KX5 X5 HSA f3 x3 htr hrx
      have HSQ := Lib.hid hsq
      have c4 : w6.cell? ⟨T, 4, none⟩ = some (.slice A n cap) := KT6.out.cell 4
      clear hsq
      go_wp2_with fail
      go_loopw [49] (fun i wr => ∃ (k : Nat) (v : Value), k ≤ n ∧ i = .int .i64 k ∧ Hid (OwnA (X + 1) wr v (others (al.take k))) ∧ Hid (Bk wr X 32 #[.int .i64 tp, .int .i64 a1, .string a2, .string sq, v, .string ⟨#[]⟩]) ∧ Hid (Bk wr R 32 #[r0, r1, r2, r3, r4, r5]) ∧ Hid (Below T w wr) ∧ Hid (X + 1 ≤ wr.heap.size)) (fun i _ => n - (intOf i).toNat)
      case atStart => exact ⟨0, _, Nat.zero_le _, rfl, OwnA.nil _ _, KX6, KR6, B6, X6⟩
      case round =>
        obtain ⟨k, v, hk, rfl, ho, hx, hr, hb, hz⟩ := hrel
        clear KX6 KR6 B6 X6 KT6 c4
        by_cases hlt : k < n
        · have hlen : al.length = n := HN.out
          obtain ⟨ad, rfl, hlb, hc⟩ := HUC.out (by omega)
          rw [HTT.out] at hlb
          obtain ⟨c, hcx⟩ : ∃ c, al[k]? = some c := ⟨_, List.getElem?_eq_getElem (by omega)⟩
          obtain ⟨c0, c1⟩ := hc k c hcx
          rw [← hb.out.cell (p := ad.add (k * 2)) (by rw [addBlock]; exact hlb)] at c0
          rw [← hb.out.cell (p := ⟨(ad.add (k * 2)).block, (ad.add (k * 2)).off + 1, none⟩) (by show (ad.add (k * 2)).block < _; rw [addBlock]; exact hlb)] at c1
          have HOT := Lib.hid (others_take hcx)
          have hol : Hid ((others (al.take k)).length ≤ 1000000000) := by unfold Hid; have := others_len (al.take k); rw [List.length_take] at this; omega
          have heq := bts_eqb2 c.1 xmlnsL
          obtain ⟨y0, h0⟩ : ∃ a, bts c.1 = a := ⟨_, rfl⟩
          obtain ⟨y1, h1⟩ : ∃ a, bts c.2 = a := ⟨_, rfl⟩
          have hix : Hid (isX c = decide (c.1 = xmlnsL)) := rfl
          rw [h0] at c0 heq
          rw [h1] at c1
          have H0 := Lib.hid h0
          have H1 := Lib.hid h1
          obtain ⟨d, hd⟩ : ∃ d, decide (c.1 = xmlnsL) = d := ⟨_, rfl⟩
          rw [hd] at heq hix
          have hne : (y0.toList == [120, 109, 108, 110, 115]) = d := by
            rw [show ([120, 109, 108, 110, 115] : List UInt8) = (bts xmlnsL).toList by rw [ByteArray.toList_mk]; rfl]
            exact heq
          clear hc hcx h0 h1 hd hlen heq
          go_upto_region 11 with fail
          obtain ⟨Y, hY⟩ : ∃ Y, wr.heap.size = Y := ⟨_, rfl⟩
          obtain ⟨W7, hW7⟩ : ∃ W7, wr.alloc (.cells #[.string y0, .string y1] 45) = W7 := ⟨_, rfl⟩
          have hw7 : Below wr.heap.size wr W7 := by rw [← hW7]; exact (Below.refl _ _).alloc (Nat.le_refl _) _
          have O7 : Hid (OwnA (X + 1) W7 v (others (al.take k))) := ho.out.below hw7
          have KX7 := Lib.hid (hx.out.below hw7 hx.out.lt)
          have KR7 := Lib.hid (hr.out.below hw7 hr.out.lt)
          have B7 : Hid (Below T w W7) := hb.out.trans (hw7.mono (by have := hz.out; have := HTR.out; have := HRX.out; omega))
          have X7 : Hid (X + 1 ≤ W7.heap.size) := by have := hz.out; have := hw7.size; unfold Hid; omega
          have KY : Bk W7 Y 45 #[.string y0, .string y1] := by rw [← hW7, ← hY]; exact Bk.new _ _ _
          have y0c : W7.cell? ⟨Y, 0, none⟩ = some (.string y0) := KY.cell 0
          have y1c : W7.cell? ⟨Y, 1, none⟩ = some (.string y1) := KY.cell 1
          rw [hW7, hY]
          clear hW7 hY hw7 KY ho hx hr hb hz c0 c1
          cases d with
          | true =>
            have hta : Hid (others (al.take (k + 1)) = others (al.take k)) := by unfold Hid; rw [HOT.out, hix.out]; simp
            go_wp2_with fail
            go_roundw
            case rel => exact ⟨k + 1, v, by omega, by go_num, by rw [hta.out]; exact O7, KX7, KR7, B7, X7⟩
            case measure => simp [intOf]; omega
          | false =>
            have hta : Hid (others (al.take (k + 1)) = others (al.take k) ++ [c]) := by unfold Hid; rw [HOT.out, hix.out]; simp
            obtain ⟨VA, vcap, hv⟩ := O7.out.slice
            subst hv
            obtain ⟨no, hno⟩ : ∃ no, (others (al.take k)).length = no := ⟨_, rfl⟩
            have HNO := Lib.hid hno
            rw [hno] at O7 KX7
            clear hno
            have x4 : W7.cell? ⟨X, 4, none⟩ = some (.slice VA no vcap) := KX7.out.cell 4
            have hzz := X7.out
            go_wp2_with (at_builtin; refine push_attr rfl _ _ rfl (X + 1) (.slice VA no vcap) (others (al.take k)) c y0 y1 H0.out H1.out W7 rfl O7.out rfl hol.out hzz ?_)
            intro v' w8 o8 b8 k8
            have KX8 := Lib.hid (k8 _ _ _ KX7.out (by decide))
            have KR8 := Lib.hid (k8 _ _ _ KR7.out (by decide))
            have B8 : Hid (Below T w w8) := B7.out.trans (b8.mono (by have := HTR.out; have := HRX.out; omega))
            have X8 : Hid (X + 1 ≤ w8.heap.size) := by have := b8.size; unfold Hid; omega
            obtain ⟨VA', vcap', hv'⟩ := o8.slice
            subst hv'
            have O8 := Lib.hid o8
            have f4 : w8.frozen? ⟨X, 4, none⟩ = false := KX8.out.free 4
            have x48 : w8.cell? ⟨X, 4, none⟩ = some (.slice VA no vcap) := KX8.out.cell 4
            rw [show (others (al.take k) ++ [c]).length = no + 1 by rw [List.length_append, HNO.out]; rfl] at O8 ⊢
            clear o8 b8 k8 x4 hzz y0c y1c
            go_wp2_with fail
            have KX9 := Lib.hid (KX8.out.t4 (.slice VA' (no + 1) vcap'))
            have KR9 : Hid (Bk (w8.setCell ⟨X, 4, none⟩ (.slice VA' (no + 1) vcap')) R 32 #[r0, r1, r2, r3, r4, r5]) := KR8.out.far (p := ⟨X, 4, none⟩) (by have := HRX.out; show R ≠ X; omega) _
            go_roundw
            case rel => exact ⟨k + 1, _, by omega, by go_num, by rw [hta.out]; exact O8.out.stored KX8.out (by decide) 4 _, KX9, KR9, B8.out.setCell (by show T ≤ X; have := HTR.out; have := HRX.out; omega) _, by unfold Hid; rw [World.size_setCell]; exact X8.out⟩
            case measure => simp [intOf]; omega
        · have hke : k = n := by omega
          have hal : Hid (al.take k = al) := by unfold Hid; rw [List.take_of_length_le (by have := HN.out; omega)]
          have O9 : Hid (OwnA (X + 1) wr v (others al)) := by unfold Hid; rw [← hal.out]; exact ho.out
          obtain ⟨VA, vcap, hv⟩ := O9.out.slice
          subst hv
          obtain ⟨no, hno⟩ : ∃ no, (others al).length = no := ⟨_, rfl⟩
          rw [hno] at O9 hx
          clear hno
          have x0 : wr.cell? ⟨X, 0, none⟩ = some (.int .i64 tp) := hx.out.cell 0
          have x1 : wr.cell? ⟨X, 1, none⟩ = some (.int .i64 a1) := hx.out.cell 1
          have x2 : wr.cell? ⟨X, 2, none⟩ = some (.string a2) := hx.out.cell 2
          have x3 : wr.cell? ⟨X, 3, none⟩ = some (.string sq) := hx.out.cell 3
          have x4 : wr.cell? ⟨X, 4, none⟩ = some (.slice VA no vcap) := hx.out.cell 4
          have x5 : wr.cell? ⟨X, 5, none⟩ = some (.string ⟨#[]⟩) := hx.out.cell 5
          have e0 : wr.cell? ⟨R, 0, none⟩ = some r0 := hr.out.cell 0
          have e1 : wr.cell? ⟨R, 1, none⟩ = some r1 := hr.out.cell 1
          have e2 : wr.cell? ⟨R, 2, none⟩ = some r2 := hr.out.cell 2
          have e3 : wr.cell? ⟨R, 3, none⟩ = some r3 := hr.out.cell 3
          have e4 : wr.cell? ⟨R, 4, none⟩ = some r4 := hr.out.cell 4
          have e5 : wr.cell? ⟨R, 5, none⟩ = some r5 := hr.out.cell 5
          have f0 : wr.frozen? ⟨R, 0, none⟩ = false := hr.out.free 0
          have f1 : wr.frozen? ⟨R, 1, none⟩ = false := hr.out.free 1
          have f2 : wr.frozen? ⟨R, 2, none⟩ = false := hr.out.free 2
          have f3 : wr.frozen? ⟨R, 3, none⟩ = false := hr.out.free 3
          have f4 : wr.frozen? ⟨R, 4, none⟩ = false := hr.out.free 4
          have f5 : wr.frozen? ⟨R, 5, none⟩ = false := hr.out.free 5
          have KF := hr.out.six (.int .i64 tp) (.int .i64 a1) (.string a2) (.string sq) (.slice VA no vcap) (.string ⟨#[]⟩)
          have q0 : World.cell? (six R wr (.int .i64 tp) (.int .i64 a1) (.string a2) (.string sq) (.slice VA no vcap) (.string ⟨#[]⟩)) ⟨R, 0, none⟩ = some (.int .i64 tp) := KF.cell 0
          have q1 : World.cell? (six R wr (.int .i64 tp) (.int .i64 a1) (.string a2) (.string sq) (.slice VA no vcap) (.string ⟨#[]⟩)) ⟨R, 1, none⟩ = some (.int .i64 a1) := KF.cell 1
          have q2 : World.cell? (six R wr (.int .i64 tp) (.int .i64 a1) (.string a2) (.string sq) (.slice VA no vcap) (.string ⟨#[]⟩)) ⟨R, 2, none⟩ = some (.string a2) := KF.cell 2
          have q3 : World.cell? (six R wr (.int .i64 tp) (.int .i64 a1) (.string a2) (.string sq) (.slice VA no vcap) (.string ⟨#[]⟩)) ⟨R, 3, none⟩ = some (.string sq) := KF.cell 3
          have q4 : World.cell? (six R wr (.int .i64 tp) (.int .i64 a1) (.string a2) (.string sq) (.slice VA no vcap) (.string ⟨#[]⟩)) ⟨R, 4, none⟩ = some (.slice VA no vcap) := KF.cell 4
          have q5 : World.cell? (six R wr (.int .i64 tp) (.int .i64 a1) (.string a2) (.string sq) (.slice VA no vcap) (.string ⟨#[]⟩)) ⟨R, 5, none⟩ = some (.string ⟨#[]⟩) := KF.cell 5
          have hRX : R ≠ X := by have := HRX.out; omega
          have hXR : X ≠ R := fun e => hRX e.symm
          have HKR := hr
          have HB9 := hb
          clear hke hal ho hx hr hb hz KF
          go_wp2_with fail
          refine bodyPost_ret (v := .agg #[.int .i64 tp, .int .i64 a1, .string a2, .string sq, .slice VA no vcap, .string ⟨#[]⟩]) (by simp [results, Tryz.results73, go_sem, q0, q1, q2, q3, q4, q5]) rfl ⟨_, ?_, O9.out.row.keep (six_keepA HKR.out (by decide) _ _ _ _ _ _), ?_⟩
          · rw [HSQ.out, HTP.out]
          · rw [HTT.out]; exact (six_tn (T := R) (B := T) (Tn.of HB9.out) (by have := HTR.out; omega) _ _ _ _ _ _).below (by have := HTR.out; omega)
  | some p =>
    have hoe : st.2 ≠ [] := fun e => by rw [e] at ho; cases ho
    have hd : decide (st.2 ≠ []) = true := decide_eq_true hoe
    have hpl : p < st.1.length := HOK.out.open_ p (List.mem_of_getLast? ho)
    have hpb : p < 1000 := by have := HOK.out.many; omega
    obtain ⟨x, hx⟩ : ∃ x, st.1[p]? = some x := ⟨_, List.getElem?_eq_getElem hpl⟩
    have ht0 : tp = (p : Int) := by rw [← htp]; unfold topI; rw [ho]
    have hs0 : sp = bts x.2.2.2.1 := by rw [← hsp]; unfold innerSpace; rw [ho]; simp only; rw [hx]
    obtain ⟨g, ecap', e1, hBg, hgl, ⟨cs, hcs⟩, hat⟩ := GE2.out.at (by omega)
    injection e1 with e1 _ e2
    subst e1 e2
    obtain ⟨av, tv, ⟨_, _, _, k3, _⟩, _⟩ := hat p x hx
    rw [← hs0] at k3
    have c0 : w2.cell? ⟨G, 0, none⟩ = some (.slice (some ⟨g, 0, none⟩) st.1.length ecap) := GB2.out.cell 0
    have f0 : w2.frozen? ⟨X, 0, none⟩ = false := KX2.out.free 0
    have f3 : w2.frozen? ⟨X, 3, none⟩ = false := KX2.out.free 3
    have x0 : w2.cell? ⟨X, 0, none⟩ = some (.int .i64 (-1)) := KX2.out.cell 0
    obtain ⟨xv3, x3⟩ : ∃ v, w2.cell? ⟨X, 3, none⟩ = some v := ⟨_, KX2.out.cell 3⟩
    obtain ⟨m, hm⟩ : ∃ m, st.1.length = m := ⟨_, rfl⟩
    rw [hm] at hpl c0
    have hpi : (p : Int) < (m : Int) := by omega
    have hgX : g ≠ X := Bk.type_ne hcs KX2.out (by decide)
    have hXg : X ≠ g := fun e => hgX e.symm
    have hGX : G ≠ X := Bk.type_ne GB2.out KX2.out (by decide)
    have hXG : X ≠ G := fun e => hGX e.symm
    have HT0 := Lib.hid ht0
    rw [hd]
    clear ho hoe hd hs0 htp hsp hx hat hcs hm ht0 hBg hgl
    go_upto_region 4 with fail
    go_region
    go_upto_region 5 with fail
    have hTX : T ≤ X := by have := HTR.out; have := HRX.out; omega
    have htr := HTR.out
    have hrx := HRX.out
    obtain ⟨W4, hW4⟩ : ∃ W4, ((w2.setCell ⟨X, 0, none⟩ (.int .i64 (p : Int))).setCell ⟨X, 3, none⟩ (.string sp)).drew = W4 := ⟨_, rfl⟩
    have KX4 : Hid (Bk W4 X 32 #[.int .i64 tp, .int .i64 a1, .string a2, .string sp, .slice none 0 0, .string ⟨#[]⟩]) := by rw [← hW4, HT0.out]; exact (KX2.out.t03 _ _).drew
    have KT4 : Hid (Bk W4 T 63 #[.int .i64 a0, .int .i64 a1, .string a2, .string a3, .slice A n cap, .bool a5]) := by rw [← hW4]; exact ((KT2.out.far (p := ⟨X, 0, none⟩) (show T ≠ X by omega) _).far (p := ⟨X, 3, none⟩) (show T ≠ X by omega) _).drew
    have KR4 : Hid (Bk W4 R 32 #[r0, r1, r2, r3, r4, r5]) := by rw [← hW4]; exact ((KR2.out.far (p := ⟨X, 0, none⟩) (show R ≠ X by omega) _).far (p := ⟨X, 3, none⟩) (show R ≠ X by omega) _).drew
    have B4 : Hid (Below T w W4) := by rw [← hW4]; exact ((B2.out.setCell (show T ≤ X from hTX) _).setCell (show T ≤ X from hTX) _).drew
    have X4 : Hid (X + 1 ≤ W4.heap.size) := by rw [← hW4]; unfold Hid; show X + 1 ≤ ((w2.setCell ⟨X, 0, none⟩ _).setCell ⟨X, 3, none⟩ _).heap.size; rw [World.size_setCell, World.size_setCell]; exact X2.out
    rw [hW4]
    clear hW4 KX2 GB2 GE2 HTOP U2 KT2 KR2 B2 X2 f0 f3 x0 x3 k3 c0 hgX hXg hGX hXG hTX htr hrx HT0
    have KT2 := KT4
    have KR2 := KR4
    have B2 := B4
    have X2 := X4
    clear KT4 KR4 B4 X4
    have U4 := HU.out.below (w' := W4) (by rw [HTT.out]; exact B2.out)
    have c4 : W4.cell? ⟨T, 4, none⟩ = some (.slice A n cap) := KT2.out.cell 4
    have HV0 : Calls Tryz.prog 100 #[.slice A n cap, .string ⟨#[120, 109, 108, 110, 115]⟩] W4 fun e w' => e = .returned (.tuple #[.string (bts (attrOf al xmlnsL).1), .bool (attrOf al xmlnsL).2]) ∧ Below W4.heap.size W4 w' := valueT_any _ al xmlnsL W4 U4 (by have := HN.out; omega)
    obtain ⟨q, hq⟩ : ∃ q, attrOf al xmlnsL = q := ⟨_, rfl⟩
    have HSA : Hid (spaceOf st al = if q.2 then q.1 else innerSpace st) := by unfold Hid; rw [space_attr, hq]
    rw [hq] at HV0
    obtain ⟨q1, q2⟩ := q
    simp only at HV0 HSA
    have HV := Lib.hid HV0
    clear HV0 hq U4
    go_wp2_with fail
    refine HV.out.mono ?_
    rintro e w5 ⟨rfl, b5⟩
    have B5 : Hid (Below T w w5) := B2.out.trans (b5.mono (by have := X2.out; have := HTR.out; have := HRX.out; omega))
    have KT5 := Lib.hid (KT2.out.below b5 KT2.out.lt)
    have KR5 := Lib.hid (KR2.out.below b5 KR2.out.lt)
    have KX5 := Lib.hid (KX4.out.below b5 KX4.out.lt)
    have X5 : Hid (X + 1 ≤ w5.heap.size) := by have := X2.out; have := b5.size; unfold Hid; omega
    clear b5 c4 KT2 KR2 KX4 B2 X2 HV
    cases q2 with
    | false =>
      have hsq : bts (spaceOf st al) = sp := by rw [HSA.out, if_neg (by decide)]; exact HSP.out
      go_upto_region 8 with fail
      obtain ⟨sq, hs9⟩ : ∃ sq, sp = sq := ⟨_, rfl⟩
      obtain ⟨w6, hw6⟩ : ∃ w6, w5 = w6 := ⟨_, rfl⟩
      rw [hw6] at B5 KT5 KR5 KX5 X5 ⊢
      rw [hs9] at KX5 hsq
      have B6 := B5
      have KT6 := KT5
      have KR6 := KR5
      have KX6 := KX5
      have X6 := X5
      clear hw6 hs9 B5 KT5 KR5 KX5 X5 HSA
      have HSQ := Lib.hid hsq
      have c4 : w6.cell? ⟨T, 4, none⟩ = some (.slice A n cap) := KT6.out.cell 4
      clear hsq
      go_wp2_with fail
      go_loopw [49] (fun i wr => ∃ (k : Nat) (v : Value), k ≤ n ∧ i = .int .i64 k ∧ Hid (OwnA (X + 1) wr v (others (al.take k))) ∧ Hid (Bk wr X 32 #[.int .i64 tp, .int .i64 a1, .string a2, .string sq, v, .string ⟨#[]⟩]) ∧ Hid (Bk wr R 32 #[r0, r1, r2, r3, r4, r5]) ∧ Hid (Below T w wr) ∧ Hid (X + 1 ≤ wr.heap.size)) (fun i _ => n - (intOf i).toNat)
      case atStart => exact ⟨0, _, Nat.zero_le _, rfl, OwnA.nil _ _, KX6, KR6, B6, X6⟩
      case round =>
        obtain ⟨k, v, hk, rfl, ho, hx, hr, hb, hz⟩ := hrel
        clear KX6 KR6 B6 X6 KT6 c4
        by_cases hlt : k < n
        · have hlen : al.length = n := HN.out
          obtain ⟨ad, rfl, hlb, hc⟩ := HUC.out (by omega)
          rw [HTT.out] at hlb
          obtain ⟨c, hcx⟩ : ∃ c, al[k]? = some c := ⟨_, List.getElem?_eq_getElem (by omega)⟩
          obtain ⟨c0, c1⟩ := hc k c hcx
          rw [← hb.out.cell (p := ad.add (k * 2)) (by rw [addBlock]; exact hlb)] at c0
          rw [← hb.out.cell (p := ⟨(ad.add (k * 2)).block, (ad.add (k * 2)).off + 1, none⟩) (by show (ad.add (k * 2)).block < _; rw [addBlock]; exact hlb)] at c1
          have HOT := Lib.hid (others_take hcx)
          have hol : Hid ((others (al.take k)).length ≤ 1000000000) := by unfold Hid; have := others_len (al.take k); rw [List.length_take] at this; omega
          have heq := bts_eqb2 c.1 xmlnsL
          obtain ⟨y0, h0⟩ : ∃ a, bts c.1 = a := ⟨_, rfl⟩
          obtain ⟨y1, h1⟩ : ∃ a, bts c.2 = a := ⟨_, rfl⟩
          have hix : Hid (isX c = decide (c.1 = xmlnsL)) := rfl
          rw [h0] at c0 heq
          rw [h1] at c1
          have H0 := Lib.hid h0
          have H1 := Lib.hid h1
          obtain ⟨d, hd⟩ : ∃ d, decide (c.1 = xmlnsL) = d := ⟨_, rfl⟩
          rw [hd] at heq hix
          have hne : (y0.toList == [120, 109, 108, 110, 115]) = d := by
            rw [show ([120, 109, 108, 110, 115] : List UInt8) = (bts xmlnsL).toList by rw [ByteArray.toList_mk]; rfl]
            exact heq
          clear hc hcx h0 h1 hd hlen heq
          go_upto_region 11 with fail
          obtain ⟨Y, hY⟩ : ∃ Y, wr.heap.size = Y := ⟨_, rfl⟩
          obtain ⟨W7, hW7⟩ : ∃ W7, wr.alloc (.cells #[.string y0, .string y1] 45) = W7 := ⟨_, rfl⟩
          have hw7 : Below wr.heap.size wr W7 := by rw [← hW7]; exact (Below.refl _ _).alloc (Nat.le_refl _) _
          have O7 : Hid (OwnA (X + 1) W7 v (others (al.take k))) := ho.out.below hw7
          have KX7 := Lib.hid (hx.out.below hw7 hx.out.lt)
          have KR7 := Lib.hid (hr.out.below hw7 hr.out.lt)
          have B7 : Hid (Below T w W7) := hb.out.trans (hw7.mono (by have := hz.out; have := HTR.out; have := HRX.out; omega))
          have X7 : Hid (X + 1 ≤ W7.heap.size) := by have := hz.out; have := hw7.size; unfold Hid; omega
          have KY : Bk W7 Y 45 #[.string y0, .string y1] := by rw [← hW7, ← hY]; exact Bk.new _ _ _
          have y0c : W7.cell? ⟨Y, 0, none⟩ = some (.string y0) := KY.cell 0
          have y1c : W7.cell? ⟨Y, 1, none⟩ = some (.string y1) := KY.cell 1
          rw [hW7, hY]
          clear hW7 hY hw7 KY ho hx hr hb hz c0 c1
          cases d with
          | true =>
            have hta : Hid (others (al.take (k + 1)) = others (al.take k)) := by unfold Hid; rw [HOT.out, hix.out]; simp
            go_wp2_with fail
            go_roundw
            case rel => exact ⟨k + 1, v, by omega, by go_num, by rw [hta.out]; exact O7, KX7, KR7, B7, X7⟩
            case measure => simp [intOf]; omega
          | false =>
            have hta : Hid (others (al.take (k + 1)) = others (al.take k) ++ [c]) := by unfold Hid; rw [HOT.out, hix.out]; simp
            obtain ⟨VA, vcap, hv⟩ := O7.out.slice
            subst hv
            obtain ⟨no, hno⟩ : ∃ no, (others (al.take k)).length = no := ⟨_, rfl⟩
            have HNO := Lib.hid hno
            rw [hno] at O7 KX7
            clear hno
            have x4 : W7.cell? ⟨X, 4, none⟩ = some (.slice VA no vcap) := KX7.out.cell 4
            have hzz := X7.out
            go_wp2_with (at_builtin; refine push_attr rfl _ _ rfl (X + 1) (.slice VA no vcap) (others (al.take k)) c y0 y1 H0.out H1.out W7 rfl O7.out rfl hol.out hzz ?_)
            intro v' w8 o8 b8 k8
            have KX8 := Lib.hid (k8 _ _ _ KX7.out (by decide))
            have KR8 := Lib.hid (k8 _ _ _ KR7.out (by decide))
            have B8 : Hid (Below T w w8) := B7.out.trans (b8.mono (by have := HTR.out; have := HRX.out; omega))
            have X8 : Hid (X + 1 ≤ w8.heap.size) := by have := b8.size; unfold Hid; omega
            obtain ⟨VA', vcap', hv'⟩ := o8.slice
            subst hv'
            have O8 := Lib.hid o8
            have f4 : w8.frozen? ⟨X, 4, none⟩ = false := KX8.out.free 4
            have x48 : w8.cell? ⟨X, 4, none⟩ = some (.slice VA no vcap) := KX8.out.cell 4
            rw [show (others (al.take k) ++ [c]).length = no + 1 by rw [List.length_append, HNO.out]; rfl] at O8 ⊢
            clear o8 b8 k8 x4 hzz y0c y1c
            go_wp2_with fail
            have KX9 := Lib.hid (KX8.out.t4 (.slice VA' (no + 1) vcap'))
            have KR9 : Hid (Bk (w8.setCell ⟨X, 4, none⟩ (.slice VA' (no + 1) vcap')) R 32 #[r0, r1, r2, r3, r4, r5]) := KR8.out.far (p := ⟨X, 4, none⟩) (by have := HRX.out; show R ≠ X; omega) _
            go_roundw
            case rel => exact ⟨k + 1, _, by omega, by go_num, by rw [hta.out]; exact O8.out.stored KX8.out (by decide) 4 _, KX9, KR9, B8.out.setCell (by show T ≤ X; have := HTR.out; have := HRX.out; omega) _, by unfold Hid; rw [World.size_setCell]; exact X8.out⟩
            case measure => simp [intOf]; omega
        · have hke : k = n := by omega
          have hal : Hid (al.take k = al) := by unfold Hid; rw [List.take_of_length_le (by have := HN.out; omega)]
          have O9 : Hid (OwnA (X + 1) wr v (others al)) := by unfold Hid; rw [← hal.out]; exact ho.out
          obtain ⟨VA, vcap, hv⟩ := O9.out.slice
          subst hv
          obtain ⟨no, hno⟩ : ∃ no, (others al).length = no := ⟨_, rfl⟩
          rw [hno] at O9 hx
          clear hno
          have x0 : wr.cell? ⟨X, 0, none⟩ = some (.int .i64 tp) := hx.out.cell 0
          have x1 : wr.cell? ⟨X, 1, none⟩ = some (.int .i64 a1) := hx.out.cell 1
          have x2 : wr.cell? ⟨X, 2, none⟩ = some (.string a2) := hx.out.cell 2
          have x3 : wr.cell? ⟨X, 3, none⟩ = some (.string sq) := hx.out.cell 3
          have x4 : wr.cell? ⟨X, 4, none⟩ = some (.slice VA no vcap) := hx.out.cell 4
          have x5 : wr.cell? ⟨X, 5, none⟩ = some (.string ⟨#[]⟩) := hx.out.cell 5
          have e0 : wr.cell? ⟨R, 0, none⟩ = some r0 := hr.out.cell 0
          have e1 : wr.cell? ⟨R, 1, none⟩ = some r1 := hr.out.cell 1
          have e2 : wr.cell? ⟨R, 2, none⟩ = some r2 := hr.out.cell 2
          have e3 : wr.cell? ⟨R, 3, none⟩ = some r3 := hr.out.cell 3
          have e4 : wr.cell? ⟨R, 4, none⟩ = some r4 := hr.out.cell 4
          have e5 : wr.cell? ⟨R, 5, none⟩ = some r5 := hr.out.cell 5
          have f0 : wr.frozen? ⟨R, 0, none⟩ = false := hr.out.free 0
          have f1 : wr.frozen? ⟨R, 1, none⟩ = false := hr.out.free 1
          have f2 : wr.frozen? ⟨R, 2, none⟩ = false := hr.out.free 2
          have f3 : wr.frozen? ⟨R, 3, none⟩ = false := hr.out.free 3
          have f4 : wr.frozen? ⟨R, 4, none⟩ = false := hr.out.free 4
          have f5 : wr.frozen? ⟨R, 5, none⟩ = false := hr.out.free 5
          have KF := hr.out.six (.int .i64 tp) (.int .i64 a1) (.string a2) (.string sq) (.slice VA no vcap) (.string ⟨#[]⟩)
          have q0 : World.cell? (six R wr (.int .i64 tp) (.int .i64 a1) (.string a2) (.string sq) (.slice VA no vcap) (.string ⟨#[]⟩)) ⟨R, 0, none⟩ = some (.int .i64 tp) := KF.cell 0
          have q1 : World.cell? (six R wr (.int .i64 tp) (.int .i64 a1) (.string a2) (.string sq) (.slice VA no vcap) (.string ⟨#[]⟩)) ⟨R, 1, none⟩ = some (.int .i64 a1) := KF.cell 1
          have q2 : World.cell? (six R wr (.int .i64 tp) (.int .i64 a1) (.string a2) (.string sq) (.slice VA no vcap) (.string ⟨#[]⟩)) ⟨R, 2, none⟩ = some (.string a2) := KF.cell 2
          have q3 : World.cell? (six R wr (.int .i64 tp) (.int .i64 a1) (.string a2) (.string sq) (.slice VA no vcap) (.string ⟨#[]⟩)) ⟨R, 3, none⟩ = some (.string sq) := KF.cell 3
          have q4 : World.cell? (six R wr (.int .i64 tp) (.int .i64 a1) (.string a2) (.string sq) (.slice VA no vcap) (.string ⟨#[]⟩)) ⟨R, 4, none⟩ = some (.slice VA no vcap) := KF.cell 4
          have q5 : World.cell? (six R wr (.int .i64 tp) (.int .i64 a1) (.string a2) (.string sq) (.slice VA no vcap) (.string ⟨#[]⟩)) ⟨R, 5, none⟩ = some (.string ⟨#[]⟩) := KF.cell 5
          have hRX : R ≠ X := by have := HRX.out; omega
          have hXR : X ≠ R := fun e => hRX e.symm
          have HKR := hr
          have HB9 := hb
          clear hke hal ho hx hr hb hz KF
          go_wp2_with fail
          refine bodyPost_ret (v := .agg #[.int .i64 tp, .int .i64 a1, .string a2, .string sq, .slice VA no vcap, .string ⟨#[]⟩]) (by simp [results, Tryz.results73, go_sem, q0, q1, q2, q3, q4, q5]) rfl ⟨_, ?_, O9.out.row.keep (six_keepA HKR.out (by decide) _ _ _ _ _ _), ?_⟩
          · rw [HSQ.out, HTP.out]
          · rw [HTT.out]; exact (six_tn (T := R) (B := T) (Tn.of HB9.out) (by have := HTR.out; omega) _ _ _ _ _ _).below (by have := HTR.out; omega)
    | true =>
      have hsq0 : bts (spaceOf st al) = bts q1 := by rw [HSA.out, if_pos rfl]
      have f3 : w5.frozen? ⟨X, 3, none⟩ = false := KX5.out.free 3
      obtain ⟨xv3, x3⟩ : ∃ v, w5.cell? ⟨X, 3, none⟩ = some v := ⟨_, KX5.out.cell 3⟩
      obtain ⟨sq, hs9⟩ : ∃ sq, bts q1 = sq := ⟨_, rfl⟩
      rw [hs9] at hsq0 ⊢
      have hsq := Lib.hid hsq0
      clear hsq0 hs9
      go_upto_region 8 with fail
      obtain ⟨w6, hw6⟩ : ∃ w6, w5.setCell ⟨X, 3, none⟩ (.string sq) = w6 := ⟨_, rfl⟩
      have htr := HTR.out
      have hrx := HRX.out
      have B6 : Hid (Below T w w6) := by rw [← hw6]; exact B5.out.setCell (by show T ≤ X; omega) _
      have KT6 : Hid (Bk w6 T 63 #[.int .i64 a0, .int .i64 a1, .string a2, .string a3, .slice A n cap, .bool a5]) := by rw [← hw6]; exact KT5.out.far (p := ⟨X, 3, none⟩) (show T ≠ X by omega) _
      have KR6 : Hid (Bk w6 R 32 #[r0, r1, r2, r3, r4, r5]) := by rw [← hw6]; exact KR5.out.far (p := ⟨X, 3, none⟩) (show R ≠ X by omega) _
      have KX6 : Hid (Bk w6 X 32 #[.int .i64 tp, .int .i64 a1, .string a2, .string sq, .slice none 0 0, .string ⟨#[]⟩]) := by rw [← hw6]; exact KX5.out.t3 _
      have X6 : Hid (X + 1 ≤ w6.heap.size) := by rw [← hw6]; unfold Hid; rw [World.size_setCell]; exact X5.out
      rw [hw6]
      have hsq := hsq.out
      clear hw6 B5 KT5 KR5 KX5 X5 HSA f3 x3 htr hrx
      have HSQ := Lib.hid hsq
      have c4 : w6.cell? ⟨T, 4, none⟩ = some (.slice A n cap) := KT6.out.cell 4
      clear hsq
      go_wp2_with fail
      go_loopw [49] (fun i wr => ∃ (k : Nat) (v : Value), k ≤ n ∧ i = .int .i64 k ∧ Hid (OwnA (X + 1) wr v (others (al.take k))) ∧ Hid (Bk wr X 32 #[.int .i64 tp, .int .i64 a1, .string a2, .string sq, v, .string ⟨#[]⟩]) ∧ Hid (Bk wr R 32 #[r0, r1, r2, r3, r4, r5]) ∧ Hid (Below T w wr) ∧ Hid (X + 1 ≤ wr.heap.size)) (fun i _ => n - (intOf i).toNat)
      case atStart => exact ⟨0, _, Nat.zero_le _, rfl, OwnA.nil _ _, KX6, KR6, B6, X6⟩
      case round =>
        obtain ⟨k, v, hk, rfl, ho, hx, hr, hb, hz⟩ := hrel
        clear KX6 KR6 B6 X6 KT6 c4
        by_cases hlt : k < n
        · have hlen : al.length = n := HN.out
          obtain ⟨ad, rfl, hlb, hc⟩ := HUC.out (by omega)
          rw [HTT.out] at hlb
          obtain ⟨c, hcx⟩ : ∃ c, al[k]? = some c := ⟨_, List.getElem?_eq_getElem (by omega)⟩
          obtain ⟨c0, c1⟩ := hc k c hcx
          rw [← hb.out.cell (p := ad.add (k * 2)) (by rw [addBlock]; exact hlb)] at c0
          rw [← hb.out.cell (p := ⟨(ad.add (k * 2)).block, (ad.add (k * 2)).off + 1, none⟩) (by show (ad.add (k * 2)).block < _; rw [addBlock]; exact hlb)] at c1
          have HOT := Lib.hid (others_take hcx)
          have hol : Hid ((others (al.take k)).length ≤ 1000000000) := by unfold Hid; have := others_len (al.take k); rw [List.length_take] at this; omega
          have heq := bts_eqb2 c.1 xmlnsL
          obtain ⟨y0, h0⟩ : ∃ a, bts c.1 = a := ⟨_, rfl⟩
          obtain ⟨y1, h1⟩ : ∃ a, bts c.2 = a := ⟨_, rfl⟩
          have hix : Hid (isX c = decide (c.1 = xmlnsL)) := rfl
          rw [h0] at c0 heq
          rw [h1] at c1
          have H0 := Lib.hid h0
          have H1 := Lib.hid h1
          obtain ⟨d, hd⟩ : ∃ d, decide (c.1 = xmlnsL) = d := ⟨_, rfl⟩
          rw [hd] at heq hix
          have hne : (y0.toList == [120, 109, 108, 110, 115]) = d := by
            rw [show ([120, 109, 108, 110, 115] : List UInt8) = (bts xmlnsL).toList by rw [ByteArray.toList_mk]; rfl]
            exact heq
          clear hc hcx h0 h1 hd hlen heq
          go_upto_region 11 with fail
          obtain ⟨Y, hY⟩ : ∃ Y, wr.heap.size = Y := ⟨_, rfl⟩
          obtain ⟨W7, hW7⟩ : ∃ W7, wr.alloc (.cells #[.string y0, .string y1] 45) = W7 := ⟨_, rfl⟩
          have hw7 : Below wr.heap.size wr W7 := by rw [← hW7]; exact (Below.refl _ _).alloc (Nat.le_refl _) _
          have O7 : Hid (OwnA (X + 1) W7 v (others (al.take k))) := ho.out.below hw7
          have KX7 := Lib.hid (hx.out.below hw7 hx.out.lt)
          have KR7 := Lib.hid (hr.out.below hw7 hr.out.lt)
          have B7 : Hid (Below T w W7) := hb.out.trans (hw7.mono (by have := hz.out; have := HTR.out; have := HRX.out; omega))
          have X7 : Hid (X + 1 ≤ W7.heap.size) := by have := hz.out; have := hw7.size; unfold Hid; omega
          have KY : Bk W7 Y 45 #[.string y0, .string y1] := by rw [← hW7, ← hY]; exact Bk.new _ _ _
          have y0c : W7.cell? ⟨Y, 0, none⟩ = some (.string y0) := KY.cell 0
          have y1c : W7.cell? ⟨Y, 1, none⟩ = some (.string y1) := KY.cell 1
          rw [hW7, hY]
          clear hW7 hY hw7 KY ho hx hr hb hz c0 c1
          cases d with
          | true =>
            have hta : Hid (others (al.take (k + 1)) = others (al.take k)) := by unfold Hid; rw [HOT.out, hix.out]; simp
            go_wp2_with fail
            go_roundw
            case rel => exact ⟨k + 1, v, by omega, by go_num, by rw [hta.out]; exact O7, KX7, KR7, B7, X7⟩
            case measure => simp [intOf]; omega
          | false =>
            have hta : Hid (others (al.take (k + 1)) = others (al.take k) ++ [c]) := by unfold Hid; rw [HOT.out, hix.out]; simp
            obtain ⟨VA, vcap, hv⟩ := O7.out.slice
            subst hv
            obtain ⟨no, hno⟩ : ∃ no, (others (al.take k)).length = no := ⟨_, rfl⟩
            have HNO := Lib.hid hno
            rw [hno] at O7 KX7
            clear hno
            have x4 : W7.cell? ⟨X, 4, none⟩ = some (.slice VA no vcap) := KX7.out.cell 4
            have hzz := X7.out
            go_wp2_with (at_builtin; refine push_attr rfl _ _ rfl (X + 1) (.slice VA no vcap) (others (al.take k)) c y0 y1 H0.out H1.out W7 rfl O7.out rfl hol.out hzz ?_)
            intro v' w8 o8 b8 k8
            have KX8 := Lib.hid (k8 _ _ _ KX7.out (by decide))
            have KR8 := Lib.hid (k8 _ _ _ KR7.out (by decide))
            have B8 : Hid (Below T w w8) := B7.out.trans (b8.mono (by have := HTR.out; have := HRX.out; omega))
            have X8 : Hid (X + 1 ≤ w8.heap.size) := by have := b8.size; unfold Hid; omega
            obtain ⟨VA', vcap', hv'⟩ := o8.slice
            subst hv'
            have O8 := Lib.hid o8
            have f4 : w8.frozen? ⟨X, 4, none⟩ = false := KX8.out.free 4
            have x48 : w8.cell? ⟨X, 4, none⟩ = some (.slice VA no vcap) := KX8.out.cell 4
            rw [show (others (al.take k) ++ [c]).length = no + 1 by rw [List.length_append, HNO.out]; rfl] at O8 ⊢
            clear o8 b8 k8 x4 hzz y0c y1c
            go_wp2_with fail
            have KX9 := Lib.hid (KX8.out.t4 (.slice VA' (no + 1) vcap'))
            have KR9 : Hid (Bk (w8.setCell ⟨X, 4, none⟩ (.slice VA' (no + 1) vcap')) R 32 #[r0, r1, r2, r3, r4, r5]) := KR8.out.far (p := ⟨X, 4, none⟩) (by have := HRX.out; show R ≠ X; omega) _
            go_roundw
            case rel => exact ⟨k + 1, _, by omega, by go_num, by rw [hta.out]; exact O8.out.stored KX8.out (by decide) 4 _, KX9, KR9, B8.out.setCell (by show T ≤ X; have := HTR.out; have := HRX.out; omega) _, by unfold Hid; rw [World.size_setCell]; exact X8.out⟩
            case measure => simp [intOf]; omega
        · have hke : k = n := by omega
          have hal : Hid (al.take k = al) := by unfold Hid; rw [List.take_of_length_le (by have := HN.out; omega)]
          have O9 : Hid (OwnA (X + 1) wr v (others al)) := by unfold Hid; rw [← hal.out]; exact ho.out
          obtain ⟨VA, vcap, hv⟩ := O9.out.slice
          subst hv
          obtain ⟨no, hno⟩ : ∃ no, (others al).length = no := ⟨_, rfl⟩
          rw [hno] at O9 hx
          clear hno
          have x0 : wr.cell? ⟨X, 0, none⟩ = some (.int .i64 tp) := hx.out.cell 0
          have x1 : wr.cell? ⟨X, 1, none⟩ = some (.int .i64 a1) := hx.out.cell 1
          have x2 : wr.cell? ⟨X, 2, none⟩ = some (.string a2) := hx.out.cell 2
          have x3 : wr.cell? ⟨X, 3, none⟩ = some (.string sq) := hx.out.cell 3
          have x4 : wr.cell? ⟨X, 4, none⟩ = some (.slice VA no vcap) := hx.out.cell 4
          have x5 : wr.cell? ⟨X, 5, none⟩ = some (.string ⟨#[]⟩) := hx.out.cell 5
          have e0 : wr.cell? ⟨R, 0, none⟩ = some r0 := hr.out.cell 0
          have e1 : wr.cell? ⟨R, 1, none⟩ = some r1 := hr.out.cell 1
          have e2 : wr.cell? ⟨R, 2, none⟩ = some r2 := hr.out.cell 2
          have e3 : wr.cell? ⟨R, 3, none⟩ = some r3 := hr.out.cell 3
          have e4 : wr.cell? ⟨R, 4, none⟩ = some r4 := hr.out.cell 4
          have e5 : wr.cell? ⟨R, 5, none⟩ = some r5 := hr.out.cell 5
          have f0 : wr.frozen? ⟨R, 0, none⟩ = false := hr.out.free 0
          have f1 : wr.frozen? ⟨R, 1, none⟩ = false := hr.out.free 1
          have f2 : wr.frozen? ⟨R, 2, none⟩ = false := hr.out.free 2
          have f3 : wr.frozen? ⟨R, 3, none⟩ = false := hr.out.free 3
          have f4 : wr.frozen? ⟨R, 4, none⟩ = false := hr.out.free 4
          have f5 : wr.frozen? ⟨R, 5, none⟩ = false := hr.out.free 5
          have KF := hr.out.six (.int .i64 tp) (.int .i64 a1) (.string a2) (.string sq) (.slice VA no vcap) (.string ⟨#[]⟩)
          have q0 : World.cell? (six R wr (.int .i64 tp) (.int .i64 a1) (.string a2) (.string sq) (.slice VA no vcap) (.string ⟨#[]⟩)) ⟨R, 0, none⟩ = some (.int .i64 tp) := KF.cell 0
          have q1 : World.cell? (six R wr (.int .i64 tp) (.int .i64 a1) (.string a2) (.string sq) (.slice VA no vcap) (.string ⟨#[]⟩)) ⟨R, 1, none⟩ = some (.int .i64 a1) := KF.cell 1
          have q2 : World.cell? (six R wr (.int .i64 tp) (.int .i64 a1) (.string a2) (.string sq) (.slice VA no vcap) (.string ⟨#[]⟩)) ⟨R, 2, none⟩ = some (.string a2) := KF.cell 2
          have q3 : World.cell? (six R wr (.int .i64 tp) (.int .i64 a1) (.string a2) (.string sq) (.slice VA no vcap) (.string ⟨#[]⟩)) ⟨R, 3, none⟩ = some (.string sq) := KF.cell 3
          have q4 : World.cell? (six R wr (.int .i64 tp) (.int .i64 a1) (.string a2) (.string sq) (.slice VA no vcap) (.string ⟨#[]⟩)) ⟨R, 4, none⟩ = some (.slice VA no vcap) := KF.cell 4
          have q5 : World.cell? (six R wr (.int .i64 tp) (.int .i64 a1) (.string a2) (.string sq) (.slice VA no vcap) (.string ⟨#[]⟩)) ⟨R, 5, none⟩ = some (.string ⟨#[]⟩) := KF.cell 5
          have hRX : R ≠ X := by have := HRX.out; omega
          have hXR : X ≠ R := fun e => hRX e.symm
          have HKR := hr
          have HB9 := hb
          clear hke hal ho hx hr hb hz KF
          go_wp2_with fail
          refine bodyPost_ret (v := .agg #[.int .i64 tp, .int .i64 a1, .string a2, .string sq, .slice VA no vcap, .string ⟨#[]⟩]) (by simp [results, Tryz.results73, go_sem, q0, q1, q2, q3, q4, q5]) rfl ⟨_, ?_, O9.out.row.keep (six_keepA HKR.out (by decide) _ _ _ _ _ _), ?_⟩
          · rw [HSQ.out, HTP.out]
          · rw [HTT.out]; exact (six_tn (T := R) (B := T) (Tn.of HB9.out) (by have := HTR.out; omega) _ _ _ _ _ _).below (by have := HTR.out; omega)
end Go.Proofs.YtbkfmbkamocllaaGreatDoor
