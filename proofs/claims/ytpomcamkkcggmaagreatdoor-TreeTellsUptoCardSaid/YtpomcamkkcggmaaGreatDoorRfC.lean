/-
  cardexref08: an attribute.
-/
import Derived.Test.YtpomcamkkcggmaaGreatDoorRfA
import Derived.Test.YtpomcamkkcggmaaGreatDoorNum
import Derived.Test.YtpomcamkkcggmaaGreatDoorTkV
import Derived.Test.YtpomcamkkcggmaaGreatDoorTkS
import Derived.Deep.Cut
namespace Go.Proofs.YtpomcamkkcggmaaGreatDoor
open Go.RowKit Tk

theorem own_none (al : List Att) : own al none = none := rfl
theorem attrB_no {l : List UInt8} (h : (nameL l).1 = []) : attrB l = none := by unfold attrB; rw [if_pos h]
theorem attrB_is {l r2 : List UInt8} (h : (nameL l).1 ≠ []) (h2 : (nameL l).2.dropWhile bl = r2) : ((∀ t, r2 ≠ 61 :: t) → attrB l = none) ∧ (∀ t, r2 = 61 :: t → attrB l = (valL (t.dropWhile bl)).map fun v => (((nameL l).1, v.1), v.2)) := by
  unfold attrB
  rw [if_neg h, h2]
  refine ⟨fun hn => ?_, fun t e => by rw [e]; rfl⟩
  split
  · exact absurd rfl (hn _)
  · rfl
theorem own_dup' {al : List Att} {l : List UInt8} {o : Option (Att × List UInt8)} (h : o = attrB l) (hd : al.any (fun b => b.1 == (nameL l).1) = true) : own al o = none := by
  subst h
  cases hb : attrB l with
  | none => rfl
  | some p =>
    obtain ⟨_, r1, _, _, e⟩ := attrB_cat (a := p.1) (r := p.2) hb
    unfold own
    simp only
    rw [e, hd]
    rfl
theorem own_ok {al : List Att} {n x r : List UInt8} (hd : al.any (fun b => b.1 == n) = false) : own al (some ((n, x), r)) = some ((n, x), r) := by
  unfold own
  simp only
  rw [hd]
  rfl
/-- what the document's attribute answers -/
def RAtt (T B : Nat) (s : ByteArray) (al : List Att) (o : Option (Att × List UInt8)) (e : Ending) (w' : World) : Prop := match o with
  | some p => ∃ v', e = .returned (.tuple #[v', .bool true]) ∧ OwnA B w' v' (al ++ [p.1]) ∧ TX 84 w' T s p.2
  | none => ∃ A n cap r, e = .returned (.tuple #[.slice A n cap, .bool false]) ∧ TX 84 w' T s r
theorem RAtt.no {T B : Nat} {s : ByteArray} {al : List Att} {o : Option (Att × List UInt8)} {e : Ending} {w' : World} (h : o = none) (A : Option Addr) (n cap : Nat) (r : List UInt8) (he : e = .returned (.tuple #[.slice A n cap, .bool false])) (ht : TX 84 w' T s r) : RAtt T B s al o e w' := by
  subst h
  exact ⟨A, n, cap, r, he, ht⟩
theorem RAtt.yes {T B : Nat} {s : ByteArray} {al : List Att} {o : Option (Att × List UInt8)} {p : Att × List UInt8} {e : Ending} {w' : World} (h : o = some p) (v' : Value) (he : e = .returned (.tuple #[v', .bool true])) (ho : OwnA B w' v' (al ++ [p.1])) (ht : TX 84 w' T s p.2) : RAtt T B s al o e w' := by
  subst h
  exact ⟨v', he, ho, ht⟩
/-- An append of one attribute. -/
theorem push_att {ops : Array Oper} {rest : List Oper} {o : Oper} {a : Act} {Q : Exit → Act → World → Prop} (hgd : o.guard = none) (s x : Operand) (ho : o.op = .call { callee := .builtin .append, args := #[s, x], argTypes := #[32, 32] })
    (B : Nat) (v : Value) (l : List Att) (p : Att) (x1 x2 : ByteArray) (h1 : bts p.1 = x1) (h2 : bts p.2 = x2) (w0 : World) (hs : a.eval s = v) (hown : OwnA B w0 v l) (hx : a.eval x = .slice (some ⟨w0.heap.size, 0, none⟩) 1 1) (hn : l.length ≤ 1000000000) (hB : B ≤ w0.heap.size)
    (h : ∀ v' w', OwnA B w' v' (l ++ [p]) → Below B w0 w' → (∀ k, k < w0.heap.size → some k ≠ v.ownBlock → w'.heap[k]? = w0.heap[k]?) → wpList Tryz.prog ops Q rest (a.put o.dst v') w') : wpList Tryz.prog ops Q (o :: rest) a (w0.alloc (.cells #[.string x1, .string x2] 63)) := by
  subst h1 h2
  obtain ⟨i0, hi, hz0, hz1, hz2⟩ := info_parts infoAtt
  have hown' : w0.ownsRow B 63 2 v l.length (ats l) := hown
  refine wpList_append_own _ hgd s x 32 ho B 63 i0 _ 2 32 Tryz.underlying32 hi hz0 hz1 hz2 rfl (by decide) v l.length (ats l) hs (hown'.alloc _) ⟨w0.heap.size, 0, none⟩ 1 1 [.string (bts p.1), .string (bts p.2)] hx rfl ?_ ?_ ?_ (by omega) (by simp; omega) ?_
  · intro j y hj
    rw [add_at, cell_of_row _ _ _ #[_, _] _ (0, 0) (heap_alloc_new w0 _)]
    rw [Nat.zero_add]
    simpa using hj
  · intro y hy
    simp at hy
    rcases hy with rfl | rfl <;> rfl
  · unfold maxLen; omega
  · intro v' w' hown2 hg _
    refine h v' w' ?_ (((Below.refl B w0).alloc hB _).grown hg (by simp; omega) (fun j hj => (World.ownsRow.lt hown' j hj).1)) (fun k hk hne => ?_)
    · unfold OwnA
      rw [ats_append, ats_one, List.length_append, List.length_singleton]
      exact hown2
    · rw [hg.block k (by simp; omega) hne]
      exact Below.heap_alloc w0 _ k hk
theorem _root_.Go.RowKit.Below.drewNB {B : Nat} {w w' : World} (h : Below B w w') (n : Nat) : Below B w (w'.drewN n) := ⟨h.os, h.tape, h.output, h.size, h.block⟩
theorem TX.lo {ty : TypeId} {w : World} {T : Nat} {s : ByteArray} {r : List UInt8} (h : TX ty w T s r) : ∃ cs, Bk w T ty cs := by
  obtain ⟨k, _, _, h⟩ := h
  exact ⟨_, h⟩
set_option maxHeartbeats 8000000 in
set_option maxRecDepth 100000 in
theorem rattr_any (T B : Nat) (s : ByteArray) (l : List UInt8) (v : Value) (al : List Att) (w : World) (h : TX 84 w T s l) (hs : s.size ≤ 100000000) (hv : OwnA B w v al) (hTB : T < B) (hB : B ≤ w.heap.size) (hal : al.length ≤ 100000000) :
    Calls Tryz.prog 92 #[.pointer (some ⟨T, 0, none⟩), v] w fun e w' => RAtt T B s al (own al (attrB l)) e w' ∧ Tn T B w w' := by
  have HNA := Lib.hid (rname_any T s l w h hs)
  have HBL := Lib.hid (fun (r : List UInt8) (W : World) (a : TX 84 W T s r) => rblanks_any T s r W a hs)
  have HIS := Lib.hid (fun (r : List UInt8) (W : World) (a : TX 84 W T s r) => ris_any T s ⟨#[61]⟩ r W a hs (by show 1 ≤ 1000; omega))
  obtain ⟨nn, hnn⟩ : ∃ nn, bts (nameL l).1 = nn := ⟨_, rfl⟩
  have hN := empty_bts (nameL l).1
  rw [hnn] at HNA hN
  obtain ⟨N, hN1⟩ : ∃ N, (nameL l).1.isEmpty = N := ⟨_, rfl⟩
  rw [hN1] at hN
  have HN1 := Lib.hid hN1
  have HNN := Lib.hid hnn
  have HV := Lib.hid hv
  have HTB := Lib.hid hTB
  have HBW := Lib.hid hB
  have HSZ := Lib.hid (Lib.size_eq s)
  have HBA := Lib.hid (fun (x : ByteArray) (W : World) (hx : x.size ≤ 100000000) => rback_any x W (by omega))
  have HRE := Lib.hid (fun (q : UInt8) (k j : Nat) (a : k ≤ j) (b : j ≤ s.data.toList.length) c d => run_end (p := fun c => c != q) (l := s.data.toList) (k := k) (j := j) a b c d)
  have HPL := Lib.hid (fun (j : Nat) (W : World) (h : Bk W T 84 #[.string s, .int .i64 j]) => place_of h)
  obtain ⟨A, cap, rfl⟩ := hv.slice
  clear h hv hTB hB hnn hN1
  go_enter Tryz.func92, Tryz.ntmps92
  go_wp2_with fail
  refine HNA.out.mono ?_
  rintro e w1 ⟨rfl, ⟨r1, t1, hr1⟩, n1⟩
  have T1 := Lib.hid t1
  have N1 : Hid (Tn T B w w1) := n1.mono HBW.out
  have V1 : Hid (OwnA B w1 (.slice A al.length cap) al) := HV.out.tn n1 HTB.out
  have z1 : Hid (w.heap.size ≤ w1.heap.size) := n1.size
  have R1 := Lib.hid hr1
  obtain ⟨A', cap', e', hrow⟩ := V1.out.row.cells
  injection e' with e1 e2 e3
  subst e1 e3
  have HROW := Lib.hid hrow
  clear t1 n1 hr1 hrow e2
  go_wp2_with fail
  go_loop [7] (fun iv => ∃ k : Nat, k ≤ al.length ∧ iv = .int .i64 k ∧ Hid (∀ j a, j < k → al[j]? = some a → (a.1 == (nameL l).1) = false)) (fun iv => al.length - (intOf iv).toNat)
  case atStart => exact ⟨0, Nat.zero_le _, rfl, Lib.hid (fun j a h => absurd h (Nat.not_lt_zero _))⟩
  case round =>
    obtain ⟨k, hk, rfl, hno⟩ := hrel
    by_cases hlt : k < al.length
    · obtain ⟨g, rfl, hgl, hc⟩ := HROW.out (by omega)
      obtain ⟨p, hp⟩ : ∃ p, al[k]? = some p := ⟨_, List.getElem?_eq_getElem hlt⟩
      obtain ⟨c0, c1⟩ := hc k p hp
      have hbe := bts_eqb p.1 (nameL l).1
      rw [HNN.out] at hbe
      obtain ⟨x, hx⟩ : ∃ x, bts p.1 = x := ⟨_, rfl⟩
      rw [hx] at c0 hbe
      have HP := Lib.hid hp
      by_cases hpn : p.1 = (nameL l).1
      · have hD : Hid (own al (attrB l) = none) := own_dup' rfl (by rw [List.any_eq_true]; exact ⟨p, List.mem_of_getElem? hp, by rw [hpn]; simp⟩)
        rw [decide_eq_true hpn] at hbe
        clear hc hp hx hpn c1
        go_wp2_with fail
        go_ret2
        exact ⟨RAtt.no hD.out _ _ _ r1 rfl T1.out, N1.out⟩
      · have hno2 : Hid (∀ j a, j < k + 1 → al[j]? = some a → (a.1 == (nameL l).1) = false) := fun j a hj ha => by
          rcases Nat.lt_or_ge j k with h | h
          · exact hno.out j a h ha
          · obtain rfl : j = k := by omega
            rw [hp] at ha
            cases ha
            exact beq_eq_false_iff_ne.2 hpn
        rw [decide_eq_false hpn] at hbe
        clear hc hp hx hpn c1
        go_wp2_with fail
        go_round
        case rel => exact ⟨k + 1, by omega, by go_num, hno2⟩
        case measure => simp [intOf]; omega
    · have hke : Hid (al.length ≤ k) := by unfold Hid; omega
      have HD : Hid (al.any (fun b => b.1 == (nameL l).1) = false) := by
        unfold Hid
        rw [List.any_eq_false]
        intro a ha
        obtain ⟨j, hj, rfl⟩ := List.getElem_of_mem ha
        have := hno.out j _ (by have := hke.out; omega) (List.getElem?_eq_getElem hj)
        simpa using this
      go_wp2_with fail
      refine (HBL.out r1 w1 T1.out).mono ?_
      rintro e w2 ⟨rfl, t2, n2⟩
      have T2 := Lib.hid t2
      have N2 : Hid (Tn T B w w2) := N1.out.then n2 (by have := z1.out; have := HBW.out; omega)
      have V2 : Hid (OwnA B w2 (.slice A al.length cap) al) := V1.out.tn n2 HTB.out
      have z2 : Hid (B ≤ w2.heap.size) := by have := n2.size; have := z1.out; have := HBW.out; unfold Hid; omega
      clear t2 n2
      cases N with
      | true =>
        have hD : Hid (own al (attrB l) = none) := by unfold Hid; rw [attrB_no (List.isEmpty_iff.1 HN1.out)]; rfl
        go_wp2_with fail
        go_ret2
        exact ⟨RAtt.no hD.out _ _ _ _ rfl T2.out, N2.out⟩
      | false =>
        have hne : Hid ((nameL l).1 ≠ []) := fun e => by have := HN1.out; rw [e] at this; cases this
        have hr1e := R1.out hne.out
        obtain ⟨r2, hr2⟩ : ∃ r2, r1.dropWhile bl = r2 := ⟨_, rfl⟩
        rw [hr2] at T2
        rw [hr1e] at hr2
        obtain ⟨hb1, hb2⟩ := attrB_is hne.out hr2
        rcases one_prefix 61 r2 with ⟨hp, t, ht, ho⟩ | ⟨hp, ho, hnt⟩
        · have HI := Lib.hid (HIS.out r2 w2 T2.out)
          rw [hp, ho] at HI
          have HAB := Lib.hid (hb2 t ht)
          clear hp ho ht hb1 hb2 hr2 hr1e
          go_wp2_with fail
          refine HI.out.mono ?_
          rintro e w3 ⟨rfl, t3, n3⟩
          have T3 := Lib.hid t3
          have N3 : Hid (Tn T B w w3) := N2.out.then n3 z2.out
          have V3 : Hid (OwnA B w3 (.slice A al.length cap) al) := V2.out.tn n3 HTB.out
          have z3 : Hid (B ≤ w3.heap.size) := by have := n3.size; have := z2.out; unfold Hid; omega
          clear t3 n3
          go_wp2_with fail
          refine (HBL.out t w3 T3.out).mono ?_
          rintro e w4 ⟨rfl, t4, n4⟩
          have T4 := Lib.hid t4
          have N4 : Hid (Tn T B w w4) := N3.out.then n4 z3.out
          have V4 : Hid (OwnA B w4 (.slice A al.length cap) al) := V3.out.tn n4 HTB.out
          have z4 : Hid (B ≤ w4.heap.size) := by have := n4.size; have := z3.out; unfold Hid; omega
          clear t4 n4
          obtain ⟨r4, hr4e⟩ : ∃ r4, t.dropWhile bl = r4 := ⟨_, rfl⟩
          rw [hr4e] at T4
          have HAB2 : Hid (attrB l = (valL r4).map fun v => (((nameL l).1, v.1), v.2)) := by unfold Hid; rw [HAB.out, hr4e]
          clear hr4e
          obtain ⟨k4, hk4, hr4, hbk4, _⟩ := T4.out.at
          have c0 : w4.cell? ⟨T, 0, none⟩ = some (.string s) := hbk4.cell 0
          have c1 : w4.cell? ⟨T, 1, none⟩ = some (.int .i64 k4) := hbk4.cell 1
          have f1 : w4.frozen? ⟨T, 1, none⟩ = false := hbk4.free 1
          have HBK4 := Lib.hid hbk4
          have HR4 := Lib.hid hr4
          clear hr4 hbk4
          by_cases hlt4 : k4 < s.size
          · have gB4 : decide (s.size ≤ k4) = false := decide_eq_false (by omega)
            have hf4 := first_drop hlt4
            rw [← HR4.out] at hf4
            obtain ⟨c, hc⟩ : ∃ c : UInt8, s[k4]'hlt4 = c := ⟨_, rfl⟩
            rw [hc] at hf4
            obtain ⟨z, hz⟩ : ∃ z : Int, (c.toNat : Int) = z := ⟨_, rfl⟩
            have hcz : ((s[k4]'hlt4).toNat : Int) = z := by rw [hc]; exact hz
            have HF4 := Lib.hid hf4
            have HZ := Lib.hid hz
            by_cases hq : c = 34 ∨ c = 39
            · have HQ := Lib.hid hq
              have hqq : (z != 34) = false ∨ ((z != 34) = true ∧ (z != 39) = false) := by
                rcases hq with rfl | rfl
                · exact .inl (by rw [← hz]; rfl)
                · exact .inr ⟨by rw [← hz]; rfl, by rw [← hz]; rfl⟩
              obtain ⟨t5, ht5⟩ : ∃ t5, s.data.toList.drop (k4 + 1) = t5 := ⟨_, rfl⟩
              rw [ht5] at HF4
              have HT5 := Lib.hid ht5
              have hkz : k4 + 1 ≤ s.size := hlt4
              clear hf4 hc hz hq ht5
              rcases hqq with g34 | ⟨g34, g39⟩
              all_goals
                go_wp2_with fail
                go_quiet (fail)
                go_wp2_with fail
                go_quiet (fail)
                go_wp2_with fail
                go_loopw [] (fun wr => ∃ j : Nat, k4 + 1 ≤ j ∧ j ≤ s.size ∧ Hid (∀ i, k4 + 1 ≤ i → i < j → (s.data.toList.getD i 0 != c) = true) ∧ Hid (Bk wr T 84 #[.string s, .int .i64 j]) ∧ Hid (Tn T B w wr) ∧ Hid (OwnA B wr (.slice A al.length cap) al) ∧ Hid (B ≤ wr.heap.size)) (fun wr => s.size - placeOf T wr)
                case atStart => exact ⟨k4 + 1, Nat.le_refl _, hkz, Lib.hid (fun i h1 h2 => by omega), (HBK4.out.drewN _).place _, (N4.out.drewN _).set _ _, (OwnA.below V4.out ((Below.refl _ _).drewNB _)).stored (HBK4.out.drewN _) (by decide) 1 _, Nat.le_trans z4.out (by simp [World.setCell, World.drewN])⟩
                case round =>
                  obtain ⟨j, hkj, hjs, hall, hbk, htn, hvo, hzb⟩ := hrel
                  have hpl := Lib.hid (HPL.out j wr hbk.out)
                  have d0 : wr.cell? ⟨T, 0, none⟩ = some (.string s) := hbk.out.cell 0
                  have d1 : wr.cell? ⟨T, 1, none⟩ = some (.int .i64 j) := hbk.out.cell 1
                  have g1 : wr.frozen? ⟨T, 1, none⟩ = false := hbk.out.free 1
                  by_cases hlt : j < s.size
                  · have gB : decide ((j : Int) < (s.size : Int)) = true := decide_eq_true (by omega)
                    have hgd : Hid (s.data.toList.getD j 0 = s[j]'hlt) := by
                      unfold Hid
                      rw [List.getD_eq_getElem?_getD, Lib.data_getElem? s j hlt]
                      rfl
                    obtain ⟨d, hd⟩ : ∃ d : UInt8, s[j]'hlt = d := ⟨_, rfl⟩
                    have HC := Lib.hid (hgd.out.trans hd)
                    obtain ⟨y, hy⟩ : ∃ y : Int, (d.toNat : Int) = y := ⟨_, rfl⟩
                    have hdy : ((s[j]'hlt).toNat : Int) = y := by rw [hd]; exact hy
                    have hyz : (y != z) = (d != c) := by rw [ne_int d c, hy, HZ.out]
                    obtain ⟨pb, hpb⟩ : ∃ pb, (d != c) = pb := ⟨_, rfl⟩
                    rw [hpb] at hyz
                    have HPB := Lib.hid hpb
                    clear hgd hd hy hpb
                    cases pb with
                    | true =>
                      have hall2 : Hid (∀ i, k4 + 1 ≤ i → i < j + 1 → (s.data.toList.getD i 0 != c) = true) := fun i h1 h2 => by
                        rcases Nat.lt_or_ge i j with h | h
                        · exact hall.out i h1 h
                        · obtain rfl : i = j := by omega
                          rw [HC.out]; exact HPB.out
                      go_wp2_with fail
                      go_quiet (fail)
                      go_wp2_with fail
                      go_roundw
                      case rel => exact ⟨j + 1, by omega, by omega, hall2, (hbk.out.drewN _).place _, (htn.out.drewN _).set _ _, (OwnA.below hvo.out ((Below.refl _ _).drewNB _)).stored (hbk.out.drewN _) (by decide) 1 _, Nat.le_trans hzb.out (by simp [World.setCell, World.drewN])⟩
                      case measure => rw [place_of hbk.out, place_set (hbk.out.drewN _)]; omega
                    | false =>
                      have hE := Lib.hid (HRE.out c (k4 + 1) j hkj (by have := HSZ.out; omega) hall.out (fun _ => by rw [HC.out]; exact HPB.out))
                      have gB5 : decide (s.size ≤ j) = false := decide_eq_false (by omega)
                      have hdc : Hid (d = c) := by have := HPB.out; unfold Hid; simpa using this
                      have hdj : Hid (s.data.toList.drop j = c :: s.data.toList.drop (j + 1)) := by
                        unfold Hid
                        rw [first_drop hlt]
                        congr 1
                        rw [← hdc.out, ← HC.out, List.getD_eq_getElem?_getD, Lib.data_getElem? s j hlt]
                        rfl
                      obtain ⟨X, hX⟩ : ∃ X, t5.takeWhile (fun c' => c' != c) = X := ⟨_, rfl⟩
                      have hVal : Hid (valL r4 = (backO X).map fun x => (x, s.data.toList.drop (j + 1))) := by
                        unfold Hid
                        rw [HF4.out, ← hX]
                        refine val_shut HQ.out ?_
                        have := hE.out.2
                        rw [HT5.out] at this
                        rw [this, hdj.out]
                      have hcut : Hid (s.extract (k4 + 1) j = bts X) := by
                        have := hE.out.1
                        rw [HT5.out, hX] at this
                        unfold Hid
                        refine cut_bytes ?_
                        rw [HT5.out]
                        exact this
                      have hXs : X.length ≤ s.size := by
                        have h1 := while_len (fun c' => c' != c) t5
                        rw [hX, ← HT5.out, List.length_drop, ← HSZ.out] at h1
                        omega
                      have HBX := Lib.hid (fun (W : World) => HBA.out (bts X) W (by rw [Lib.size_eq]; exact Nat.le_trans hXs hs))
                      rw [show (bts X).data.toList = X from rfl] at HBX
                      obtain ⟨BX, hBX⟩ : ∃ BX, bts X = BX := ⟨_, rfl⟩
                      rw [hBX] at HBX
                      rw [hBX] at hcut
                      have hcutO := hcut.out
                      clear hX hBX hXs
                      go_wp2_with fail
                      go_quiet (fail)
                      go_wp2_with fail
                      go_quiet (fail)
                      go_wp2_with fail
                      have HBX2 : Hid (∀ W, Below wr.heap.size wr W → Calls Tryz.prog 68 #[.string BX] W fun e w' => e = .returned (backV X) ∧ Below wr.heap.size wr w') := fun W hW => (HBX.out W).mono (fun e w' h => ⟨h.1, hW.trans (h.2.mono hW.size)⟩)
                      rcases backV_cases X with ⟨x, hx1, hx2⟩ | ⟨m, hm, hx1, hx2⟩
                      · have HR : Hid (own al (attrB l) = some (((nameL l).1, x), s.data.toList.drop (j + 1))) := by
                          unfold Hid
                          rw [HAB2.out, hVal.out, hx1]
                          exact own_ok HD.out
                        obtain ⟨yx, hyx⟩ : ∃ yx, bts x = yx := ⟨_, rfl⟩
                        rw [hyx] at hx2
                        have HYX := Lib.hid hyx
                        rw [hx2] at HBX2
                        have hx0 := hx2
                        clear hx1 hx2 hyx hx0
                        go_region_with ((go_at_call 68; refine (HBX2.out _ ?_).mono ?_; exact ⟨rfl, rfl, rfl, Nat.le_refl _, fun _ _ => rfl⟩; rintro e w6 ⟨rfl, b6⟩; have K6 := Lib.hid (hbk.out.below b6 hbk.out.lt); have c6 : w6.cell? ⟨T, 1, none⟩ = some (.int .i64 j) := K6.out.cell 1; have f6 : w6.frozen? ⟨T, 1, none⟩ = false := K6.out.free 1; have N6 : Hid (Tn T B w w6) := htn.out.trans (.of (b6.mono hzb.out)); have V6 := Lib.hid (hvo.out.below b6); have Z6 : Hid (B ≤ w6.heap.size) := Nat.le_trans hzb.out b6.size; clear b6))
                        all_goals
                          go_upto_region 21 with fail
                          obtain ⟨W7, hW7⟩ : ∃ W7, w6.setCell ⟨T, 1, none⟩ (.int .i64 ((j : Int) + 1)) = W7 := ⟨_, rfl⟩
                          have T7 : Hid (TX 84 W7 T s (s.data.toList.drop (j + 1))) := by rw [← hW7]; exact ⟨j + 1, hlt, rfl, K6.out.place _⟩
                          have N7 : Hid (Tn T B w W7) := by rw [← hW7]; exact N6.out.set 1 _
                          have V7 : Hid (OwnA B W7 (.slice A al.length cap) al) := by rw [← hW7]; exact V6.out.stored K6.out (by decide) 1 _
                          have hZ7 : B ≤ W7.heap.size := by rw [← hW7]; exact Nat.le_trans Z6.out (by simp [World.setCell])
                          have hal2 : al.length ≤ 1000000000 := by omega
                          rw [hW7]
                          clear hW7 c6 f6
                          go_wp2_with (at_builtin; refine push_att rfl _ _ rfl B (.slice A al.length cap) al ((nameL l).1, x) nn yx HNN.out HYX.out W7 rfl V7.out rfl hal2 hZ7 ?_)
                          intro v8 w8 o8 b8 k8
                          have T8 := Lib.hid (T7.out.below b8 HTB.out)
                          have N8 : Hid (Tn T B w w8) := N7.out.trans (.of b8)
                          have O8 := Lib.hid o8
                          obtain ⟨A8, cap8, rfl⟩ := o8.slice
                          clear o8 b8 k8
                          go_wp2_with fail
                          go_ret2
                          exact ⟨RAtt.yes HR.out _ rfl O8.out T8.out, N8.out⟩
                      · have HR : Hid (own al (attrB l) = none) := by
                          unfold Hid
                          rw [HAB2.out, hVal.out, hx1]
                          rfl
                        have hm2 : (m == 0) = false := by simpa using hm
                        rw [hx2] at HBX2
                        clear hx1 hx2 hm
                        go_region_with ((go_at_call 68; refine (HBX2.out _ ?_).mono ?_; exact ⟨rfl, rfl, rfl, Nat.le_refl _, fun _ _ => rfl⟩; rintro e w6 ⟨rfl, b6⟩; have K6 := Lib.hid (hbk.out.below b6 hbk.out.lt); have c6 : w6.cell? ⟨T, 1, none⟩ = some (.int .i64 j) := K6.out.cell 1; have f6 : w6.frozen? ⟨T, 1, none⟩ = false := K6.out.free 1; have N6 : Hid (Tn T B w w6) := htn.out.trans (.of (b6.mono hzb.out)); have V6 := Lib.hid (hvo.out.below b6); have Z6 : Hid (B ≤ w6.heap.size) := Nat.le_trans hzb.out b6.size; clear b6))
                        all_goals
                          go_upto_region 21 with fail
                          obtain ⟨W7, hW7⟩ : ∃ W7, w6.setCell ⟨T, 1, none⟩ (.int .i64 ((j : Int) + 1)) = W7 := ⟨_, rfl⟩
                          have T7 : Hid (TX 84 W7 T s (s.data.toList.drop (j + 1))) := by rw [← hW7]; exact ⟨j + 1, hlt, rfl, K6.out.place _⟩
                          have N7 : Hid (Tn T B w W7) := by rw [← hW7]; exact N6.out.set 1 _
                          have V7 : Hid (OwnA B W7 (.slice A al.length cap) al) := by rw [← hW7]; exact V6.out.stored K6.out (by decide) 1 _
                          have hZ7 : B ≤ W7.heap.size := by rw [← hW7]; exact Nat.le_trans Z6.out (by simp [World.setCell])
                          have hal2 : al.length ≤ 1000000000 := by omega
                          rw [hW7]
                          clear hW7 c6 f6
                          go_wp2_with (at_builtin; refine push_att rfl _ _ rfl B (.slice A al.length cap) al ((nameL l).1, []) nn ⟨#[]⟩ HNN.out rfl W7 rfl V7.out rfl hal2 hZ7 ?_)
                          intro v8 w8 o8 b8 k8
                          have T8 := Lib.hid (T7.out.below b8 HTB.out)
                          have N8 : Hid (Tn T B w w8) := N7.out.trans (.of b8)
                          have O8 := Lib.hid o8
                          obtain ⟨A8, cap8, rfl⟩ := o8.slice
                          clear o8 b8 k8
                          go_wp2_with fail
                          go_ret2
                          exact ⟨RAtt.no HR.out _ _ _ _ rfl T8.out, N8.out⟩
                  · have gB : decide ((j : Int) < (s.size : Int)) = false := decide_eq_false (by omega)
                    have gB5 : decide (s.size ≤ j) = true := decide_eq_true (by omega)
                    have hE := Lib.hid (HRE.out c (k4 + 1) j hkj (by have := HSZ.out; omega) hall.out (fun h => by have := HSZ.out; omega))
                    have hD : Hid (own al (attrB l) = none) := by
                      unfold Hid
                      rw [HAB2.out, HF4.out, val_open HQ.out]
                      · rfl
                      · intro r e
                        have := hE.out.2
                        rw [HT5.out, e, List.drop_eq_nil_of_le (by rw [← HSZ.out]; omega)] at this
                        cases this
                    go_wp2_with fail
                    go_quiet (fail)
                    go_wp2_with fail
                    go_quiet (fail)
                    go_wp2_with fail
                    go_ret2
                    exact ⟨RAtt.no hD.out _ _ _ (s.data.toList.drop j) rfl ⟨j, hjs, rfl, (hbk.out.drewN _).drewN _⟩, (htn.out.drewN _).drewN _⟩
            · have hD : Hid (own al (attrB l) = none) := by
                unfold Hid
                rw [HAB2.out, HF4.out, val_cons, if_neg hq]
                rfl
              have g34 : (z != 34) = true := by
                rw [bne_iff_ne]
                intro e
                exact hq (.inl (UInt8.toNat_inj.1 (by have : ((34 : UInt8).toNat : Int) = 34 := rfl; omega)))
              have g39 : (z != 39) = true := by
                rw [bne_iff_ne]
                intro e
                exact hq (.inr (UInt8.toNat_inj.1 (by have : ((39 : UInt8).toNat : Int) = 39 := rfl; omega)))
              clear hf4 hc hz hq
              go_wp2_with fail
              go_quiet (fail)
              go_wp2_with fail
              go_ret2
              exact ⟨RAtt.no hD.out _ _ _ _ rfl (T4.out.drewN _), N4.out.drewN _⟩
          · have gB4 : decide (s.size ≤ k4) = true := decide_eq_true (by omega)
            have hD : Hid (own al (attrB l) = none) := by
              unfold Hid
              rw [HAB2.out, HR4.out, List.drop_eq_nil_of_le (by rw [← HSZ.out]; omega)]
              rfl
            go_wp2_with fail
            go_quiet (fail)
            go_wp2_with fail
            go_ret2
            exact ⟨RAtt.no hD.out _ _ _ _ rfl (T4.out.drewN _), N4.out.drewN _⟩
        · have HI := Lib.hid (HIS.out r2 w2 T2.out)
          rw [hp, ho] at HI
          have hD : Hid (own al (attrB l) = none) := by unfold Hid; rw [hb1 hnt]; rfl
          clear hp ho hnt hb1 hb2 hr2 hr1e
          go_wp2_with fail
          refine HI.out.mono ?_
          rintro e w3 ⟨rfl, t3, n3⟩
          have T3 := Lib.hid t3
          have N3 : Hid (Tn T B w w3) := N2.out.then n3 z2.out
          clear t3 n3
          go_wp2_with fail
          go_ret2
          exact ⟨RAtt.no hD.out _ _ _ _ rfl T3.out, N3.out⟩
end Go.Proofs.YtpomcamkkcggmaaGreatDoor
